/- The reference: words of syllables and names of places. -/
import Derived.Test.YtaldbjhalpgkeaaDoorGRefE
import Derived.Laws.IdiomStrings
namespace Go.Proofs.YtaldbjhalpgkeaaDoor
open Go.RowKit

def wordB (n : Int) : ByteArray := if n = 1 then ⟨#[117, 116]⟩ else if n = 2 then ⟨#[114, 101]⟩ else if n = 3 then ⟨#[109, 105]⟩ else if n = 4 then ⟨#[102, 97]⟩ else if n = 5 then ⟨#[115, 111, 108]⟩ else ⟨#[108, 97]⟩
def wordV (n : Int) : ByteArray × Int := if 1 ≤ n ∧ n ≤ 6 then (wordB n, 0) else (⟨#[]⟩, 2)

set_option maxHeartbeats 1000000 in
theorem rword_any (n : Int) (w : World) : Calls Tryd.prog 21 #[.int .i64 n] w fun e w' => e = .returned (.tuple #[.string (wordV n).1, .int .i64 (wordV n).2]) ∧ Below w.heap.size w w' := by
  unfold wordV
  by_cases h : 1 ≤ n ∧ n ≤ 6
  · rw [if_pos h]
    have : n = 1 ∨ n = 2 ∨ n = 3 ∨ n = 4 ∨ n = 5 ∨ n = 6 := by omega
    clear h
    rcases this with rfl | rfl | rfl | rfl | rfl | rfl
    all_goals
      go_enter Tryd.func21, Tryd.ntmps21
      go_wp2_with fail
      go_ret2
      exact ⟨rfl, w_alloc (w_refl w) _⟩
  · rw [if_neg h]
    have : n < 1 ∨ (1 ≤ n ∧ 6 < n) := by omega
    clear h
    rcases this with h | ⟨h, h2⟩
    all_goals
      go_enter Tryd.func21, Tryd.ntmps21
      go_wp2_with fail
      go_ret2
      exact ⟨rfl, w_refl w⟩

def letL : List ByteArray := [⟨#[71, 97, 109, 109, 97]⟩, ⟨#[65]⟩, ⟨#[66]⟩, ⟨#[67]⟩, ⟨#[68]⟩, ⟨#[69]⟩, ⟨#[70]⟩, ⟨#[71]⟩, ⟨#[97]⟩, ⟨#[98]⟩, ⟨#[99]⟩, ⟨#[100]⟩, ⟨#[101]⟩, ⟨#[102]⟩, ⟨#[103]⟩, ⟨#[97, 97]⟩, ⟨#[98, 98]⟩, ⟨#[99, 99]⟩, ⟨#[100, 100]⟩, ⟨#[101, 101]⟩]
def letB (n : Int) : ByteArray := letL.getD n.toNat ⟨#[]⟩

theorem conv1 (w : World) (b : UInt8) : (convert 91 9 (.slice (some ⟨w.heap.size, 0, none⟩) 1 1)).run Tryd.prog (w.alloc (.cells #[.int .u8 (b.toNat : Int)] 5)) = .ok (.string ⟨#[b]⟩) (w.alloc (.cells #[.int .u8 (b.toNat : Int)] 5)) :=
  run_convert_bytes_back _ _ _ 5 ⟨w.heap.size, 0, none⟩ 1 [b] Tryd.underlying91 Tryd.underlying5 Tryd.underlying9 (fun j hj => by
    have hj0 : j = 0 := by simp at hj; exact hj
    subst hj0
    exact lit_new w #[.int .u8 (b.toNat : Int)] 5 0 _ rfl)
theorem conv2 (w : World) (b c : UInt8) : (convert 91 9 (.slice (some ⟨w.heap.size, 0, none⟩) 2 2)).run Tryd.prog (w.alloc (.cells #[.int .u8 (b.toNat : Int), .int .u8 (c.toNat : Int)] 5)) = .ok (.string ⟨#[b, c]⟩) (w.alloc (.cells #[.int .u8 (b.toNat : Int), .int .u8 (c.toNat : Int)] 5)) :=
  run_convert_bytes_back _ _ _ 5 ⟨w.heap.size, 0, none⟩ 2 [b, c] Tryd.underlying91 Tryd.underlying5 Tryd.underlying9 (fun j hj => by
    have hj0 : j = 0 ∨ j = 1 := by simp at hj; omega
    rcases hj0 with rfl | rfl
    · exact lit_new w #[.int .u8 (b.toNat : Int), .int .u8 (c.toNat : Int)] 5 0 _ rfl
    · exact lit_new w #[.int .u8 (b.toNat : Int), .int .u8 (c.toNat : Int)] 5 1 _ rfl)

set_option maxHeartbeats 2000000 in
theorem rletter_any (n : Int) (h : 0 ≤ n ∧ n ≤ 19) (w : World) : Calls Tryd.prog 53 #[.int .i64 n] w fun e w' => e = .returned (.string (letB n)) ∧ Below w.heap.size w w' := by
  by_cases h0 : n = 0
  · subst h0
    go_enter Tryd.func53, Tryd.ntmps53
    go_wp2_with fail
    go_ret
    exact ⟨rfl, w_refl w⟩
  · by_cases h1 : n < 15
    · obtain ⟨b, hb, hr⟩ : ∃ b : UInt8, (b.toNat : Int) = (if n < 8 then 65 + n - 1 else 97 + n - 8) ∧ letB n = ⟨#[b]⟩ := by
        have : n = 1 ∨ n = 2 ∨ n = 3 ∨ n = 4 ∨ n = 5 ∨ n = 6 ∨ n = 7 ∨ n = 8 ∨ n = 9 ∨ n = 10 ∨ n = 11 ∨ n = 12 ∨ n = 13 ∨ n = 14 := by omega
        rcases this with rfl | rfl | rfl | rfl | rfl | rfl | rfl | rfl | rfl | rfl | rfl | rfl | rfl | rfl <;> exact ⟨_, rfl, rfl⟩
      rw [hr]
      have hc := conv1 w b
      rw [hb] at hc
      have h0' : (n == 0) = false := by simp [h0]
      by_cases h8 : n < 8
      · rw [if_pos h8] at hc
        have x1 : IntKind.i64.wrap (65 + n) = 65 + n := IntWalk.i64_in _ (by omega)
        have x2 : IntKind.i64.wrap (65 + n - 1) = 65 + n - 1 := IntWalk.i64_in _ (by omega)
        have x3 : IntKind.u8.wrap (65 + n - 1) = 65 + n - 1 := IntWalk.u8_in _ (by omega)
        clear h0 h1 hb hr
        go_enter Tryd.func53, Tryd.ntmps53
        go_wp2_with fail
        go_ret
        exact ⟨rfl, w_alloc (w_refl w) _⟩
      · rw [if_neg h8] at hc
        have x1 : IntKind.i64.wrap (97 + n) = 97 + n := IntWalk.i64_in _ (by omega)
        have x2 : IntKind.i64.wrap (97 + n - 8) = 97 + n - 8 := IntWalk.i64_in _ (by omega)
        have x3 : IntKind.u8.wrap (97 + n - 8) = 97 + n - 8 := IntWalk.u8_in _ (by omega)
        clear h0 hb hr
        go_enter Tryd.func53, Tryd.ntmps53
        go_wp2_with fail
        go_ret
        exact ⟨rfl, w_alloc (w_refl w) _⟩
    · obtain ⟨b, hb, hr⟩ : ∃ b : UInt8, (b.toNat : Int) = 97 + n - 15 ∧ letB n = ⟨#[b, b]⟩ := by
        have : n = 15 ∨ n = 16 ∨ n = 17 ∨ n = 18 ∨ n = 19 := by omega
        rcases this with rfl | rfl | rfl | rfl | rfl <;> exact ⟨_, rfl, rfl⟩
      rw [hr]
      have hc := conv2 w b b
      rw [hb] at hc
      have h0' : (n == 0) = false := by simp [h0]
      have h8 : ¬ n < 8 := by omega
      have x1 : IntKind.i64.wrap (97 + n) = 97 + n := IntWalk.i64_in _ (by omega)
      have x2 : IntKind.i64.wrap (97 + n - 15) = 97 + n - 15 := IntWalk.i64_in _ (by omega)
      have x3 : IntKind.u8.wrap (97 + n - 15) = 97 + n - 15 := IntWalk.u8_in _ (by omega)
      clear h0 hb hr
      go_enter Tryd.func53, Tryd.ntmps53
      go_wp2_with fail
      go_ret
      exact ⟨rfl, w_alloc (w_refl w) _⟩

def stepN (n : Int) (x : ByteArray × Bool) (h : Int) : ByteArray × Bool :=
  if n - beginI h + 1 < 1 ∨ 6 < n - beginI h + 1 then x
  else (((if x.2 = false ∧ (n = 9 ∨ n = 16) then x.1 ++ ⟨#[32]⟩ ++ letB n else x.1) ++ ⟨#[32]⟩ ++ wordB (n - beginI h + 1)), false)
def nameAt (n : Int) : Nat → ByteArray × Bool
  | 0 => (letB n, true)
  | k + 1 => stepN n (nameAt n k) (k + 1)
def nameV (n : Int) : ByteArray × Int := if 0 ≤ n ∧ n ≤ 19 then ((nameAt n 7).1, 0) else (⟨#[]⟩, 2)
theorem name_size : ∀ n : Fin 20, ∀ k : Fin 8, (nameAt n.val k.val).1.size ≤ 100 := by decide +kernel
theorem letB_size : ∀ n : Fin 20, (letB n.val).size ≤ 5 := by decide +kernel
theorem wordB_size (n : Int) : (wordB n).size ≤ 3 := by
  unfold wordB
  repeat' split
  all_goals decide

theorem name_nat {n : Int} (h : 0 ≤ n ∧ n ≤ 19) {k : Nat} (hk : k ≤ 7) : (nameAt n k).1.size ≤ 100 := by
  have := name_size ⟨n.toNat, by omega⟩ ⟨k, by omega⟩
  simp only at this
  rwa [show ((n.toNat : Nat) : Int) = n by omega] at this
theorem let_nat {n : Int} (h : 0 ≤ n ∧ n ≤ 19) : (letB n).size ≤ 5 := by
  have := letB_size ⟨n.toNat, by omega⟩
  simp only at this
  rwa [show ((n.toNat : Nat) : Int) = n by omega] at this

set_option maxHeartbeats 4000000 in
theorem rname_any (n : Int) (w : World) : Calls Tryd.prog 19 #[.int .i64 n] w fun e w' => e = .returned (.tuple #[.string (nameV n).1, .int .i64 (nameV n).2]) ∧ Below w.heap.size w w' := by
  unfold nameV
  by_cases hn : 0 ≤ n ∧ n ≤ 19
  · rw [if_pos hn]
    have LE := Lib.hid (fun W => rletter_any n hn W)
    have BE := Lib.hid (fun h (hh : 1 ≤ h ∧ h ≤ 7) W => rbegin_any h hh W)
    have SZ := Lib.hid (fun k (hk : k ≤ 7) => name_nat hn (k := k) hk)
    have LZ := Lib.hid (let_nat hn)
    have HN := Lib.hid hn
    obtain ⟨n0, n1⟩ := hn
    go_enter Tryd.func19, Tryd.ntmps19
    go_wp2_with fail
    refine (LE.out _).mono ?_
    rintro e w1 ⟨rfl, hb⟩
    have B1 := Lib.hid hb
    clear hb
    go_wp2_with fail
    go_loopw [4, 5, 6] (fun s f i wr => ∃ k : Nat, k ≤ 7 ∧ i = .int .i64 ((k : Int) + 1) ∧ s = .string (nameAt n k).1 ∧ f = .bool (nameAt n k).2 ∧ Hid (Below w.heap.size w wr)) (fun _ _ i _ => (8 - intOf i).toNat)
    case atStart => exact ⟨0, by omega, rfl, rfl, rfl, B1⟩
    case round =>
      obtain ⟨k, hk, rfl, rfl, rfl, hb⟩ := hrel
      by_cases hlt : k < 7
      · have BB := Lib.hid (fun W => BE.out ((k : Int) + 1) ⟨by omega, by omega⟩ W)
        have hlt' : (k : Int) + 1 ≤ 7 := by omega
        have hs := SZ.out k hk
        have hs2 := SZ.out (k + 1) hlt
        have hst := Lib.hid (show nameAt n (k + 1) = stepN n (nameAt n k) (k + 1) from rfl)
        have hbg := begin_bd ((k : Int) + 1)
        unfold stepN at hst
        generalize nameAt n k = X at *
        obtain ⟨s, f⟩ := X
        simp only at hs hst
        generalize beginI ((k : Int) + 1) = b at *
        have x1 : IntKind.i64.wrap (n - b) = n - b := IntWalk.i64_in _ (by omega)
        obtain ⟨y, hy⟩ : ∃ y, n - b + 1 = y := ⟨_, rfl⟩
        rw [hy] at hst
        have x2 : IntKind.i64.wrap (n - b + 1) = y := by rw [IntWalk.i64_in _ (by omega)]; exact hy
        clear hy
        have ways : (y < 1 ∧ (y < 1 ∨ 6 < y)) ∨ (1 ≤ y ∧ 6 < y ∧ (y < 1 ∨ 6 < y)) ∨ (1 ≤ y ∧ y ≤ 6 ∧ ¬ (y < 1 ∨ 6 < y)) := by omega
        rcases ways with ⟨y1, y2⟩ | ⟨y1, y3, y2⟩ | ⟨y1, y3, y2⟩
        · rw [if_pos y2] at hst
          clear y2 hs2
          go_wp2_with fail
          refine (BB.out _).mono ?_
          rintro e w2 ⟨rfl, hb2⟩
          have B2 := Lib.hid (w_below hb.out hb2)
          clear hb2 BB
          go_wp2_with fail
          go_roundw
          case rel => exact ⟨k + 1, by omega, by go_num, by rw [hst.out], by rw [hst.out], B2⟩
          case measure => simp [intOf]; omega
        · rw [if_pos y2] at hst
          clear y2 hs2
          go_wp2_with fail
          refine (BB.out _).mono ?_
          rintro e w2 ⟨rfl, hb2⟩
          have B2 := Lib.hid (w_below hb.out hb2)
          clear hb2 BB
          go_wp2_with fail
          go_roundw
          case rel => exact ⟨k + 1, by omega, by go_num, by rw [hst.out], by rw [hst.out], B2⟩
          case measure => simp [intOf]; omega
        · rw [if_neg y2] at hst
          have WD := Lib.hid (fun W => rword_any y W)
          unfold wordV at WD
          rw [if_pos ⟨y1, y3⟩] at WD
          have wz := wordB_size y
          have lz := LZ.out
          clear y2 hs2
          generalize wordB y = wd at *
          cases f with
          | true =>
            rw [if_neg (fun x => by cases x.1)] at hst
            go_wp2_with fail
            refine (BB.out _).mono ?_
            rintro e w2 ⟨rfl, hb2⟩
            have B2 := Lib.hid (w_below hb.out hb2)
            clear hb2 BB
            go_wp2_with fail
            refine (WD.out _).mono ?_
            rintro e w3 ⟨rfl, hb3⟩
            have B3 := Lib.hid (w_below B2.out hb3)
            clear hb3 WD
            go_wp2_with fail
            go_roundw
            case rel => exact ⟨k + 1, by omega, by go_num, by rw [hst.out], by rw [hst.out], B3⟩
            case measure => simp [intOf]; omega
          | false =>
            by_cases h9 : n = 9 ∨ n = 16
            · rw [if_pos ⟨rfl, h9⟩] at hst
              generalize letB n = lt at *
              have two : ((n == 9) = true) ∨ ((n == 9) = false ∧ (n == 16) = true) := by
                rcases h9 with h | h
                · exact .inl (by simp [h])
                · exact .inr ⟨by simp; omega, by simp [h]⟩
              clear h9
              rcases two with e9 | ⟨e9, e16⟩
              all_goals
                go_wp2_with fail
                refine (BB.out _).mono ?_
                rintro e w2 ⟨rfl, hb2⟩
                have B2 := Lib.hid (w_below hb.out hb2)
                clear hb2 BB
                go_wp2_with fail
                refine (LE.out _).mono ?_
                rintro e w4 ⟨rfl, hb4⟩
                have B4 := Lib.hid (w_below B2.out hb4)
                clear hb4
                go_wp2_with fail
                refine (WD.out _).mono ?_
                rintro e w3 ⟨rfl, hb3⟩
                have B3 := Lib.hid (w_below B4.out hb3)
                clear hb3 WD
                go_wp2_with fail
                go_roundw
                case rel => exact ⟨k + 1, by omega, by go_num, by rw [hst.out], by rw [hst.out], B3⟩
                case measure => simp [intOf]; omega
            · rw [if_neg (fun x => h9 x.2)] at hst
              have e9 : (n == 9) = false := by simp; omega
              have e16 : (n == 16) = false := by simp; omega
              clear h9
              go_wp2_with fail
              refine (BB.out _).mono ?_
              rintro e w2 ⟨rfl, hb2⟩
              have B2 := Lib.hid (w_below hb.out hb2)
              clear hb2 BB
              go_wp2_with fail
              refine (WD.out _).mono ?_
              rintro e w3 ⟨rfl, hb3⟩
              have B3 := Lib.hid (w_below B2.out hb3)
              clear hb3 WD
              go_wp2_with fail
              go_roundw
              case rel => exact ⟨k + 1, by omega, by go_num, by rw [hst.out], by rw [hst.out], B3⟩
              case measure => simp [intOf]; omega
      · obtain rfl : k = 7 := by omega
        go_wp2_with fail
        go_ret2
        exact ⟨rfl, hb.out⟩
  · rw [if_neg hn]
    have : n < 0 ∨ (0 ≤ n ∧ 19 < n) := by omega
    clear hn
    rcases this with h | ⟨h, h2⟩
    all_goals
      go_enter Tryd.func19, Tryd.ntmps19
      go_wp2_with fail
      go_ret2
      exact ⟨rfl, w_refl w⟩

end Go.Proofs.YtaldbjhalpgkeaaDoor
