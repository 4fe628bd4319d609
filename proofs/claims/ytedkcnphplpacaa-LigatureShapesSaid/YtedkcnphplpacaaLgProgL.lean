/- The program's rank, and the library's Compare and Clone. -/
import Derived.Test.YtedkcnphplpacaaLgProgK
namespace Go.Proofs.Ytedkcnphplpacaa
open Go.RowKit

def obN (l : List Sg) : Nat → Nat
  | 0 => 0
  | k + 1 => obN l k + (if (l.getD k zS).obl = true then 1 else 0)
def rtN (l : List Sg) : Nat → Nat
  | 0 => 0
  | k + 1 => rtN l k + (if ((l.getD k zS).stem == 3) = true then 1 else 0)
theorem obN_le (l : List Sg) : ∀ k, obN l k ≤ k
  | 0 => Nat.le_refl _
  | k + 1 => by have := obN_le l k; unfold obN; split <;> omega
theorem rtN_le (l : List Sg) : ∀ k, rtN l k ≤ k
  | 0 => Nat.le_refl _
  | k + 1 => by have := rtN_le l k; unfold rtN; split <;> omega
def rkG (l : List Sg) : List Int := [(obN l l.length : Int), (rtN l l.length : Int), (l.getD 0 zS).stem]

set_option maxRecDepth 100000 in
set_option maxHeartbeats 4000000 in
theorem rank_any (l : List Sg) (h0 : 0 < l.length) (hm : l.length ≤ 1000) (p : Option Addr) (cap : Nat) (w : World) (h : SlP w 17 p l.length cap (flatG l)) :
    Calls Try.prog 48 #[.slice p l.length cap] w fun e w' => ∃ g, w.heap.size ≤ g ∧ e = .returned (.slice (some ⟨g, 0, none⟩) 3 3) ∧ Below w.heap.size w w' ∧ HoldsB w' g 3 (ints (rkG l)).toArray := by
  have f1 := h.fit
  have f2 := h.max
  obtain ⟨b, off, rfl, -, -⟩ := h.at_ h0
  have HG := Lib.hid (fun k (hk : k < l.length) W (b' : Below w.heap.size w W) => sg_at (h.later b') rfl hk)
  have hR : rkG l = [(obN l l.length : Int), (rtN l l.length : Int), (l.getD 0 zS).stem] := rfl
  have HOb := Lib.hid (show ∀ k, obN l (k + 1) = obN l k + (if (l.getD k zS).obl = true then 1 else 0) from fun k => rfl)
  have HRt := Lib.hid (show ∀ k, rtN l (k + 1) = rtN l k + (if ((l.getD k zS).stem == 3) = true then 1 else 0) from fun k => rfl)
  have HObl := Lib.hid (obN_le l)
  have HRtl := Lib.hid (rtN_le l)
  have ho0 : obN l 0 = 0 := rfl
  have hr0 : rtN l 0 = 0 := rfl
  have HRR := Lib.hid hR
  clear h hR
  generalize rkG l = R at *
  generalize obN l = on at *
  generalize rtN l = rn at *
  go_enter Try.func48, Try.ntmps48
  go_wp2_with fail
  go_loopw [3, 4, 9] (fun s3 s4 s9 wr => ∃ k : Nat, k ≤ l.length ∧ s9 = .int .i64 (k : Int) ∧ s3 = .int .i64 (on k : Int) ∧ s4 = .int .i64 (rn k : Int) ∧ Hid (Below w.heap.size w wr)) (fun _ _ s9 _ => l.length - (intOf s9).toNat)
  case atStart => exact ⟨0, by omega, rfl, by rw [ho0]; rfl, by rw [hr0]; rfl, Lib.hid (w_refl w)⟩
  case round =>
    rename World => wr
    clear ho0 hr0
    obtain ⟨k, hk, rfl, rfl, rfl, hbr⟩ := hrel
    by_cases hlt : k < l.length
    · have hlt' : (k : Int) < l.length := by omega
      have hk0 : (0 : Int) ≤ k := by omega
      have hs := HG.out k hlt wr hbr.out
      have ho := HOb.out k
      have hr := HRt.out k
      have hol := HObl.out k
      have hrl := HRtl.out k
      generalize l.getD k zS = s at *
      have HS := Lib.hid hs
      have HN := sg_new wr s
      have k6 := HN.cell (j := 6) (v := .bool s.obl) rfl
      have k5 := HN.cell (j := 5) (v := .int .i64 s.stem) rfl
      have B1 := Lib.hid (w_alloc hbr.out (sgO s))
      have xo : IntKind.i64.wrap ((on k : Int) + 1) = (on k : Int) + 1 := IntWalk.i64_in _ (by omega)
      have xr : IntKind.i64.wrap ((rn k : Int) + 1) = (rn k : Int) + 1 := IntWalk.i64_in _ (by omega)
      clear HN hs HOb HRt HObl HRtl HG HRR
      have HO1 := Lib.hid ho
      have HR1 := Lib.hid hr
      clear ho hr
      cases hob : s.obl with
      | true =>
        rw [hob, if_pos rfl] at HO1
        rw [hob] at k6
        cases hst : (s.stem == 3) with
        | true =>
          rw [hst, if_pos rfl] at HR1
          go_wp2_with (first | (refine wl_load b (off + k * 17) s (by kernel_rfl) HS.out ?_) | (refine wl_store0 wr.heap.size _ s rfl (by kernel_rfl) (by kernel_rfl) rfl ?_) | fail)
          go_roundw
          case rel => exact ⟨k + 1, by omega, by go_num, (by rw [HO1.out]; first | rfl | simp), (by rw [HR1.out]; first | rfl | simp), B1⟩
          case measure => simp [intOf]; omega
        | false =>
          rw [hst, if_neg (by decide), Nat.add_zero] at HR1
          go_wp2_with (first | (refine wl_load b (off + k * 17) s (by kernel_rfl) HS.out ?_) | (refine wl_store0 wr.heap.size _ s rfl (by kernel_rfl) (by kernel_rfl) rfl ?_) | fail)
          go_roundw
          case rel => exact ⟨k + 1, by omega, by go_num, (by rw [HO1.out]; first | rfl | simp), (by rw [HR1.out]; first | rfl | simp), B1⟩
          case measure => simp [intOf]; omega
      | false =>
        rw [hob, if_neg (by decide), Nat.add_zero] at HO1
        rw [hob] at k6
        cases hst : (s.stem == 3) with
        | true =>
          rw [hst, if_pos rfl] at HR1
          go_wp2_with (first | (refine wl_load b (off + k * 17) s (by kernel_rfl) HS.out ?_) | (refine wl_store0 wr.heap.size _ s rfl (by kernel_rfl) (by kernel_rfl) rfl ?_) | fail)
          go_roundw
          case rel => exact ⟨k + 1, by omega, by go_num, (by rw [HO1.out]; first | rfl | simp), (by rw [HR1.out]; first | rfl | simp), B1⟩
          case measure => simp [intOf]; omega
        | false =>
          rw [hst, if_neg (by decide), Nat.add_zero] at HR1
          go_wp2_with (first | (refine wl_load b (off + k * 17) s (by kernel_rfl) HS.out ?_) | (refine wl_store0 wr.heap.size _ s rfl (by kernel_rfl) (by kernel_rfl) rfl ?_) | fail)
          go_roundw
          case rel => exact ⟨k + 1, by omega, by go_num, (by rw [HO1.out]; first | rfl | simp), (by rw [HR1.out]; first | rfl | simp), B1⟩
          case measure => simp [intOf]; omega
    · obtain rfl : k = l.length := by omega
      have hlt' : ¬ ((l.length : Int) < l.length) := by omega
      have hl0 : (0 : Int) < l.length := by omega
      have hs := HG.out 0 h0 wr hbr.out
      have c5 := hs.e5
      simp only [Nat.zero_mul, Nat.add_zero] at c5
      generalize (l.getD 0 zS).stem = s0 at *
      have HN := Lib.hid (show HoldsB (wr.alloc (.cells #[.int .i64 (on l.length : Int), .int .i64 (rn l.length : Int), .int .i64 s0] 3)) wr.heap.size 3 (ints R).toArray from by rw [HRR.out]; exact HoldsB.new wr _ _)
      have B1 := Lib.hid (w_alloc hbr.out (.cells #[.int .i64 (on l.length : Int), .int .i64 (rn l.length : Int), .int .i64 s0] 3))
      have hsz := hbr.out.size
      clear hs HOb HRt HObl HRtl HG HRR
      go_wp2_with fail
      go_ret
      exact ⟨wr.heap.size, hsz, rfl, B1.out, HN.out⟩

/-! ### Two ranks are compared -/
def cmpI (x y : Int) : Int := if x < y then -1 else if y < x then 1 else 0
def cmpL : List Int → List Int → Int
  | x :: a, y :: b => if cmpI x y ≠ 0 then cmpI x y else cmpL a b
  | _, _ => 0
theorem nan_any (x : Int) (w : World) : Calls Try.prog 69 #[.int .i64 x] w fun e w' => e = .returned (.bool false) ∧ w' = w := by
  go_enter Try.func69, Try.ntmps69
  go_wp2_with fail
  go_ret
  exact ⟨rfl, rfl⟩
theorem cmpi_any (x y : Int) (w : World) : Calls Try.prog 65 #[.int .i64 x, .int .i64 y] w fun e w' => e = .returned (.int .i64 (cmpI x y)) ∧ w' = w := by
  have N := Lib.hid (fun x W => nan_any x W)
  unfold cmpI
  by_cases h1 : x < y
  · rw [if_pos h1]
    go_enter Try.func65, Try.ntmps65
    go_wp2_with fail
    refine (N.out _ _).mono ?_
    rintro e w1 ⟨rfl, rfl⟩
    go_wp2_with fail
    refine (N.out _ _).mono ?_
    rintro e w1 ⟨rfl, rfl⟩
    go_wp2_with fail
    go_ret
    exact ⟨rfl, rfl⟩
  · rw [if_neg h1]
    by_cases h2 : y < x
    · rw [if_pos h2]
      go_enter Try.func65, Try.ntmps65
      go_wp2_with fail
      refine (N.out _ _).mono ?_
      rintro e w1 ⟨rfl, rfl⟩
      go_wp2_with fail
      refine (N.out _ _).mono ?_
      rintro e w1 ⟨rfl, rfl⟩
      go_wp2_with fail
      go_ret
      exact ⟨rfl, rfl⟩
    · rw [if_neg h2]
      go_enter Try.func65, Try.ntmps65
      go_wp2_with fail
      refine (N.out _ _).mono ?_
      rintro e w1 ⟨rfl, rfl⟩
      go_wp2_with fail
      refine (N.out _ _).mono ?_
      rintro e w1 ⟨rfl, rfl⟩
      go_wp2_with fail
      go_ret
      exact ⟨rfl, rfl⟩
theorem cmpL_drop {a b : List Int} {k : Nat} (h1 : k < a.length) (h2 : k < b.length) : cmpL (a.drop k) (b.drop k) = if cmpI (a.getD k 0) (b.getD k 0) ≠ 0 then cmpI (a.getD k 0) (b.getD k 0) else cmpL (a.drop (k + 1)) (b.drop (k + 1)) := by
  rw [List.drop_eq_getElem_cons h1, List.drop_eq_getElem_cons h2]
  simp [cmpL, List.getD, List.getElem?_eq_getElem h1, List.getElem?_eq_getElem h2]
set_option maxHeartbeats 4000000 in
theorem cmpl_any (a b : List Int) (hab : b.length = a.length) (hm : a.length ≤ 1000) (p q : Option Addr) (cp cq : Nat) (w : World) (hp : SlP w 1 p a.length cp (ints a)) (hq : SlP w 1 q a.length cq (ints b)) :
    Calls Try.prog 49 #[.slice p a.length cp, .slice q a.length cq] w fun e w' => e = .returned (.int .i64 (cmpL a b)) ∧ w' = w := by
  have f1 := hp.fit
  have f2 := hp.max
  have f3 := hq.fit
  have f4 := hq.max
  have CI := Lib.hid (fun x y W => cmpi_any x y W)
  have HD := Lib.hid (fun k h1 h2 => cmpL_drop (a := a) (b := b) (k := k) h1 h2)
  have H0 := Lib.hid (show cmpL (a.drop 0) (b.drop 0) = cmpL a b from rfl)
  have HE := Lib.hid (show cmpL (a.drop a.length) (b.drop a.length) = 0 from by rw [List.drop_length]; rfl)
  have HA := Lib.hid hp
  have HB := Lib.hid hq
  have HL := Lib.hid hab
  clear hp hq hab
  generalize cmpL a b = C at *
  go_enter Try.func49, Try.ntmps49
  go_wp2_with fail
  go_loopw [11] (fun s11 wr => ∃ k : Nat, k ≤ a.length ∧ s11 = .int .i64 (k : Int) ∧ Hid (cmpL (a.drop k) (b.drop k) = C) ∧ wr = w) (fun s11 _ => a.length - (intOf s11).toNat)
  case atStart => exact ⟨0, by omega, rfl, H0, rfl⟩
  case round =>
    rename World => wr
    clear H0
    obtain ⟨k, hk, rfl, hC, hww⟩ := hrel
    subst hww
    by_cases hlt : k < a.length
    · have hlt' : (k : Int) < a.length := by omega
      have hk0 : (0 : Int) ≤ k := by omega
      have hd := HD.out k hlt (by rw [HL.out]; exact hlt)
      rw [hC.out] at hd
      obtain ⟨b1, o1, rfl, -, -⟩ := HA.out.at_ (by omega)
      obtain ⟨b2, o2, rfl, -, -⟩ := HB.out.at_ (by omega)
      have c0 := int_at HA.out hlt
      have d0 := int_at HB.out hlt
      obtain ⟨x, hx⟩ : ∃ x, a.getD k 0 = x := ⟨_, rfl⟩
      obtain ⟨y, hy⟩ : ∃ y, b.getD k 0 = y := ⟨_, rfl⟩
      rw [hx] at c0 hd
      rw [hy] at d0 hd
      have C1 := Lib.hid (fun W => CI.out x y W)
      clear hx hy hC HD HE HA HB CI
      by_cases hz : cmpI x y = 0
      · rw [if_neg (fun g => g hz)] at hd
        rw [hz] at C1
        have HC2 := Lib.hid hd.symm
        clear hd hz
        go_wp2_with fail
        refine (C1.out _).mono ?_
        rintro e w1 ⟨rfl, rfl⟩
        go_wp2_with fail
        go_roundw
        case rel => exact ⟨k + 1, by omega, by go_num, HC2, trivial⟩
        case measure => simp [intOf]; omega
      · rw [if_pos hz] at hd
        have e1 : (cmpI x y == 0) = false := beq_eq_false_iff_ne.2 hz
        have e2 : (cmpI x y != 0) = true := by simp [hz]
        have HC2 := Lib.hid hd
        clear hd hz
        generalize cmpI x y = z at *
        go_wp2_with fail
        refine (C1.out _).mono ?_
        rintro e w1 ⟨rfl, rfl⟩
        go_wp2_with fail
        go_ret
        exact ⟨by rw [HC2.out]; rfl, rfl⟩
    · obtain rfl : k = a.length := by omega
      have hlt' : ¬ ((a.length : Int) < a.length) := by omega
      have hz := Lib.hid (show C = 0 by rw [← hC.out]; exact HE.out)
      clear hC HD HE HA HB CI
      go_wp2_with fail
      go_ret
      exact ⟨by rw [hz.out]; rfl, rfl⟩

theorem run_eql_snil (w : World) (t e : TypeId) (a : Option Addr) (l c : Nat) (h : Try.prog.underlying t = some (.slice e)) : (binOp .eql t (.slice a l c) (.slice none 0 0)).run Try.prog w = .ok (.bool a.isNone) w := by
  have hq : ∀ d : Nat, (Op.equalIn (d + 1) t (.slice a l c) (.slice none 0 0)).run Try.prog w = .ok a.isNone w := fun d => by
    cases a <;> simp [Op.equalIn, run_underlying h]
  simp only [binOp]
  simp [Op.equal, Op.maxDepth, hq 9999]
set_option maxRecDepth 100000 in
set_option maxHeartbeats 2000000 in
theorem clone_any (a : Addr) (cap : Nat) (l : List Sg) (h0 : 0 < l.length) (hl : l.length ≤ 1000) (w : World) (h : SlP w 17 (some a) l.length cap (flatG l)) :
    Calls Try.prog 50 #[.slice (some a) l.length cap] w fun e w' => ∃ v, e = .returned v ∧ OwnL w w' 30 17 v l.length (flatG l) := by
  obtain ⟨i0, hi0, hz0, hz1, hz2⟩ := info_parts info_sign
  have f1 := h.fit
  have f2 := h.max
  have HS := Lib.hid h
  have heq := fun W => run_eql_snil W 23 30 (some a) l.length cap Try.underlying23
  rw [show (some a).isNone = false from rfl] at heq
  clear h
  go_enter Try.func50, Try.ntmps50
  go_wp2_with (at_builtin; refine wpList_append_sl rfl _ _ 23 rfl w.heap.size 30 i0 (sgv zS) 17 128 Try.underlying23 hi0 hz0 hz1 hz2 rfl (by decide) _ 0 (flatG []) rfl (World.ownsRow_lit w #[] 0 (Nat.le_refl _) (by unfold maxLen; omega) rfl) (some a) l.length cap (flatG l) rfl (HS.out.later (w_alloc (w_refl w) _)) (by unfold maxLen; omega) (by omega) (by simp) ?_)
  intro v' w1 hown hgrow
  have HN := Lib.hid (show OwnL w w1 30 17 v' l.length (flatG l) by
    have HA : OwnL w (w.alloc (.cells #[] 30)) 30 17 (.slice (some ⟨w.heap.size, 0, none⟩) 0 0) 0 (flatG []) := ⟨w_alloc (w_refl w) _, World.ownsRow_lit w #[] 0 (Nat.le_refl _) (by unfold maxLen; omega) rfl⟩
    have := HA.app (w_refl _) hown hgrow
    first | exact this | (rw [Nat.zero_add] at this; exact this))
  clear hown hgrow
  go_wp2_with fail
  go_ret
  exact ⟨_, rfl, HN.out⟩

end Go.Proofs.Ytedkcnphplpacaa
