/- The reference's Check and Values. -/
import Derived.Test.YtedkcnphplpacaaLgRefB
import Derived.Test.YtedkcnphplpacaaLgRefC
namespace Go.Proofs.Ytedkcnphplpacaa
open Go.RowKit

def scan (f : Nat → Int) : Nat → Nat → Int × Nat
  | _, 0 => (0, 0)
  | i, n + 1 => if f i ≠ 0 then (f i, i) else scan f (i + 1) n
theorem scan_hit {f : Nat → Int} {j : Nat} (hj : f j ≠ 0) : ∀ (n i : Nat), i ≤ j → j < i + n → (∀ k, i ≤ k → k < j → f k = 0) → scan f i n = (f j, j)
  | 0, i, h1, h2, _ => by omega
  | n + 1, i, h1, h2, h3 => by
    by_cases e : i = j
    · subst e; exact if_pos hj
    · have := scan_hit hj n (i + 1) (by omega) (by omega) (fun k a b => h3 k (by omega) b)
      show (if f i ≠ 0 then _ else _) = _
      rw [if_neg (by rw [h3 i (Nat.le_refl _) (by omega)]; decide), this]
theorem scan_none {f : Nat → Int} : ∀ (n i : Nat), (∀ k, i ≤ k → k < i + n → f k = 0) → scan f i n = (0, 0)
  | 0, _, _ => rfl
  | n + 1, i, h => by
    show (if f i ≠ 0 then _ else _) = _
    rw [if_neg (by rw [h i (Nat.le_refl _) (by omega)]; decide), scan_none n (i + 1) (fun k a b => h k (by omega) (by omega))]
/-- The error of a list of signs, and its number. -/
def chkG (l : List Sg) : Int × Nat := if 2 ≤ l.length ∧ l.length ≤ 12 then scan (errG l) 0 l.length else (11, 0)
def valsG (l : List Sg) : List Int := (List.range l.length).map (valG l)
theorem chk_full {l : List Sg} (h : ¬ (2 ≤ l.length ∧ l.length ≤ 12)) : chkG l = (11, 0) := if_neg h
theorem chk_hit {l : List Sg} (h : 2 ≤ l.length ∧ l.length ≤ 12) {j : Nat} (hj : j < l.length) (he : errG l j ≠ 0) (hb : ∀ k, k < j → errG l k = 0) : chkG l = (errG l j, j) := by
  unfold chkG; rw [if_pos h]; exact scan_hit he _ 0 (Nat.zero_le _) (by omega) (fun k _ hk => hb k hk)
theorem chk_ok {l : List Sg} (h : 2 ≤ l.length ∧ l.length ≤ 12) (hb : ∀ k, k < l.length → errG l k = 0) : chkG l = (0, 0) := by
  unfold chkG; rw [if_pos h]; exact scan_none _ 0 (fun k _ hk => hb k (by omega))

set_option maxHeartbeats 4000000 in
theorem rlchk_any (l : List Sg) (hm : l.length ≤ 1000) (p : Option Addr) (cap : Nat) (w : World) (h : SlP w 17 p l.length cap (flatG l)) :
    Calls Try.prog 18 #[.slice p l.length cap] w fun e w' => e = .returned (.tuple #[.int .i64 (chkG l).1, .int .i64 (chkG l).2]) ∧ Below w.heap.size w w' := by
  have f1 := h.fit
  have f2 := h.max
  have NT := Lib.hid (fun i hi W (b : Below w.heap.size w W) => rnote_any l i hi hm p cap W (h.later b))
  clear h
  by_cases hq : 2 ≤ l.length ∧ l.length ≤ 12
  · have HH := Lib.hid (fun j hj he hb => chk_hit (l := l) hq (j := j) hj he hb)
    have HO := Lib.hid (fun hb => chk_ok (l := l) hq hb)
    obtain ⟨q1, q2⟩ := hq
    have q3 : ¬ (l.length : Int) < 2 := by omega
    have q4 : ¬ (12 : Int) < l.length := by omega
    generalize chkG l = R at *
    generalize errG l = E at *
    obtain ⟨r1, r2⟩ := R
    go_enter Try.func18, Try.ntmps18
    go_wp2_with fail
    go_loopw [4] (fun s4 wr => ∃ k : Nat, k ≤ l.length ∧ s4 = .int .i64 k ∧ Hid (∀ j, j < k → E j = 0) ∧ Hid (Below w.heap.size w wr)) (fun s4 _ => l.length - (intOf s4).toNat)
    case atStart => exact ⟨0, by omega, rfl, Lib.hid (fun j hj => by omega), Lib.hid (w_refl w)⟩
    case round =>
      obtain ⟨k, hk, rfl, hall, hbr⟩ := hrel
      by_cases hlt : k < l.length
      · have hlt' : (k : Int) < l.length := by omega
        have N1 := Lib.hid (fun W b => NT.out k hlt W b)
        by_cases he : E k = 0
        · rw [he] at N1
          have hall2 := Lib.hid (show ∀ j, j < k + 1 → E j = 0 from fun j hj => by
            by_cases e : j = k
            · rw [e]; exact he
            · exact hall.out j (by omega))
          clear NT HH HO hall he
          go_wp2_with fail
          refine (N1.out _ hbr.out).mono ?_
          rintro e w2 ⟨rfl, hb⟩
          have hB := Lib.hid (w_below hbr.out hb)
          clear hb N1
          go_wp2_with fail
          go_roundw
          case rel => exact ⟨k + 1, by omega, by go_num, hall2, hB⟩
          case measure => simp [intOf]; omega
        · have hf := HH.out k hlt he hall.out
          have hfin := Lib.hid (show Ending.returned (Value.tuple #[.int .i64 r1, .int .i64 r2]) = .returned (.tuple #[.int .i64 (E k), .int .i64 (k : Int)]) by
            rw [Prod.mk.injEq] at hf; rw [hf.1, hf.2])
          have e1 : (E k == 0) = false := beq_eq_false_iff_ne.2 he
          have e2 : (E k != 0) = true := by simp [he]
          clear NT HH HO hall he hf
          generalize E k = ek at *
          go_wp2_with fail
          refine (N1.out _ hbr.out).mono ?_
          rintro e w2 ⟨rfl, hb⟩
          have hB := Lib.hid (w_below hbr.out hb)
          clear hb N1
          go_wp2_with fail
          go_ret2
          exact ⟨hfin.out.symm, hB.out⟩
      · have hlt' : ¬ (k : Int) < l.length := by omega
        have hf := HO.out (fun j hj => hall.out j (by omega))
        have hfin := Lib.hid (show Ending.returned (Value.tuple #[.int .i64 r1, .int .i64 r2]) = .returned (.tuple #[.int .i64 0, .int .i64 0]) by
          rw [Prod.mk.injEq] at hf; rw [hf.1, hf.2]; rfl)
        clear NT HH HO hall hf
        go_wp2_with fail
        go_ret2
        exact ⟨hfin.out.symm, hbr.out⟩
  · rw [chk_full hq]
    clear NT
    by_cases q3 : (l.length : Int) < 2
    · go_enter Try.func18, Try.ntmps18
      go_wp2_with fail
      go_ret2
      exact ⟨rfl, w_refl w⟩
    · have q4 : (12 : Int) < l.length := by omega
      go_enter Try.func18, Try.ntmps18
      go_wp2_with fail
      go_ret2
      exact ⟨rfl, w_refl w⟩

theorem scan_lt {f : Nat → Int} : ∀ (n i : Nat), (scan f i n).1 ≠ 0 → (scan f i n).1 = f (scan f i n).2
  | 0, _, h => absurd rfl h
  | n + 1, i, h => by
    by_cases e : f i ≠ 0
    · have e1 : scan f i (n + 1) = (f i, i) := if_pos e
      rw [e1]
    · have e1 : scan f i (n + 1) = scan f (i + 1) n := if_neg e
      rw [e1] at h ⊢
      exact scan_lt n (i + 1) h
theorem chk_len {l : List Sg} (h : (chkG l).1 = 0) : 2 ≤ l.length ∧ l.length ≤ 12 := by
  by_cases q : 2 ≤ l.length ∧ l.length ≤ 12
  · exact q
  · rw [chk_full q] at h; cases h
def ValPost (l : List Sg) (w : World) (e : Ending) (w' : World) : Prop := ∃ v, e = .returned (.tuple #[v, .int .i64 (chkG l).1]) ∧ IntV w' v (if (chkG l).1 = 0 then valsG l else []) ∧ Below w.heap.size w w'

set_option maxHeartbeats 4000000 in
theorem rlvals_any (l : List Sg) (hm : l.length ≤ 1000) (p : Option Addr) (cap : Nat) (w : World) (h : SlP w 17 p l.length cap (flatG l)) :
    Calls Try.prog 20 #[.slice p l.length cap] w (ValPost l w) := by
  unfold ValPost
  have f1 := h.fit
  have f2 := h.max
  obtain ⟨i0, hi0, hz0, hz1, hz2⟩ := info_parts info_int
  have CK := Lib.hid (rlchk_any l hm p cap w h)
  by_cases hc : (chkG l).1 = 0
  · have hq := chk_len hc
    have VA := Lib.hid (fun i hi W (b : Below w.heap.size w W) => rval_any l i hi hq.1 hm p cap W (h.later b))
    rw [if_pos hc, hc]
    rw [hc] at CK
    have hvl : ∀ k, k < l.length → ((List.range (k + 1)).map (valG l)) = ((List.range k).map (valG l)) ++ [valG l k] := fun k _ => by rw [List.range_succ, List.map_append]; rfl
    have HV := Lib.hid hvl
    have hT := Lib.hid (show valsG l = (List.range l.length).map (valG l) from rfl)
    clear h hc hvl
    generalize (chkG l).2 = cn at *
    generalize valsG l = V at *
    generalize valG l = vg at *
    go_enter Try.func20, Try.ntmps20
    go_wp2_with fail
    refine CK.out.mono ?_
    rintro e w1 ⟨rfl, hb⟩
    have B1 := Lib.hid hb
    clear hb CK
    go_wp2_with fail
    go_loopw [6, 7] (fun v i wr => ∃ k : Nat, k ≤ l.length ∧ i = .int .i64 k ∧ (∃ q c, v = .slice q k c) ∧ Hid (OwnL w1 wr 3 1 v k (ints ((List.range k).map vg)))) (fun _ i _ => l.length - (intOf i).toNat)
    case atStart => exact ⟨0, by omega, rfl, ⟨none, 0, rfl⟩, Lib.hid (OwnL.start _ _ _)⟩
    case round =>
      rename World => wr
      obtain ⟨k, hk, rfl, ⟨q, c, rfl⟩, ho⟩ := hrel
      by_cases hlt : k < l.length
      · have hlt' : (k : Int) < l.length := by omega
        have V1 := Lib.hid (fun W b => VA.out k hlt W b)
        have hE := Lib.hid (show ints ((List.range (k + 1)).map vg) = ints ((List.range k).map vg) ++ ints [vg k] by rw [HV.out k hlt]; exact List.map_append ..)
        have hBr := Lib.hid (w_below B1.out ho.out.bel)
        clear VA HV hT
        generalize vg k = x at *
        go_wp2_with fail
        refine (V1.out _ hBr.out).mono ?_
        rintro e w2 ⟨rfl, hb⟩
        have HO := Lib.hid (ho.out.later (w_alloc hb (.cells #[.int .i64 x] 3)))
        have H1 := Lib.hid (w_alloc hb (.cells #[.int .i64 x] 3))
        clear hb V1
        go_wp2_with (at_builtin; refine wpList_append_own_at _ rfl _ _ 22 rfl w1.heap.size 3 i0 (.int .i64 0) 1 8 Try.underlying22 hi0 hz0 hz1 hz2 rfl (by decide) _ k (ints ((List.range k).map vg)) rfl HO.out.row ⟨w2.heap.size, 0, none⟩ 1 1 (ints [x]) rfl rfl (lit_new _ _ _) (ints_one _) (by unfold maxLen; omega) (by omega) HO.out.bel.size ?_)
        intro v' w3 hown hgrow _ _
        have HN := Lib.hid (show OwnL w1 w3 3 1 v' (k + 1) (ints ((List.range (k + 1)).map vg)) by
          rw [hE.out]
          exact ho.out.app H1.out (by rw [show ints ((List.range k).map vg) = (List.range k).map (Value.int .i64 ∘ vg) from List.map_map ..]; exact hown) hgrow)
        obtain ⟨q2, c2, hv⟩ := HN.out.val
        subst hv
        clear hown hgrow HO H1
        go_wp2_with fail
        go_roundw
        case rel => exact ⟨k + 1, by omega, by go_num, ⟨q2, c2, rfl⟩, HN⟩
        case measure => simp [intOf]; omega
      · obtain rfl : k = l.length := by omega
        have hlt' : ¬ ((l.length : Int) < l.length) := by omega
        have HR := Lib.hid (show IntV wr (.slice q l.length c) V ∧ Below w.heap.size w wr from ⟨by
          rw [hT.out]
          have := ho.out.row
          exact IntV.of_own (zs := (List.range l.length).map vg) (by rw [List.length_map, List.length_range]; exact this), w_below B1.out ho.out.bel⟩)
        clear VA HV hT ho
        go_wp2_with fail
        go_ret2
        exact ⟨_, rfl, HR.out.1, HR.out.2⟩
  · rw [if_neg hc]
    have e1 : ((chkG l).1 == 0) = false := beq_eq_false_iff_ne.2 hc
    have e2 : ((chkG l).1 != 0) = true := by simp [hc]
    clear h hc
    generalize (chkG l).1 = ce at *
    generalize (chkG l).2 = cn at *
    go_enter Try.func20, Try.ntmps20
    go_wp2_with fail
    refine CK.out.mono ?_
    rintro e w1 ⟨rfl, hb⟩
    have B1 := Lib.hid hb
    clear hb CK
    go_wp2_with fail
    go_ret2
    exact ⟨_, rfl, IntV.none _, B1.out⟩

end Go.Proofs.Ytedkcnphplpacaa
