/- The program's Values. -/
import Derived.Test.YtedkcnphplpacaaLgProgC
import Derived.Deep.OwnRows
namespace Go.Proofs.Ytedkcnphplpacaa
open Go.RowKit

theorem val_eq {l : List Sg} {i : Nat} (he : errG l i = 0) : valP l i = valG l i := by
  have hf : fldE (l.getD i zS) = 0 := by
    refine Classical.byContradiction fun g => ?_
    have := err_fld g
    rw [he] at this
    exact g this.symm
  have hg := err_form rfl hf
  rw [he] at hg
  have hX : ((l.getD i zS).last != lastB l i || (!(sgE (l.getD i zS) (bareS (l.getD i zS))) || !(frmP l i))) = false := by
    cases h : ((l.getD i zS).last != lastB l i || (!(sgE (l.getD i zS) (bareS (l.getD i zS))) || !(frmP l i))) with
    | false => rfl
    | true => rw [h, if_pos rfl] at hg; cases hg
  rw [Bool.or_eq_false_iff, Bool.or_eq_false_iff] at hX
  obtain ⟨h1, _, h3⟩ := hX
  have hl : (l.getD i zS).last = lastB l i := by simpa using h1
  have hF : frmP l i = true := by simpa using h3
  unfold valP valG fstV lstV
  unfold frmP stP at hF
  rw [hl]
  generalize (l.getD 0 zS).stem = s0 at *
  by_cases a1 : (l.getD i zS).stem = 3
  · rw [if_pos (by simp only [a1]; rfl), if_pos a1]
  · rw [if_neg (by simpa using a1), if_neg a1]
    by_cases a2 : i < 2 ∧ s0 = 1
    · rw [if_pos (by simp [a2.1, a2.2]), if_pos a2]
    · rw [if_neg (by simpa using a2), if_neg a2]
      by_cases a3 : i = 0
      · subst a3
        rw [if_pos rfl, if_pos rfl]
        have e : (s0 == 2) = decide (s0 = 2) := by
          by_cases g : s0 = 2
          · subst g; rfl
          · rw [decide_eq_false g]; simpa using g
        rw [e]
        generalize decide (s0 = 2) = c1
        generalize decide ((l.getD 1 zS).place < (l.getD 0 zS).place) = c2
        cases c1 <;> cases c2 <;> rfl
      · rw [if_neg a3, if_neg a3]
        unfold lastB
        by_cases a4 : i + 1 = l.length
        · rw [if_pos (decide_eq_true a4)]
          have hne : (l.getD i zS).place ≠ (l.getD (i - 1) zS).place := by
            intro e
            rw [e] at hF
            simp [a3] at hF
          cases (l.getD (i - 1) zS).obl with
          | true => rw [if_pos (by rfl), if_neg (fun g => by cases g.2.1)]
          | false =>
            by_cases a5 : (l.getD i zS).place < (l.getD (i - 1) zS).place
            · rw [if_neg (by rw [decide_eq_false (by omega)]; decide), if_pos ⟨a4, rfl, a5⟩]
            · rw [if_pos (by rw [decide_eq_true (by omega)]; rfl), if_neg (fun g => a5 g.2.2)]
        · rw [if_neg (by rw [decide_eq_false a4]; decide), if_neg (fun g => a4 g.1)]
theorem chk_errs {l : List Sg} (h : (chkG l).1 = 0) {i : Nat} (hi : i < l.length) : errG l i = 0 := by
  have hq := chk_len h
  refine Classical.byContradiction fun g => ?_
  have key : ∀ n, n ≤ l.length → (∀ k, k < n → errG l k = 0) := by
    intro n
    induction n with
    | zero => intro _ k hk; omega
    | succ n ih =>
      intro hn k hk
      by_cases e : k = n
      · subst e
        refine Classical.byContradiction fun g2 => ?_
        have := chk_hit hq (show k < l.length by omega) g2 (ih (by omega))
        rw [this] at h
        exact g2 h
      · exact ih (by omega) k (by omega)
  exact g (key l.length (Nat.le_refl _) i hi)

/-- The first k of n numbers have been filled in. -/
def fillA (f : Nat → Int) (n k : Nat) : Array Value := ((List.range n).map fun i => Value.int .i64 (if i < k then f i else 0)).toArray
theorem fillA_at (f : Nat → Int) {n i : Nat} (k : Nat) (h : i < n) : (fillA f n k)[i]? = some (.int .i64 (if i < k then f i else 0)) := by
  unfold fillA; simp [List.getElem?_range h]
theorem fillA_size (f : Nat → Int) (n k : Nat) : (fillA f n k).size = n := by unfold fillA; simp
theorem fillA_zero (f : Nat → Int) (n : Nat) : madeCells #[.int .i64 0] n = fillA f n 0 := by
  apply Array.ext_getElem?
  intro i
  by_cases h : i < n
  · rw [fillA_at f 0 h]; simp [madeCells, h, Nat.mod_one]
  · rw [Array.getElem?_eq_none (by rw [size_madeCells]; omega), Array.getElem?_eq_none (by rw [fillA_size]; omega)]
theorem fillA_put (f : Nat → Int) (n k : Nat) : (fillA f n k).setIfInBounds k (.int .i64 (f k)) = fillA f n (k + 1) := by
  apply Array.ext_getElem?
  intro i
  by_cases hi : i < n
  · rw [fillA_at f (k + 1) hi]
    by_cases e : k = i
    · subst e
      rw [Array.getElem?_setIfInBounds_self_of_lt (by rw [fillA_size]; exact hi), if_pos (by omega)]
    · rw [Array.getElem?_setIfInBounds_ne e, fillA_at f k hi]
      by_cases g : i < k
      · rw [if_pos g, if_pos (by omega)]
      · rw [if_neg g, if_neg (by omega)]
  · rw [Array.getElem?_eq_none (by rw [Array.size_setIfInBounds, fillA_size]; omega), Array.getElem?_eq_none (by rw [fillA_size]; omega)]
theorem fill_sl {w : World} {b n : Nat} {f : Nat → Int} (h : HoldsB w b 3 (fillA f n n)) (hn : n ≤ 1000) : SlP w 1 (some ⟨b, 0, none⟩) n n (ints ((List.range n).map f)) := by
  refine ⟨by simp, Nat.le_refl _, by omega, fun e => (by cases e), ints_one _, fun _ => ⟨b, 0, rfl, h.lt, fun j u hj => ?_⟩⟩
  rw [Nat.zero_add]
  refine h.cell ?_
  have hlt : j < n := by have := (List.getElem?_eq_some_iff.1 hj).1; simpa using this
  rw [fillA_at f n hlt, if_pos hlt, ← hj]
  simp [List.getElem?_range hlt]

set_option maxRecDepth 100000 in
set_option maxHeartbeats 8000000 in
theorem plvals_any (l : List Sg) (hm : l.length ≤ 1000) (p : Option Addr) (cap : Nat) (w : World) (h : SlP w 17 p l.length cap (flatG l)) :
    Calls Try.prog 19 #[.slice p l.length cap] w (ValPost l w) := by
  unfold ValPost
  have f1 := h.fit
  have f2 := h.max
  obtain ⟨i0, hi0, hz0, hz1, hz2⟩ := info_parts info_int
  have CK := Lib.hid (pchk_any l hm p cap w h)
  by_cases hc : (chkG l).1 = 0
  · have hq := chk_len hc
    have VA := Lib.hid (show ∀ i, i < l.length → ∀ br W, Below w.heap.size w W → RuAt W br → Calls Try.prog 44 #[.slice (some ⟨br, 0, none⟩) 4 4, .slice p l.length cap, .int .i64 i] W fun e w' => e = .returned (.int .i64 (valG l i)) ∧ Below W.heap.size W w' from fun i hi br W b hr => by
      have := pval_any l i hi hm (fun _ => hq.1) p cap br W hr (h.later b)
      rwa [val_eq (chk_errs hc hi)] at this)
    rw [if_pos hc, hc]
    rw [hc] at CK
    have RU := Lib.hid (fun W => prules_any W)
    have hT := Lib.hid (show valsG l = (List.range l.length).map (valG l) from rfl)
    have hq2 : l.length ≤ 12 := hq.2
    clear h hc hq
    generalize (chkG l).2 = cn at *
    generalize valsG l = V at *
    generalize valG l = vg at *
    go_enter Try.func19, Try.ntmps19
    go_wp2_with fail
    refine CK.out.mono ?_
    rintro e w1 ⟨rfl, hb⟩
    have B1 := Lib.hid hb
    clear hb CK
    go_wp2_with fail
    refine (RU.out _).mono ?_
    rintro e w2 ⟨rfl, rfl⟩
    have HR := Lib.hid (show RuAt (w1.alloc (.cells ruA 82)) w1.heap.size from ⟨HoldsB.new w1 _ _⟩)
    have B2 := Lib.hid (w_alloc B1.out (.cells ruA 82))
    generalize w1.alloc (.cells ruA 82) = w2 at *
    generalize w1.heap.size = br at *
    clear RU B1
    have B3 := Lib.hid (w_alloc B2.out (.cells (fillA vg l.length 0) 3))
    have HR3 := Lib.hid (HR.out.later (w_alloc (w_refl w2) (.cells (fillA vg l.length 0) 3)))
    have HW := Lib.hid (HoldsB.new w2 3 (fillA vg l.length 0))
    have mk : ∀ W, (Instr.makeSlice 22 (.int .i64 (l.length : Int)) (.int .i64 (l.length : Int))).run Try.prog W = .ok (.slice (some ⟨W.heap.size, 0, none⟩) l.length l.length) (W.alloc (.cells (fillA vg l.length 0) 3)) := fun W => by
      rw [← fillA_zero vg l.length]
      exact run_make_row 22 3 i0 _ Try.underlying22 hi0 hz0 hz1 rfl .i64 .i64 l.length (by rw [hz2]; omega) (by omega) W
    have hbel := Lib.hid (show w.heap.size ≤ w2.heap.size from B2.out.size)
    generalize hbv : w2.heap.size = bv at *
    clear B2 HR
    go_wp2_with fail

    clear mk hbv
    go_loopw [23] (fun s23 wr => ∃ k : Nat, k ≤ l.length ∧ s23 = .int .i64 k ∧ Hid (HoldsB wr bv 3 (fillA vg l.length k)) ∧ Hid (RuAt wr br) ∧ Hid (Below w.heap.size w wr)) (fun s23 _ => l.length - (intOf s23).toNat)
    case atStart => exact ⟨0, by omega, rfl, HW, HR3, B3⟩
    case round =>
      clear HW HR3 B3
      rename World => wr
      obtain ⟨k, hk, rfl, HW, HR, B⟩ := hrel
      by_cases hlt : k < l.length
      · have hlt' : (k : Int) < l.length := by omega
        have hk0 : (0 : Int) ≤ k := by omega
        have V1 := Lib.hid (VA.out k hlt br _ B.out HR.out)
        have hP := Lib.hid (fillA_put vg l.length k)
        have hA := Lib.hid (fillA_at vg k hlt)
        have hne : bv ≠ br := by
          intro e; subst e
          have h3 := Option.some.inj (HW.out.symm.trans HR.out.at_)
          injection h3 with _ h2 _
          exact absurd h2 (by decide)
        clear VA hT
        go_wp2_with fail
        refine V1.out.mono ?_
        rintro e w4 ⟨rfl, hb⟩
        have c0 := (HW.out.later hb).cell hA.out
        have fr := (HW.out.later hb).frozen k
        have HW2 := Lib.hid (show HoldsB (w4.setCell ⟨bv, k, none⟩ (.int .i64 (vg k))) bv 3 (fillA vg l.length (k + 1)) from hP.out ▸ (HW.out.later hb).set k _)
        have HR2 := Lib.hid (show RuAt (w4.setCell ⟨bv, k, none⟩ (.int .i64 (vg k))) br from ⟨(HR.out.later hb).at_.other (fun e => hne e.symm) _ _⟩)
        have Bn := Lib.hid (w_put (w_below B.out hb) hbel.out k (.int .i64 (vg k)))
        clear hb V1 HW HR B hP hA
        go_wp2_with fail
        go_roundw
        case rel => exact ⟨k + 1, by omega, by go_num, HW2, HR2, Bn⟩
        case measure => simp [intOf]; omega
      · obtain rfl : k = l.length := by omega
        have hlt' : ¬ ((l.length : Int) < l.length) := by omega
        have HS := Lib.hid (show IntV wr (.slice (some ⟨bv, 0, none⟩) l.length l.length) V from ⟨some ⟨bv, 0, none⟩, l.length, by rw [hT.out]; simp, by
          rw [hT.out]
          have := fill_sl HW.out (by omega)
          rwa [show ((List.range l.length).map vg).length = l.length by simp]⟩)
        clear VA hT HW HR
        go_wp2_with fail
        go_ret2
        exact ⟨_, rfl, HS.out, B.out⟩
  · rw [if_neg hc]
    have e1 : ((chkG l).1 == 0) = false := beq_eq_false_iff_ne.2 hc
    have e2 : ((chkG l).1 != 0) = true := by simp [hc]
    clear h hc
    generalize (chkG l).1 = ce at *
    generalize (chkG l).2 = cn at *
    go_enter Try.func19, Try.ntmps19
    go_wp2_with fail
    refine CK.out.mono ?_
    rintro e w1 ⟨rfl, hb⟩
    have B1 := Lib.hid hb
    clear hb CK
    go_wp2_with fail
    go_ret2
    exact ⟨_, rfl, IntV.none _, B1.out⟩

end Go.Proofs.Ytedkcnphplpacaa
