/- Ligatures made of numbers are valid; moved ones have the same values. -/
import Derived.Test.YtedkcnphplpacaaLgMade
namespace Go.Proofs.Ytedkcnphplpacaa

def mkS (n : Nat) (pl st : Nat → Int) (ob : Nat → Bool) (i : Nat) : Sg := ⟨4, 0, pl i, 0, false, st i, ob i, decide (i + 1 = n), 0, 0, 0, 0, false, 0, 0, 0, 0⟩
def mkL (n : Nat) (pl st : Nat → Int) (ob : Nat → Bool) : List Sg := (List.range n).map (mkS n pl st ob)
theorem mkL_len (n : Nat) (pl st : Nat → Int) (ob : Nat → Bool) : (mkL n pl st ob).length = n := by unfold mkL; simp
theorem mkL_at (n : Nat) (pl st : Nat → Int) (ob : Nat → Bool) {i : Nat} (h : i < n) : (mkL n pl st ob)[i]? = some (mkS n pl st ob i) := by
  unfold mkL; rw [List.getElem?_map, List.getElem?_range h]; rfl
theorem mkL_getD (n : Nat) (pl st : Nat → Int) (ob : Nat → Bool) {i : Nat} (h : i < n) : (mkL n pl st ob).getD i zS = mkS n pl st ob i := by
  simp [List.getD, mkL_at n pl st ob h]
/-- What makes such a ligature valid. -/
structure MkOk (n : Nat) (pl st : Nat → Int) (ob : Nat → Bool) : Prop where
  lo : 2 ≤ n
  hi : n ≤ 12
  pls : ∀ i, i < n → -4 ≤ pl i ∧ pl i ≤ 12
  sts : ∀ i, i < n → 0 ≤ st i ∧ st i ≤ 3
  later : ∀ i, 0 < i → i < n → st i ≠ 1 ∧ st i ≠ 2
  obs : ∀ i, i < n → ob i = true → i + 1 < n ∧ pl (i + 1) < pl i ∧ ob (i + 1) = false
  dif : ∀ i, i + 1 < n → pl i ≠ pl (i + 1)
  opp : st 0 = 1 → st 1 ≠ 3
theorem MkOk.err {n : Nat} {pl st : Nat → Int} {ob : Nat → Bool} (h : MkOk n pl st ob) {i : Nat} (hi : i < n) : errG (mkL n pl st ob) i = 0 := by
  have hg := mkL_getD n pl st ob hi
  have hf : fldE (mkS n pl st ob i) = 0 := by
    have a := h.pls i hi
    have b := h.sts i hi
    have nb : ¬ badRange (mkS n pl st ob i) := by unfold badRange mkS; simp only; omega
    unfold fldE
    rw [if_neg (fun g => g rfl), if_neg nb]
  rw [err_form hg hf]
  have e1 : (mkS n pl st ob i).last = lastB (mkL n pl st ob) i := by unfold lastB mkS; rw [mkL_len]
  have e2 : sgE (mkS n pl st ob i) (bareS (mkS n pl st ob i)) = true := (sgE_iff _ _).2 rfl
  have e3 : frmP (mkL n pl st ob) i = true := by
    unfold frmP
    have o1 : obP (mkL n pl st ob) i = false := by
      unfold obP
      rw [hg]
      cases ho : ob i with
      | false => show (ob i && _) = false; rw [ho]; rfl
      | true =>
        obtain ⟨a1, a2, a3⟩ := h.obs i hi ho
        rw [mkL_getD n pl st ob a1]
        show (ob i && (decide (i + 1 = n) || (ob (i + 1) || decide (pl i ≤ pl (i + 1))))) = false
        rw [a3, decide_eq_false (by omega), decide_eq_false (by omega)]; simp
    rw [o1]
    by_cases h0 : i = 0
    · rw [decide_eq_true h0]; rfl
    · have s1 : stP (mkL n pl st ob) i = false := by
        unfold stP
        rw [hg, mkL_getD n pl st ob (show i - 1 < n by omega)]
        have a := h.later i (by omega) hi
        have b := h.dif (i - 1) (by omega)
        rw [show i - 1 + 1 = i by omega] at b
        show ((st i == 1 || st i == 2) || pl i == pl (i - 1)) = false
        have b' : pl i ≠ pl (i - 1) := fun e => b e.symm
        simp [a.1, a.2, b']
      have r1 : rtP (mkL n pl st ob) i = true := by
        unfold rtP
        rw [hg, mkL_getD n pl st ob (show 0 < n by omega)]
        show ((decide (1 < i) || st i != 3) || st 0 != 1) = true
        by_cases h1 : 1 < i
        · rw [decide_eq_true h1]; rfl
        · obtain rfl : i = 1 := by omega
          by_cases h2 : st 0 = 1
          · have := h.opp h2
            simp [this]
          · simp [h2]
      rw [s1, r1]; simp
  rw [e1, e2, e3]; simp
theorem MkOk.chk {n : Nat} {pl st : Nat → Int} {ob : Nat → Bool} (h : MkOk n pl st ob) : (chkG (mkL n pl st ob)).1 = 0 := by
  rw [chk_ok (by rw [mkL_len]; exact ⟨h.lo, h.hi⟩) (fun k hk => h.err (by rwa [mkL_len] at hk))]
theorem mk_val {n : Nat} {pl st : Nat → Int} {ob : Nat → Bool} {i : Nat} (h2 : 2 ≤ n) (hi : i < n) (d : Int) : valG (mkL n (fun i => pl i + d) st ob) i = valG (mkL n pl st ob) i := by
  unfold valG
  rw [mkL_len, mkL_len, mkL_getD _ _ _ _ hi, mkL_getD _ _ _ _ hi, mkL_getD _ _ _ _ (show 0 < n by omega), mkL_getD _ _ _ _ (show 0 < n by omega), mkL_getD _ _ _ _ (show 1 < n by omega), mkL_getD _ _ _ _ (show 1 < n by omega),
    mkL_getD _ _ _ _ (show i - 1 < n by omega), mkL_getD _ _ _ _ (show i - 1 < n by omega)]
  unfold mkS
  simp only [Int.add_lt_add_iff_right]
theorem mk_vals {n : Nat} {pl st : Nat → Int} {ob : Nat → Bool} (h2 : 2 ≤ n) (d : Int) : valsG (mkL n (fun i => pl i + d) st ob) = valsG (mkL n pl st ob) := by
  unfold valsG
  rw [mkL_len, mkL_len]
  exact List.map_congr_left (fun i hi => mk_val h2 (List.mem_range.1 hi) d)

def stMd (kd : Nat → Nat) (i : Nat) : Int := if csM kd i = true then 3 else st0 kd i
theorem lsM_mk (P : List Int) (kd : Nat → Nat) : lsM P kd P.length = mkL P.length (fun i => P.getD i 0) (stMd kd) (obM P kd) := by
  unfold lsM mkL
  refine List.map_congr_left (fun i hi => ?_)
  rw [if_pos (List.mem_range.1 hi)]; rfl
theorem obM_co {P : List Int} {kd : Nat → Nat} {i : Nat} (h : obM P kd i = true) : coM P kd i = true ∧ obM P kd (i + 1) = false := by
  refine ⟨?_, ?_⟩
  · cases i with
    | zero => exact h
    | succ i =>
      have : (coM P kd (i + 1) && !obM P kd i) = true := h
      exact (Bool.and_eq_true_iff.1 this).1
  · show (coM P kd (i + 1) && !obM P kd i) = false
    rw [h]; simp
theorem made_mk {P : List Int} (hP : PaOk P) (h2 : 2 ≤ P.length) (kd : Nat → Nat) (d : Int) (hd : -4 ≤ d ∧ d ≤ 4) : MkOk P.length (fun i => P.getD i 0 + d) (stMd kd) (obM P kd) := by
  have h8 := hP.len
  refine ⟨h2, by omega, fun i hi => ?_, fun i hi => ?_, fun i h0 hi => ?_, fun i hi ho => ?_, fun i hi => ?_, fun h => ?_⟩
  · have := hP.bds i hi
    omega
  · unfold stMd st0
    split
    · omega
    · split <;> omega
  · unfold stMd st0
    rw [if_neg (show ¬ i = 0 by omega)]
    split <;> omega
  · obtain ⟨h1, h3⟩ := obM_co ho
    unfold coM at h1
    simp only [Bool.and_eq_true, decide_eq_true_eq] at h1
    exact ⟨h1.1.1, by have := h1.1.2; omega, h3⟩
  · have := hP.dif i hi
    omega
  · have hs : ((kd 0 % 4 : Nat) : Int) = 1 := by
      have : csM kd 0 = false := rfl
      unfold stMd at h
      rw [this] at h
      exact h
    unfold stMd csM st0
    rw [hs]
    simp

end Go.Proofs.Ytedkcnphplpacaa
