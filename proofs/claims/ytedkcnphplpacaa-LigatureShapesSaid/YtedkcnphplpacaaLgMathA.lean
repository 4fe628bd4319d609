/- Which shapes the iterator gives: exactly those that are formed well and have the values. -/
import Derived.Test.YtedkcnphplpacaaLgProgF
import Derived.Test.YtedkcnphplpacaaLgPath
namespace Go.Proofs.Ytedkcnphplpacaa

/-- The signs that some choices of bodies and stems make at the places. -/
def bldP (ps : List Int) (cs : List (Bool × Int)) : List Sg := (List.range cs.length).map fun i => nxS ps i (cs.getD i (false, 0))
theorem bldP_len (ps : List Int) (cs : List (Bool × Int)) : (bldP ps cs).length = cs.length := by unfold bldP; simp
theorem bldP_at (ps : List Int) (cs : List (Bool × Int)) {i : Nat} (h : i < cs.length) : (bldP ps cs)[i]? = some (nxS ps i (cs.getD i (false, 0))) := by
  unfold bldP; rw [List.getElem?_map, List.getElem?_range h]; rfl
theorem bldP_getD (ps : List Int) (cs : List (Bool × Int)) {i : Nat} (h : i < cs.length) : (bldP ps cs).getD i zS = nxS ps i (cs.getD i (false, 0)) := by
  simp only [List.getD, bldP_at ps cs h]; rfl
theorem bldP_snoc (ps : List Int) (cs : List (Bool × Int)) (o : Bool × Int) : bldP ps (cs ++ [o]) = bldP ps cs ++ [nxS ps cs.length o] := by
  apply List.ext_getElem?
  intro i
  by_cases h : i < cs.length
  · rw [bldP_at ps _ (by simp; omega), List.getElem?_append_left (by rw [bldP_len]; exact h), bldP_at ps cs h, gd_left _ _ _ h]
  · by_cases e : i = cs.length
    · subst e
      rw [bldP_at ps _ (by simp), List.getElem?_append_right (by rw [bldP_len]; exact Nat.le_refl _), bldP_len, Nat.sub_self, gd_right _ _ _ (Nat.le_refl _), Nat.sub_self]
      rfl
    · rw [List.getElem?_eq_none (by rw [bldP_len, List.length_append]; simp; omega), List.getElem?_eq_none (by rw [List.length_append, bldP_len]; simp; omega)]
theorem bldP_inj {ps : List Int} {cs ds : List (Bool × Int)} (h : bldP ps cs = bldP ps ds) : cs = ds := by
  have hl : cs.length = ds.length := by rw [← bldP_len ps cs, h, bldP_len]
  apply List.ext_getElem?
  intro i
  by_cases hi : i < cs.length
  · have e1 := bldP_at ps cs hi
    have e2 := bldP_at ps ds (hl ▸ hi)
    rw [h, e2] at e1
    have e3 := Option.some.inj e1
    unfold nxS at e3
    injection e3 with _ _ _ _ _ a b
    have hi2 : i < ds.length := hl ▸ hi
    rw [List.getElem?_eq_getElem hi, List.getElem?_eq_getElem hi2]
    have g1 : cs.getD i (false, 0) = cs[i] := by simp [List.getD, List.getElem?_eq_getElem hi]
    have g2 : ds.getD i (false, 0) = ds[i] := by simp [List.getD, List.getElem?_eq_getElem hi2]
    rw [g1, g2] at a b
    exact congrArg some (Prod.ext b.symm a.symm)
  · rw [List.getElem?_eq_none (by omega), List.getElem?_eq_none (by omega)]

theorem mem_pAll (ps vs : List Int) : ∀ (k : Nat) (cs : List (Bool × Int)) (L : List Sg), L ∈ pAll ps vs k (bldP ps cs) ↔
    ∃ m : List (Bool × Int), m.length = k ∧ (∀ o ∈ m, o ∈ optP) ∧ L = bldP ps (cs ++ m) ∧ ∀ j, cs.length < j → j ≤ cs.length + k → hopP vs (bldP ps ((cs ++ m).take j)) = true
  | 0, cs, L => by
    constructor
    · intro h
      have : L = bldP ps cs := by simpa [pAll] using h
      exact ⟨[], rfl, by simp, by rw [List.append_nil]; exact this, fun j h1 h2 => by omega⟩
    · rintro ⟨m, hm, _, hL, _⟩
      obtain rfl : m = [] := List.eq_nil_of_length_eq_zero hm
      rw [List.append_nil] at hL
      rw [hL]
      simp [pAll]
  | k + 1, cs, L => by
    have hu : L ∈ pAll ps vs (k + 1) (bldP ps cs) ↔ ∃ o ∈ optP, hopP vs (bldP ps (cs ++ [o])) = true ∧ L ∈ pAll ps vs k (bldP ps (cs ++ [o])) := by
      show L ∈ optP.flatMap _ ↔ _
      rw [List.mem_flatMap]
      constructor
      · rintro ⟨o, ho, h⟩
        rw [bldP_len, ← bldP_snoc] at h
        by_cases g : hopP vs (bldP ps (cs ++ [o])) = true
        · rw [if_pos g] at h; exact ⟨o, ho, g, h⟩
        · rw [if_neg g] at h; simp at h
      · rintro ⟨o, ho, g, h⟩
        refine ⟨o, ho, ?_⟩
        rw [bldP_len, ← bldP_snoc, if_pos g]
        exact h
    rw [hu]
    constructor
    · rintro ⟨o, ho, hg, h⟩
      obtain ⟨m, hm, hall, hL, hj⟩ := (mem_pAll ps vs k (cs ++ [o]) L).1 h
      refine ⟨o :: m, by simp [hm], fun x hx => by
        rcases List.mem_cons.1 hx with rfl | hx
        · exact ho
        · exact hall x hx, by rw [hL, List.append_assoc]; rfl, fun j h1 h2 => ?_⟩
      have e : cs ++ o :: m = (cs ++ [o]) ++ m := by simp
      rw [e]
      by_cases c : j = cs.length + 1
      · rw [List.take_append_of_le_length (by simp; omega), List.take_of_length_le (by simp; omega)]
        exact hg
      · exact hj j (by simp; omega) (by simp; omega)
    · rintro ⟨m, hm, hall, hL, hj⟩
      match m, hm with
      | o :: m, hm =>
        have e : cs ++ o :: m = (cs ++ [o]) ++ m := by simp
        rw [e] at hL hj
        refine ⟨o, hall o (by simp), ?_, (mem_pAll ps vs k (cs ++ [o]) L).2 ⟨m, by simpa using hm, fun x hx => hall x (by simp [hx]), hL, fun j h1 h2 => hj j (by simp at h1; omega) (by simp at h2; omega)⟩⟩
        have := hj (cs.length + 1) (by omega) (by omega)
        rwa [List.take_append_of_le_length (by simp), List.take_of_length_le (by simp)] at this

/-! ### The tests of a note look one note ahead -/
theorem hopR_near (vs : List Int) {l m : List Sg} {i : Nat} (h : ∀ x, x ≤ i + 1 → l.getD x zS = m.getD x zS) : hopR vs l i = hopR vs m i := by
  have h0 := h 0 (by omega)
  have hi := h i (by omega)
  have hn := h (i + 1) (by omega)
  have hp := h (i - 1) (by omega)
  have hf : i = 0 → fstV l = fstV m := by
    intro e; subst e
    unfold fstV
    rw [h0, show l.getD 1 zS = m.getD 1 zS from hn]
  unfold hopR frmP obP stP rtP valP lstV
  rw [h0, hi, hn, hp]
  by_cases e : i = 0
  · rw [hf e]
  · rw [if_neg e, if_neg e]
theorem getD_take (ps : List Int) (c : List (Bool × Int)) {x j : Nat} (hx : x < j) (hj : j ≤ c.length) : (bldP ps (c.take j)).getD x zS = (bldP ps c).getD x zS := by
  rw [bldP_getD ps _ (by rw [List.length_take]; omega), bldP_getD ps _ (by omega)]
  congr 1
  simp only [List.getD]
  rw [List.getElem?_take_of_lt hx]
theorem hops_iff (ps vs : List Int) (c : List (Bool × Int)) (hc : c.length = ps.length) : (∀ j, 0 < j → j ≤ c.length → hopP vs (bldP ps (c.take j)) = true) ↔ ∀ i, i < c.length → hopR vs (bldP ps c) i = true := by
  have key : ∀ j, 0 < j → j ≤ c.length → (hopP vs (bldP ps (c.take j)) = ((decide (j - 1 = 0) || hopR vs (bldP ps (c.take j)) (j - 2)) && (!(decide (j = c.length)) || hopR vs (bldP ps (c.take j)) (j - 1)))) := by
    intro j h0 h1
    have hl : (bldP ps (c.take j)).length = j := by rw [bldP_len, List.length_take]; omega
    unfold hopP
    rw [hl, bldP_getD ps _ (show j - 1 < (c.take j).length by rw [List.length_take]; omega)]
    have : (nxS ps (j - 1) ((c.take j).getD (j - 1) (false, 0))).last = decide (j = c.length) := by
      show decide (j - 1 + 1 = ps.length) = _
      rw [show j - 1 + 1 = j by omega, hc]
    rw [this]
  have near : ∀ i j, i + 1 < j → j ≤ c.length → hopR vs (bldP ps (c.take j)) i = hopR vs (bldP ps c) i := fun i j h1 h2 => hopR_near vs (fun x hx => getD_take ps c (by omega) h2)
  constructor
  · intro h i hi
    by_cases e : i + 1 < c.length
    · have := h (i + 2) (by omega) (by omega)
      rw [key (i + 2) (by omega) (by omega), Bool.and_eq_true] at this
      have h1 := this.1
      rw [decide_eq_false (by omega), Bool.false_or, show i + 2 - 2 = i by omega, near i (i + 2) (by omega) (by omega)] at h1
      exact h1
    · have := h c.length (by omega) (Nat.le_refl _)
      rw [key c.length (by omega) (Nat.le_refl _), Bool.and_eq_true] at this
      have h1 := this.2
      rw [decide_eq_true rfl, Bool.not_true, Bool.false_or, List.take_of_length_le (Nat.le_refl _), show c.length - 1 = i by omega] at h1
      exact h1
  · intro h j h0 h1
    rw [key j h0 h1, Bool.and_eq_true]
    constructor
    · by_cases e : j - 1 = 0
      · rw [decide_eq_true e]; rfl
      · rw [near (j - 2) j (by omega) h1, h (j - 2) (by omega)]; simp
    · by_cases e : j = c.length
      · rw [e, List.take_of_length_le (Nat.le_refl _), h (c.length - 1) (by omega)]; simp
      · rw [decide_eq_false e]; rfl
theorem mem_all (ps vs : List Int) (L : List Sg) : L ∈ pAll ps vs ps.length [] ↔ ∃ c : List (Bool × Int), c.length = ps.length ∧ (∀ o ∈ c, o ∈ optP) ∧ L = bldP ps c ∧ ∀ i, i < ps.length → hopR vs L i = true := by
  have h := mem_pAll ps vs ps.length [] L
  have e0 : bldP ps [] = [] := rfl
  rw [e0] at h
  rw [h]
  constructor
  · rintro ⟨m, hm, ho, hL, hj⟩
    refine ⟨m, hm, ho, hL, fun i hi => ?_⟩
    rw [hL]
    exact (hops_iff ps vs m hm).1 (fun j h0 h1 => hj j (by simpa using h0) (by simp; omega)) i (by omega)
  · rintro ⟨c, hc, ho, hL, hi⟩
    refine ⟨c, hc, ho, hL, fun j h0 h1 => ?_⟩
    exact (hops_iff ps vs c hc).2 (fun i h => by have := hi i (by omega); rwa [hL] at this) j (by simpa using h0) (by simp at h1; omega)

/-! ### .. and that is to be valid and to have the values -/
theorem opt_stem {o : Bool × Int} (h : o ∈ optP) : 0 ≤ o.2 ∧ o.2 ≤ 3 := by
  have hall : ∀ o ∈ optP, 0 ≤ o.2 ∧ o.2 ≤ 3 := by decide
  exact hall o h
theorem opt_mem {b : Bool} {s : Int} (h0 : 0 ≤ s) (h3 : s ≤ 3) : (b, s) ∈ optP := by
  have c : s = 0 ∨ s = 1 ∨ s = 2 ∨ s = 3 := by omega
  rcases c with rfl | rfl | rfl | rfl <;> cases b <;> decide
theorem bld_fld {ps : List Int} {c : List (Bool × Int)} (hp : ∀ i, i < ps.length → -4 ≤ ps.getD i 0 ∧ ps.getD i 0 ≤ 12) (hc : c.length = ps.length) (ho : ∀ o ∈ c, o ∈ optP) {i : Nat} (hi : i < ps.length) : fldE ((bldP ps c).getD i zS) = 0 := by
  rw [bldP_getD ps c (by omega)]
  have h1 := hp i hi
  have hic : i < c.length := by omega
  have h2 : 0 ≤ (c.getD i (false, 0)).2 ∧ (c.getD i (false, 0)).2 ≤ 3 := by
    have e : c.getD i (false, 0) = c[i] := by simp [List.getD, List.getElem?_eq_getElem hic]
    rw [e]; exact opt_stem (ho _ (List.getElem_mem hic))
  have nb : ¬ badRange (nxS ps i (c.getD i (false, 0))) := by unfold badRange nxS; simp only; omega
  unfold fldE
  rw [if_neg (fun g => g rfl), if_neg nb]
theorem bld_err {ps : List Int} {c : List (Bool × Int)} (hp : ∀ i, i < ps.length → -4 ≤ ps.getD i 0 ∧ ps.getD i 0 ≤ 12) (hc : c.length = ps.length) (ho : ∀ o ∈ c, o ∈ optP) {i : Nat} (hi : i < ps.length) :
    errG (bldP ps c) i = if frmP (bldP ps c) i = true then 0 else 3 := by
  rw [err_form rfl (bld_fld hp hc ho hi)]
  have hg := bldP_getD ps c (show i < c.length by omega)
  have e1 : ((bldP ps c).getD i zS).last = lastB (bldP ps c) i := by rw [hg]; unfold lastB nxS; rw [bldP_len, hc]
  have e2 : sgE ((bldP ps c).getD i zS) (bareS ((bldP ps c).getD i zS)) = true := by rw [hg]; exact (sgE_iff _ _).2 rfl
  rw [e1, e2]
  cases frmP (bldP ps c) i <;> simp
/-- A shape that is given is valid, and has the values. -/
theorem all_valid {ps vs : List Int} (hp : ∀ i, i < ps.length → -4 ≤ ps.getD i 0 ∧ ps.getD i 0 ≤ 12) {L : List Sg} (h : L ∈ pAll ps vs ps.length []) : L.length = ps.length ∧ (∀ i, i < ps.length → errG L i = 0 ∧ valG L i = vs.getD i 0) := by
  obtain ⟨c, hc, ho, hL, hi⟩ := (mem_all ps vs L).1 h
  refine ⟨by rw [hL, bldP_len, hc], fun i hlt => ?_⟩
  have hr := hi i hlt
  unfold hopR at hr
  rw [Bool.and_eq_true, beq_iff_eq] at hr
  have he : errG L i = 0 := by
    rw [hL, bld_err hp hc ho hlt]
    rw [hL] at hr
    rw [if_pos hr.1]
  exact ⟨he, by rw [← val_eq he]; exact hr.2⟩
theorem valid_all {ps vs : List Int} (hp : ∀ i, i < ps.length → -4 ≤ ps.getD i 0 ∧ ps.getD i 0 ≤ 12) {c : List (Bool × Int)} (hc : c.length = ps.length) (ho : ∀ o ∈ c, o ∈ optP) (h : ∀ i, i < ps.length → errG (bldP ps c) i = 0 ∧ valG (bldP ps c) i = vs.getD i 0) :
    bldP ps c ∈ pAll ps vs ps.length [] := by
  refine (mem_all ps vs _).2 ⟨c, hc, ho, rfl, fun i hi => ?_⟩
  obtain ⟨he, hv⟩ := h i hi
  unfold hopR
  rw [Bool.and_eq_true, beq_iff_eq, val_eq he]
  refine ⟨?_, hv⟩
  rw [bld_err hp hc ho hi] at he
  cases hf : frmP (bldP ps c) i with
  | true => rfl
  | false => rw [hf, if_neg (by decide)] at he; cases he

end Go.Proofs.Ytedkcnphplpacaa
