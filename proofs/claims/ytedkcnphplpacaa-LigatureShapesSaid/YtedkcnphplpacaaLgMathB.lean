/- The reference's shapes are the iterator's, each once on both sides. -/
import Derived.Test.YtedkcnphplpacaaLgMathA
import Derived.Test.YtedkcnphplpacaaLgRefG
namespace Go.Proofs.Ytedkcnphplpacaa

/-- A ligature of which the first notes have their bodies and stems. -/
def prtP (ps : List Int) (c : List (Bool × Int)) : List (Bool × Int) := c ++ List.replicate (ps.length - c.length) (false, 0)
theorem prtP_len {ps : List Int} {c : List (Bool × Int)} (h : c.length ≤ ps.length) : (prtP ps c).length = ps.length := by unfold prtP; rw [List.length_append, List.length_replicate]; omega
theorem prtP_getD {ps : List Int} {c : List (Bool × Int)} (i : Nat) : (prtP ps c).getD i (false, 0) = c.getD i (false, 0) := by
  unfold prtP
  by_cases h : i < c.length
  · rw [gd_left _ _ _ h]
  · rw [gd_right _ _ _ (by omega)]
    have e : c.getD i (false, 0) = (false, 0) := by simp only [List.getD]; rw [List.getElem?_eq_none (by omega)]; rfl
    rw [e]
    simp only [List.getD]
    by_cases g : i - c.length < ps.length - c.length
    · rw [List.getElem?_replicate, if_pos g]; rfl
    · rw [List.getElem?_replicate, if_neg g]; rfl
theorem base_prt (ps : List Int) : baseG ps = bldP ps (prtP ps []) := by
  apply List.ext_getElem?
  intro i
  have hl : (prtP ps []).length = ps.length := prtP_len (by simp)
  by_cases h : i < ps.length
  · rw [bldP_at ps _ (by omega), prtP_getD]
    unfold baseG
    rw [List.getElem?_map, List.getElem?_range h]; rfl
  · rw [List.getElem?_eq_none (by rw [baseG_len]; omega), List.getElem?_eq_none (by rw [bldP_len]; omega)]
theorem put_prt {ps : List Int} {c : List (Bool × Int)} (h : c.length < ps.length) (s : Int) (b : Bool) : putG (bldP ps (prtP ps c)) c.length (s, b) = bldP ps (prtP ps (c ++ [(b, s)])) := by
  have hl := prtP_len (ps := ps) (c := c) (by omega)
  have hl2 := prtP_len (ps := ps) (c := c ++ [(b, s)]) (by simp; omega)
  apply List.ext_getElem?
  intro i
  unfold putG
  by_cases hi : i < ps.length
  · rw [bldP_at ps _ (by omega), prtP_getD]
    by_cases e : c.length = i
    · subst e
      rw [List.getElem?_set_self (by rw [bldP_len]; omega), bldP_getD ps _ (by omega), prtP_getD, gd_right _ _ _ (Nat.le_refl _), Nat.sub_self]
      rfl
    · rw [List.getElem?_set_ne e, bldP_at ps _ (by omega), prtP_getD]
      by_cases g : i < c.length
      · rw [gd_left _ _ _ g]
      · have e1 : c.getD i (false, 0) = (false, 0) := by simp only [List.getD]; rw [List.getElem?_eq_none (by omega)]; rfl
        have e2 : (c ++ [(b, s)]).getD i (false, 0) = (false, 0) := by simp only [List.getD]; rw [List.getElem?_eq_none (by simp; omega)]; rfl
        rw [e1, e2]
  · rw [List.getElem?_eq_none (by rw [List.length_set, bldP_len]; omega), List.getElem?_eq_none (by rw [bldP_len]; omega)]
theorem optL_iff {s : Int} {b : Bool} : (s, b) ∈ optL ↔ (b, s) ∈ optP := by
  constructor
  · intro h
    have hall : ∀ o ∈ optL, (o.2, o.1) ∈ optP := by decide
    exact hall _ h
  · intro h
    have hall : ∀ o ∈ optP, (o.2, o.1) ∈ optL := by decide
    exact hall _ h

theorem mem_shpG (ps vs : List Int) : ∀ (k : Nat) (c : List (Bool × Int)) (L : List Sg), c.length + k = ps.length → (L ∈ shpG vs k (bldP ps (prtP ps c)) c.length ↔
    ∃ m : List (Bool × Int), m.length = k ∧ (∀ o ∈ m, o ∈ optP) ∧ L = bldP ps (c ++ m) ∧ ∀ j, c.length ≤ j → j < ps.length → goodG vs (bldP ps (prtP ps ((c ++ m).take (j + 1)))) j = true)
  | 0, c, L, hc => by
    have e : prtP ps c = c := by unfold prtP; rw [show ps.length - c.length = 0 by omega]; simp
    constructor
    · intro h
      have : L = bldP ps c := by rw [e] at h; simpa [shpG] using h
      exact ⟨[], rfl, by simp, by rw [List.append_nil]; exact this, fun j h1 h2 => by omega⟩
    · rintro ⟨m, hm, _, hL, _⟩
      obtain rfl : m = [] := List.eq_nil_of_length_eq_zero hm
      rw [List.append_nil] at hL
      rw [hL, e]
      simp [shpG]
  | k + 1, c, L, hc => by
    have hu : L ∈ shpG vs (k + 1) (bldP ps (prtP ps c)) c.length ↔ ∃ o ∈ optP, goodG vs (bldP ps (prtP ps (c ++ [o]))) c.length = true ∧ L ∈ shpG vs k (bldP ps (prtP ps (c ++ [o]))) (c ++ [o]).length := by
      show L ∈ optL.flatMap _ ↔ _
      rw [List.mem_flatMap]
      constructor
      · rintro ⟨⟨s, b⟩, ho, h⟩
        rw [put_prt (by omega)] at h
        by_cases g : goodG vs (bldP ps (prtP ps (c ++ [(b, s)]))) c.length = true
        · rw [if_pos g] at h
          exact ⟨(b, s), optL_iff.1 ho, g, by rw [List.length_append]; exact h⟩
        · rw [if_neg g] at h; simp at h
      · rintro ⟨⟨b, s⟩, ho, g, h⟩
        refine ⟨(s, b), optL_iff.2 ho, ?_⟩
        rw [put_prt (by omega), if_pos g]
        rw [List.length_append] at h
        exact h
    rw [hu]
    constructor
    · rintro ⟨o, ho, hg, h⟩
      obtain ⟨m, hm, hall, hL, hj⟩ := (mem_shpG ps vs k (c ++ [o]) L (by simp; omega)).1 h
      refine ⟨o :: m, by simp [hm], fun x hx => ?_, by rw [hL, List.append_assoc]; rfl, fun j h1 h2 => ?_⟩
      · rcases List.mem_cons.1 hx with rfl | hx
        · exact ho
        · exact hall x hx
      · have e : c ++ o :: m = (c ++ [o]) ++ m := by simp
        rw [e]
        by_cases cc : j = c.length
        · subst cc
          rw [List.take_append_of_le_length (by simp), List.take_of_length_le (by simp)]
          exact hg
        · exact hj j (by simp; omega) h2
    · rintro ⟨m, hm, hall, hL, hj⟩
      match m, hm with
      | o :: m, hm =>
        have e : c ++ o :: m = (c ++ [o]) ++ m := by simp
        rw [e] at hL hj
        refine ⟨o, hall o (by simp), ?_, (mem_shpG ps vs k (c ++ [o]) L (by simp; omega)).2 ⟨m, by simpa using hm, fun x hx => hall x (by simp [hx]), hL, fun j h1 h2 => hj j (by simp at h1; omega) h2⟩⟩
        have := hj c.length (Nat.le_refl _) (by omega)
        rwa [List.take_append_of_le_length (by simp), List.take_of_length_le (by simp)] at this

theorem frm_b1 (o x y x' y' z w : Bool) : (!(o && (true || (x || y))) && z) = ((!(o && (true || (x' || y'))) && z) && !(o && (!true && w))) := by cases o <;> cases z <;> rfl
theorem frm_b2 (o o2 y z : Bool) : (!(o && (false || (o2 || y))) && z) = ((!(o && (false || (false || y))) && z) && !(o && (!false && o2))) := by cases o <;> cases o2 <;> cases y <;> cases z <;> rfl
theorem good_iff {ps vs : List Int} (hp : ∀ i, i < ps.length → -4 ≤ ps.getD i 0 ∧ ps.getD i 0 ≤ 12) {c : List (Bool × Int)} (hc : c.length = ps.length) (ho : ∀ o ∈ c, o ∈ optP) :
    (∀ j, j < ps.length → goodG vs (bldP ps (prtP ps (c.take (j + 1)))) j = true) ↔ ∀ i, i < ps.length → errG (bldP ps c) i = 0 ∧ valG (bldP ps c) i = vs.getD i 0 := by
  -- what a partial ligature has
  have hx : ∀ j, j < ps.length → ∀ x, x < ps.length → (bldP ps (prtP ps (c.take (j + 1)))).getD x zS = nxS ps x (if x ≤ j then c.getD x (false, 0) else (false, 0)) := by
    intro j hj x hxl
    have hl := prtP_len (ps := ps) (c := c.take (j + 1)) (by rw [List.length_take]; omega)
    rw [bldP_getD ps _ (by omega), prtP_getD]
    congr 1
    simp only [List.getD]
    by_cases g : x ≤ j
    · rw [if_pos g, List.getElem?_take_of_lt (by omega)]
    · rw [if_neg g, List.getElem?_take_eq_none (by omega)]; rfl
  have hL : ∀ x, x < ps.length → (bldP ps c).getD x zS = nxS ps x (c.getD x (false, 0)) := fun x h => bldP_getD ps c (by omega)
  have hlen : ∀ j, j < ps.length → (bldP ps (prtP ps (c.take (j + 1)))).length = ps.length := fun j hj => by rw [bldP_len, prtP_len (by rw [List.length_take]; omega)]
  have herr : ∀ j, j < ps.length → errG (bldP ps (prtP ps (c.take (j + 1)))) j = if frmP (bldP ps (prtP ps (c.take (j + 1)))) j = true then 0 else 3 := fun j hj =>
    bld_err hp (prtP_len (by rw [List.length_take]; omega)) (fun o hm => by
      unfold prtP at hm
      rcases List.mem_append.1 hm with h | h
      · exact ho o (List.mem_of_mem_take h)
      · rw [List.eq_of_mem_replicate h]; decide) hj
  have hval : ∀ j, j < ps.length → valG (bldP ps (prtP ps (c.take (j + 1)))) j = valG (bldP ps c) j := by
    intro j hj
    unfold valG
    rw [hlen j hj, bldP_len, hc, hx j hj j hj, hL j hj, hx j hj 0 (by omega), hL 0 (by omega), if_pos (Nat.le_refl _), if_pos (Nat.zero_le _)]
    by_cases h0 : j = 0
    · subst h0
      by_cases h1 : 1 < ps.length
      · rw [hx 0 hj 1 h1, hL 1 h1]
        rfl
      · have e1 : (bldP ps (prtP ps (c.take (0 + 1)))).getD 1 zS = zS := by simp only [List.getD]; rw [List.getElem?_eq_none (by rw [hlen 0 hj]; omega)]; rfl
        have e2 : (bldP ps c).getD 1 zS = zS := by simp only [List.getD]; rw [List.getElem?_eq_none (by rw [bldP_len]; omega)]; rfl
        rw [e1, e2]
        rfl
    · rw [hx j hj (j - 1) (by omega), hL (j - 1) (by omega), if_pos (show j - 1 ≤ j by omega)]
      rw [if_neg h0, if_neg h0]
  have hfrm : ∀ j, j < ps.length → frmP (bldP ps c) j = (frmP (bldP ps (prtP ps (c.take (j + 1)))) j && !((c.getD j (false, 0)).1 && (!(decide (j + 1 = ps.length)) && ((bldP ps c).getD (j + 1) zS).obl))) := by
    intro j hj
    have s1 : stP (bldP ps (prtP ps (c.take (j + 1)))) j = stP (bldP ps c) j := by
      unfold stP
      rw [hx j hj j hj, hL j hj, hx j hj (j - 1) (by omega), hL (j - 1) (by omega), if_pos (Nat.le_refl _), if_pos (by omega)]
    have r1 : rtP (bldP ps (prtP ps (c.take (j + 1)))) j = rtP (bldP ps c) j := by
      unfold rtP
      rw [hx j hj j hj, hL j hj, hx j hj 0 (by omega), hL 0 (by omega), if_pos (Nat.le_refl _), if_pos (Nat.zero_le _)]
    unfold frmP
    rw [s1, r1]
    unfold obP
    rw [hx j hj j hj, hL j hj, if_pos (Nat.le_refl _)]
    by_cases hl : j + 1 = ps.length
    · have hla : (nxS ps j (c.getD j (false, 0))).last = true := decide_eq_true hl
      rw [hla, decide_eq_true hl]
      exact frm_b1 _ _ _ _ _ _ _
    · have hla : (nxS ps j (c.getD j (false, 0))).last = false := decide_eq_false hl
      rw [hla, decide_eq_false hl, hx j hj (j + 1) (by omega), hL (j + 1) (by omega), if_neg (show ¬ j + 1 ≤ j by omega)]
      exact frm_b2 _ _ _ _
  have hboth : ∀ j, j < ps.length → bothG (bldP ps (prtP ps (c.take (j + 1)))) j = (decide (0 < j) && (c.getD (j - 1) (false, 0)).1 && (c.getD j (false, 0)).1) := by
    intro j hj
    unfold bothG
    rw [hx j hj j hj, hx j hj (j - 1) (by omega), if_pos (Nat.le_refl _), if_pos (by omega)]; rfl
  have hgood : ∀ j, j < ps.length → (goodG vs (bldP ps (prtP ps (c.take (j + 1)))) j = true ↔ (bothG (bldP ps (prtP ps (c.take (j + 1)))) j = false ∧ frmP (bldP ps (prtP ps (c.take (j + 1)))) j = true) ∧ valG (bldP ps c) j = vs.getD j 0) := by
    intro j hj
    unfold goodG
    rw [hval j hj, herr j hj, Bool.and_eq_true, Bool.and_eq_true, beq_iff_eq, beq_iff_eq, Bool.not_eq_true']
    cases frmP (bldP ps (prtP ps (c.take (j + 1)))) j <;> simp
  have hfull : ∀ i, i < ps.length → (errG (bldP ps c) i = 0 ↔ frmP (bldP ps c) i = true) := by
    intro i hi
    rw [bld_err hp hc ho hi]
    cases frmP (bldP ps c) i <;> simp
  constructor
  · intro h i hi
    obtain ⟨⟨_, h2⟩, h3⟩ := (hgood i hi).1 (h i hi)
    refine ⟨(hfull i hi).2 ?_, h3⟩
    rw [hfrm i hi, h2, Bool.true_and]
    by_cases hl : i + 1 = ps.length
    · rw [decide_eq_true hl]; simp
    · obtain ⟨⟨g1, _⟩, _⟩ := (hgood (i + 1) (by omega)).1 (h (i + 1) (by omega))
      rw [hboth (i + 1) (by omega), decide_eq_true (by omega), Nat.add_sub_cancel, Bool.true_and] at g1
      rw [hL (i + 1) (by omega)]
      show (!((c.getD i (false, 0)).1 && (!(decide (i + 1 = ps.length)) && (c.getD (i + 1) (false, 0)).1))) = true
      rw [decide_eq_false hl, Bool.not_false, Bool.true_and, g1]; rfl
  · intro h j hj
    have hF := (hfull j hj).1 (h j hj).1
    rw [hfrm j hj, Bool.and_eq_true] at hF
    refine (hgood j hj).2 ⟨⟨?_, hF.1⟩, (h j hj).2⟩
    rw [hboth j hj]
    by_cases h0 : 0 < j
    · have hG := (hfull (j - 1) (by omega)).1 (h (j - 1) (by omega)).1
      rw [hfrm (j - 1) (by omega), Bool.and_eq_true] at hG
      have g2 := hG.2
      rw [show j - 1 + 1 = j by omega, hL j hj, decide_eq_false (by omega)] at g2
      have g3 : (!((c.getD (j - 1) (false, 0)).1 && (!false && (c.getD j (false, 0)).1))) = true := g2
      rw [decide_eq_true h0, Bool.true_and]
      revert g3
      generalize (c.getD (j - 1) (false, 0)).1 = b1
      generalize (c.getD j (false, 0)).1 = b2
      cases b1 <;> cases b2 <;> intro g3 <;> first | rfl | cases g3
    · rw [decide_eq_false h0]; rfl
theorem mem_allG {ps vs : List Int} (hp : ∀ i, i < ps.length → -4 ≤ ps.getD i 0 ∧ ps.getD i 0 ≤ 12) (L : List Sg) : L ∈ allG ps vs ↔ ∃ c : List (Bool × Int), c.length = ps.length ∧ (∀ o ∈ c, o ∈ optP) ∧ L = bldP ps c ∧ ∀ i, i < ps.length → errG L i = 0 ∧ valG L i = vs.getD i 0 := by
  have h := mem_shpG ps vs ps.length [] L (by simp)
  unfold allG
  rw [base_prt]
  rw [show ([] : List (Bool × Int)).length = 0 from rfl] at h
  rw [h]
  constructor
  · rintro ⟨m, hm, ho, hL, hj⟩
    refine ⟨m, hm, ho, hL, ?_⟩
    rw [hL]
    exact (good_iff hp hm ho).1 (fun j hj2 => hj j (Nat.zero_le _) hj2)
  · rintro ⟨c, hc, ho, hL, hi⟩
    rw [hL] at hi
    exact ⟨c, hc, ho, hL, fun j _ hj => (good_iff hp hc ho).2 hi j hj⟩
theorem mem_both {ps vs : List Int} (hp : ∀ i, i < ps.length → -4 ≤ ps.getD i 0 ∧ ps.getD i 0 ≤ 12) (L : List Sg) : L ∈ allG ps vs ↔ L ∈ pAll ps vs ps.length [] := by
  rw [mem_allG hp]
  constructor
  · rintro ⟨c, hc, ho, hL, hi⟩
    rw [hL] at hi ⊢
    exact valid_all hp hc ho hi
  · intro h
    obtain ⟨c, hc, ho, hL, _⟩ := (mem_all ps vs L).1 h
    exact ⟨c, hc, ho, hL, (all_valid hp h).2⟩

/-! ### Each shape comes once -/
theorem nodup_pAll (ps vs : List Int) : ∀ (k : Nat) (cs : List (Bool × Int)), (pAll ps vs k (bldP ps cs)).Nodup
  | 0, cs => by simp [pAll]
  | k + 1, cs => by
    show (optP.flatMap _).Nodup
    unfold List.Nodup
    rw [List.pairwise_flatMap]
    constructor
    · intro o _
      rw [bldP_len, ← bldP_snoc]
      split
      · exact nodup_pAll ps vs k (cs ++ [o])
      · exact List.Pairwise.nil
    · have hd : optP.Nodup := by decide
      refine List.Pairwise.imp (fun {o1 o2} hne x hx y hy e => ?_) hd
      rw [bldP_len, ← bldP_snoc] at hx hy
      have key : ∀ o z, z ∈ (if hopP vs (bldP ps (cs ++ [o])) = true then pAll ps vs k (bldP ps (cs ++ [o])) else []) → ∃ m, z = bldP ps (cs ++ [o] ++ m) := fun o z hz => by
        split at hz
        · obtain ⟨m, _, _, hL, _⟩ := (mem_pAll ps vs k (cs ++ [o]) z).1 hz
          exact ⟨m, hL⟩
        · simp at hz
      obtain ⟨m1, e1⟩ := key o1 x hx
      obtain ⟨m2, e2⟩ := key o2 y hy
      rw [e1, e2] at e
      have := bldP_inj e
      simp only [List.append_assoc, List.append_cancel_left_eq] at this
      injection this with h1 _
      exact hne h1
theorem nodup_shpG (ps vs : List Int) : ∀ (k : Nat) (c : List (Bool × Int)), c.length + k = ps.length → (shpG vs k (bldP ps (prtP ps c)) c.length).Nodup
  | 0, c, _ => by simp [shpG]
  | k + 1, c, hc => by
    show (optL.flatMap _).Nodup
    unfold List.Nodup
    rw [List.pairwise_flatMap]
    constructor
    · rintro ⟨s, b⟩ _
      rw [put_prt (by omega)]
      split
      · have := nodup_shpG ps vs k (c ++ [(b, s)]) (by simp; omega)
        rw [List.length_append] at this
        exact this
      · exact List.Pairwise.nil
    · have hd : optL.Nodup := by decide
      refine List.Pairwise.imp (fun {o1 o2} hne x hx y hy e => ?_) hd
      obtain ⟨s1, b1⟩ := o1
      obtain ⟨s2, b2⟩ := o2
      rw [put_prt (by omega)] at hx hy
      have key : ∀ s b z, z ∈ (if goodG vs (bldP ps (prtP ps (c ++ [(b, s)]))) c.length = true then shpG vs k (bldP ps (prtP ps (c ++ [(b, s)]))) (c.length + 1) else []) → ∃ m, z = bldP ps (c ++ [(b, s)] ++ m) := fun s b z hz => by
        split at hz
        · have h2 := mem_shpG ps vs k (c ++ [(b, s)]) z (by simp; omega)
          rw [List.length_append] at h2
          obtain ⟨m, _, _, hL, _⟩ := h2.1 hz
          exact ⟨m, hL⟩
        · simp at hz
      obtain ⟨m1, e1⟩ := key s1 b1 x hx
      obtain ⟨m2, e2⟩ := key s2 b2 y hy
      rw [e1, e2] at e
      have := bldP_inj e
      simp only [List.append_assoc, List.append_cancel_left_eq] at this
      injection this with h1 _
      injection h1 with h3 h4
      exact hne (by rw [h3, h4])
theorem all_perm {ps vs : List Int} (hp : ∀ i, i < ps.length → -4 ≤ ps.getD i 0 ∧ ps.getD i 0 ≤ 12) : (allG ps vs).Perm (pAll ps vs ps.length []) := by
  have n1 : (allG ps vs).Nodup := by
    unfold allG
    rw [base_prt]
    exact nodup_shpG ps vs ps.length [] (by simp)
  have n2 : (pAll ps vs ps.length []).Nodup := nodup_pAll ps vs ps.length []
  exact (List.perm_ext_iff_of_nodup n1 n2).2 (fun L => mem_both hp L)

end Go.Proofs.Ytedkcnphplpacaa
