/- Plain facts: what the reference reads in a text is what the program reads. -/
import Derived.Test.YtjgkliiofechfaaDoorDigits
namespace Go.Proofs.YtjgkliiofechfaaDoor

def isD (c : UInt8) : Bool := 48 ≤ c.toNat && c.toNat ≤ 57

/-- A number without leading zeros, as the reference asks it. -/
def plainL (l : List UInt8) : Bool := l.all isD && (l == [48] || (l != [] && l.head? != some 48))

/-- The value of digits, at most so great and one. -/
def cv : Int → List UInt8 → Int
  | n, [] => n
  | n, c :: t => cv (if 1099511627777 < n * 10 + ((c.toNat : Int) - 48) then 1099511627777 else n * 10 + ((c.toNat : Int) - 48)) t

/-- May these digits follow what has been read? -/
def good (A : List UInt8) (n dg : Int) : Bool := A.all isD && (A == [] || (if dg = 0 then (A == [48] || A.head? != some 48) else decide (0 < n)))

theorem plain_good (A : List UInt8) : plainL A = (good A 0 0 && A != []) := by
  unfold plainL good
  cases A with
  | nil => rfl
  | cons c t =>
    have e : (c :: t != []) = true := by simp
    rw [e, Bool.and_true]
    simp

def cutA (l : List UInt8) : List UInt8 := l.takeWhile (· != 47)
def cutR (l : List UInt8) : List UInt8 := l.dropWhile (· != 47)

theorem numsL_spec : ∀ (l : List UInt8) (n dg : Int) (f : Option Int), 0 ≤ n → 0 ≤ dg → (dg = 0 → n = 0) →
    numsL l n dg f = if good (cutA l) n dg = true then (match cutR l with
      | [] => if dg + ((cutA l).length : Int) = 0 then none else some (f, cv n (cutA l))
      | _ :: B => if dg + ((cutA l).length : Int) = 0 ∨ f ≠ none then none else numsL B 0 0 (some (cv n (cutA l)))) else none
  | [], n, dg, f, hn, hd, hz => by
    show (if dg = 0 then none else some (f, n)) = _
    simp [cutA, cutR, good, cv]
  | c :: t, n, dg, f, hn, hd, hz => by
    by_cases h47 : c = 47
    · subst h47
      have e1 : cutA (47 :: t) = [] := by simp [cutA]
      have e2 : cutR (47 :: t) = 47 :: t := by simp [cutR]
      rw [e1, e2]
      have g : good [] n dg = true := by simp [good]
      rw [if_pos g]
      by_cases h1 : 0 < dg ∧ f = none
      · obtain ⟨h1, rfl⟩ := h1
        rw [numsL_cut (by rfl) h1]
        show _ = if _ then _ else _
        rw [if_neg (by simp; omega)]; rfl
      · rw [numsL_stop (fun x => h1 x.2) (fun x => by have := x.1; simp at this)]
        show _ = if _ then _ else _
        rw [if_pos]
        by_cases h2 : 0 < dg
        · right; exact fun x => h1 ⟨h2, x⟩
        · left; simp; omega
    · have hc : c.toNat ≠ 47 := fun x => h47 (UInt8.toNat_inj.1 (by rw [x]; rfl))
      have e1 : cutA (c :: t) = c :: cutA t := by simp [cutA, h47]
      have e2 : cutR (c :: t) = cutR t := by simp [cutR, h47]
      rw [e1, e2]
      by_cases h2 : 48 ≤ c.toNat ∧ c.toNat ≤ 57 ∧ (dg = 0 ∨ 0 < n)
      · rw [numsL_digit h2.1 h2.2.1 h2.2.2, numsL_spec t _ _ f (by split <;> omega) (by omega) (by omega)]
        have hg : good (c :: cutA t) n dg = good (cutA t) (if 1099511627777 < n * 10 + ((c.toNat : Int) - 48) then 1099511627777 else n * 10 + ((c.toNat : Int) - 48)) (dg + 1) := by
          have hD : isD c = true := by simp [isD, h2.1, h2.2.1]
          unfold good
          rw [if_neg (show ¬ dg + 1 = 0 by omega)]
          simp only [List.all_cons, hD, Bool.true_and]
          congr 1
          have e0 : (c :: cutA t == []) = false := by simp
          rw [e0, Bool.false_or]
          by_cases hd0 : dg = 0
          · have hn0 := hz hd0
            rw [if_pos hd0, if_neg (show ¬ 1099511627777 < n * 10 + ((c.toNat : Int) - 48) by omega)]
            by_cases h48 : c = 48
            · subst h48
              have e1 : decide (0 < n * 10 + ((((48 : UInt8).toNat : Nat) : Int) - 48)) = false := by rw [hn0]; rfl
              rw [e1, Bool.or_false]; simp
            · have hc48 : c.toNat ≠ 48 := fun x => h48 (UInt8.toNat_inj.1 (by rw [x]; rfl))
              have e1 : decide (0 < n * 10 + ((c.toNat : Int) - 48)) = true := by simp; omega
              rw [e1, Bool.or_true]; simp [h48]
          · have hn0 : 0 < n := by omega
            have e1 : decide (0 < if 1099511627777 < n * 10 + ((c.toNat : Int) - 48) then 1099511627777 else n * 10 + ((c.toNat : Int) - 48)) = true := by
              simp; split <;> omega
            rw [if_neg hd0, e1, Bool.or_true]; simp [hn0]
        rw [hg]
        have hl : dg + 1 + ((cutA t).length : Int) = dg + ((c :: cutA t).length : Int) := by simp; omega
        rw [hl]; rfl
      · rw [numsL_stop (fun x => hc x.1) h2, if_neg]
        intro hg
        unfold good at hg
        simp only [Bool.and_eq_true, List.all_cons] at hg
        obtain ⟨⟨h3, _⟩, h4⟩ := hg
        have h5 : 48 ≤ c.toNat ∧ c.toNat ≤ 57 := by simpa [isD] using h3
        have h6 : ¬ (dg = 0 ∨ 0 < n) := fun x => h2 ⟨h5.1, h5.2, x⟩
        rw [if_neg (fun x => h6 (.inl x))] at h4
        simp at h4
        exact h6 (.inr h4)

/-- What the reference's number gives: the value, or none where it is greater than most. -/
def numL (most : Int) : Int → List UInt8 → Option Int
  | n, [] => some n
  | n, c :: t => if most < 10 * n + ((c.toNat : Int) - 48) then none else numL most (10 * n + ((c.toNat : Int) - 48)) t

theorem cv_ge : ∀ (l : List UInt8) (n : Int), 0 ≤ n → n ≤ 1099511627777 → l.all isD = true → n ≤ cv n l
  | [], n, _, _, _ => Int.le_refl n
  | c :: t, n, h0, h1, hd => by
    simp only [List.all_cons, Bool.and_eq_true] at hd
    have h5 : 48 ≤ c.toNat ∧ c.toNat ≤ 57 := by simpa [isD] using hd.1
    show n ≤ cv _ t
    have := cv_ge t (if 1099511627777 < n * 10 + ((c.toNat : Int) - 48) then 1099511627777 else n * 10 + ((c.toNat : Int) - 48)) (by split <;> omega) (by split <;> omega) hd.2
    split at this <;> (split <;> omega)

theorem numL_cv (most : Int) (hm : most ≤ 1099511627776) : ∀ (l : List UInt8) (n : Int), 0 ≤ n → n ≤ most → l.all isD = true → numL most n l = if most < cv n l then none else some (cv n l)
  | [], n, _, h1, _ => by
    show some n = if most < n then none else some n
    rw [if_neg (by omega)]
  | c :: t, n, h0, h1, hd => by
    simp only [List.all_cons, Bool.and_eq_true] at hd
    have h5 : 48 ≤ c.toNat ∧ c.toNat ≤ 57 := by simpa [isD] using hd.1
    show (if most < 10 * n + ((c.toNat : Int) - 48) then none else numL most (10 * n + ((c.toNat : Int) - 48)) t) = if most < cv _ t then none else some (cv _ t)
    by_cases hb : most < 10 * n + ((c.toNat : Int) - 48)
    · rw [if_pos hb, if_pos]
      have := cv_ge t (if 1099511627777 < n * 10 + ((c.toNat : Int) - 48) then 1099511627777 else n * 10 + ((c.toNat : Int) - 48)) (by split <;> omega) (by split <;> omega) hd.2
      split at this <;> (split <;> omega)
    · rw [if_neg hb, if_neg (show ¬ 1099511627777 < n * 10 + ((c.toNat : Int) - 48) by omega), Int.mul_comm n 10]
      exact numL_cv most hm t _ (by omega) (by omega) hd.2

/-- What the reference returns for a text. -/
def refP (l : List UInt8) : Int × Int × Int :=
  if plainL (cutA l) = false ∨ (cutR l ≠ [] ∧ plainL ((cutR l).drop 1) = false) then (0, 0, 3) else
  match numL 1099511627776 0 (cutA l) with
  | none => (0, 0, 4)
  | some n => if cutR l = [] then (n, 1, 0) else
    match numL 1048576 0 ((cutR l).drop 1) with
    | none => (0, 0, 4)
    | some d => if d < 2 ∨ gcdI n d ≠ 1 then (0, 0, 3) else (n, d, 0)

theorem plain_all {l : List UInt8} (h : plainL l = true) : l.all isD = true ∧ l ≠ [] ∧ good l 0 0 = true := by
  have h2 := plain_good l
  rw [h] at h2
  have h3 := h2.symm
  simp only [Bool.and_eq_true, bne_iff_ne] at h3
  refine ⟨?_, h3.2, h3.1⟩
  have := h3.1
  unfold good at this
  simp only [Bool.and_eq_true] at this
  exact this.1

theorem all_cut : ∀ {l : List UInt8}, l.all isD = true → cutA l = l ∧ cutR l = []
  | [], _ => ⟨rfl, rfl⟩
  | c :: t, h => by
    simp only [List.all_cons, Bool.and_eq_true] at h
    have h5 : 48 ≤ c.toNat ∧ c.toNat ≤ 57 := by simpa [isD] using h.1
    have hne : ¬ c = 47 := by rintro rfl; simp at h5
    obtain ⟨e1, e2⟩ := all_cut h.2
    unfold cutA cutR at *
    simp [hne, e1, e2]

theorem cut_nil : ∀ {l : List UInt8}, cutR l = [] → cutA l = l
  | [], _ => rfl
  | c :: t, h => by
    by_cases hne : c = 47
    · subst hne; simp [cutR] at h
    · have h2 : cutR t = [] := by simpa [cutR, hne] using h
      have := cut_nil h2
      unfold cutA at *
      simp [hne, this]

theorem cv_bds (l : List UInt8) (h : l.all isD = true) : 0 ≤ cv 0 l := cv_ge l 0 (by omega) (by omega) h

theorem chk_lim {n d : Int} (h0 : 0 ≤ n) (h1 : n ≤ 1099511627776) (h2 : 1 ≤ d) (h3 : d ≤ 1048576) : chk n d = if gcdI n d = 1 then 0 else 3 := by
  unfold chk; rw [if_neg (by omega)]

theorem ref_parse (l : List UInt8) : refP l = parseV l := by
  have hN := numsL_spec l 0 0 none (by omega) (by omega) (fun _ => rfl)
  have hV : parseV l = (match numsL l 0 0 none with | none => (0, 0, 3) | some (none, n) => finP false n 1 | some (some a, n) => finP true a n) := rfl
  rw [hV, hN]
  unfold refP
  by_cases hA : plainL (cutA l) = true
  · obtain ⟨a1, a2, a3⟩ := plain_all hA
    have a4 : ¬ (0 : Int) + ((cutA l).length : Int) = 0 := by
      have : 0 < (cutA l).length := List.length_pos_iff.2 a2
      omega
    have a5 := cv_bds (cutA l) a1
    rw [if_pos a3]
    cases hR : cutR l with
    | nil =>
      rw [if_neg (by simp [hA]), numL_cv _ (by omega) _ _ (by omega) (by omega) a1]
      simp only [a4, if_false]
      show _ = finP false (cv 0 (cutA l)) 1
      by_cases hb : 1099511627776 < cv 0 (cutA l)
      · rw [if_pos hb, finP_long1 hb]
      · rw [if_neg hb, finP_one (by omega) (by omega), if_pos (chk_valid ⟨a5, by omega, by omega, by omega, gcdI_one_right _⟩)]
        simp
    | cons x B =>
      simp only [List.drop_succ_cons, List.drop_zero]
      have e1 : (if (0 : Int) + ((cutA l).length : Int) = 0 ∨ (none : Option Int) ≠ none then none else numsL B 0 0 (some (cv 0 (cutA l)))) = numsL B 0 0 (some (cv 0 (cutA l))) := if_neg (fun h => h.elim a4 (fun h => h rfl))
      rw [e1, numsL_spec B 0 0 _ (by omega) (by omega) (fun _ => rfl)]
      by_cases hB : plainL B = true
      · obtain ⟨b1, b2, b3⟩ := plain_all hB
        obtain ⟨c1, c2⟩ := all_cut b1
        have b4 : ¬ (0 : Int) + (B.length : Int) = 0 := by
          have : 0 < B.length := List.length_pos_iff.2 b2
          omega
        have b5 := cv_bds B b1
        rw [if_neg (by simp [hA, hB]), c1, c2, if_pos b3]
        simp only [b4, if_false]
        show _ = finP true (cv 0 (cutA l)) (cv 0 B)
        rw [numL_cv _ (by omega) _ _ (by omega) (by omega) a1]
        by_cases hb : 1099511627776 < cv 0 (cutA l)
        · rw [if_pos hb, finP_long1 hb]
        · rw [if_neg hb]
          simp only [reduceCtorEq, if_false]
          rw [numL_cv _ (by omega) _ _ (by omega) (by omega) b1]
          by_cases hc : 1048576 < cv 0 B
          · rw [if_pos hc, finP_long2 hc]
          · rw [if_neg hc]
            show (if _ then _ else _) = _
            by_cases hd : cv 0 B < 2
            · rw [if_pos (.inl hd), finP_small (by omega) hd]
            · rw [finP_two (by omega) (by omega) (by omega), chk_lim a5 (by omega) (by omega) (by omega)]
              by_cases hg : gcdI (cv 0 (cutA l)) (cv 0 B) = 1
              · rw [if_neg (by omega), if_pos hg, if_pos rfl]
              · rw [if_pos (.inr hg), if_neg hg, if_neg (by omega)]
      · have hB' : plainL B = false := by simpa using hB
        rw [if_pos (.inr ⟨by simp, hB'⟩)]
        have e2 : (if good (cutA B) 0 0 = true then (match cutR B with
            | [] => if (0 : Int) + ((cutA B).length : Int) = 0 then none else some (some (cv 0 (cutA l)), cv 0 (cutA B))
            | _ :: C => if (0 : Int) + ((cutA B).length : Int) = 0 ∨ some (cv 0 (cutA l)) ≠ none then none else numsL C 0 0 (some (cv 0 (cutA B)))) else none) = none := by
          by_cases hg : good (cutA B) 0 0 = true
          · rw [if_pos hg]
            cases hRB : cutR B with
            | nil =>
              have e3 := cut_nil hRB
              rw [e3] at hg ⊢
              have e4 := plain_good B
              rw [hB', hg] at e4
              have e5 : B = [] := by simpa using e4
              rw [e5]; rfl
            | cons y C => exact if_pos (.inr (by simp))
          · rw [if_neg hg]
        rw [e2]
  · have hA' : plainL (cutA l) = false := by simpa using hA
    rw [if_pos (.inl hA')]
    have e2 : (if good (cutA l) 0 0 = true then (match cutR l with
        | [] => if (0 : Int) + ((cutA l).length : Int) = 0 then none else some ((none : Option Int), cv 0 (cutA l))
        | _ :: B => if (0 : Int) + ((cutA l).length : Int) = 0 ∨ (none : Option Int) ≠ none then none else numsL B 0 0 (some (cv 0 (cutA l)))) else none) = none := by
      by_cases hg : good (cutA l) 0 0 = true
      · rw [if_pos hg]
        have e4 := plain_good (cutA l)
        rw [hA', hg] at e4
        have e5 : cutA l = [] := by simpa using e4
        rw [e5]
        cases cutR l with
        | nil => rfl
        | cons y B => exact if_pos (.inl rfl)
      · rw [if_neg hg]
    rw [e2]

end Go.Proofs.YtjgkliiofechfaaDoor
