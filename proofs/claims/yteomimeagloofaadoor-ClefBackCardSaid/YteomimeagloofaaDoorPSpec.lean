/- What is asked of pitches, as plain mathematics. -/
import Derived.Test.YteomimeagloofaaDoorPMem
namespace Go.Proofs.YteomimeagloofaaDoor

/-- A valid pitch. -/
def okP (p : Pi3) : Prop := (0 ≤ p.1 ∧ p.1 ≤ 6) ∧ (0 ≤ p.2.1 ∧ p.2.1 ≤ 8) ∧ (-1 ≤ p.2.2 ∧ p.2.2 ≤ 1)
instance (p : Pi3) : Decidable (okP p) := by unfold okP; infer_instance
def chkV (p : Pi3) : Int := if okP p then 0 else 2
def numI (p : Pi3) : Int := 7 * p.2.1 + p.1
def semiI (s : Int) : Int := if s = 0 then 0 else if s = 1 then 2 else if s = 2 then 4 else if s = 3 then 5 else if s = 4 then 7 else if s = 5 then 9 else 11
def heiI (p : Pi3) : Int := 12 * p.2.1 + semiI p.1 + p.2.2
/-- A number and an error; a pitch and an error. -/
def numV (p : Pi3) : Int × Int := if okP p then (numI p, 0) else (0, 2)
def heiV (p : Pi3) : Int × Int := if okP p then (heiI p, 0) else (0, 2)
def ofV (n k : Int) : Pi3 × Int := if (0 ≤ n ∧ n ≤ 62) ∧ (-1 ≤ k ∧ k ≤ 1) then ((n % 7, n / 7, k), 0) else ((0, 0, 0), 2)
def moveV (p : Pi3) (n : Int) : Pi3 × Int := if okP p then ofV (numI p + n) p.2.2 else ((0, 0, 0), 2)
def mirV (p q : Pi3) : Pi3 × Int := if okP p ∧ okP q then ofV (2 * numI q - numI p) (-p.2.2) else ((0, 0, 0), 2)
def betV (p q : Pi3) : (Int × Int) × Int := if okP p ∧ okP q then ((numI q - numI p, heiI q - heiI p), 0) else ((0, 0), 2)

theorem numV_ok {p : Pi3} (h : okP p) : numV p = (numI p, 0) := if_pos h
theorem numV_no {p : Pi3} (h : ¬ okP p) : numV p = (0, 2) := if_neg h
theorem heiV_ok {p : Pi3} (h : okP p) : heiV p = (heiI p, 0) := if_pos h
theorem heiV_no {p : Pi3} (h : ¬ okP p) : heiV p = (0, 2) := if_neg h
theorem chkV_ok {p : Pi3} (h : okP p) : chkV p = 0 := if_pos h
theorem chkV_no {p : Pi3} (h : ¬ okP p) : chkV p = 2 := if_neg h
theorem num_bd {p : Pi3} (h : okP p) : 0 ≤ numI p ∧ numI p ≤ 62 := by
  obtain ⟨h1, h2, h3⟩ := h
  unfold numI; omega
theorem semi_bd (s : Int) : 0 ≤ semiI s ∧ semiI s ≤ 11 := by
  unfold semiI
  repeat' split
  all_goals omega
theorem hei_bd {p : Pi3} (h : okP p) : -1 ≤ heiI p ∧ heiI p ≤ 108 := by
  obtain ⟨h1, h2, h3⟩ := h
  have := semi_bd p.1
  unfold heiI; omega
theorem of_ok {n k : Int} (h : (0 ≤ n ∧ n ≤ 62) ∧ (-1 ≤ k ∧ k ≤ 1)) : ofV n k = ((n % 7, n / 7, k), 0) := if_pos h
theorem of_no {n k : Int} (h : ¬ ((0 ≤ n ∧ n ≤ 62) ∧ (-1 ≤ k ∧ k ≤ 1))) : ofV n k = ((0, 0, 0), 2) := if_neg h
theorem ofV_okP {n k : Int} (h : (0 ≤ n ∧ n ≤ 62) ∧ (-1 ≤ k ∧ k ≤ 1)) : okP (n % 7, n / 7, k) := by
  unfold okP; simp only; omega

/-! ### The theorems P3.4 to P3.7 -/
theorem of_num {p : Pi3} (h : okP p) : ofV (numI p) p.2.2 = (p, 0) := by
  have hb := num_bd h
  obtain ⟨h1, h2, h3⟩ := h
  rw [of_ok ⟨hb, h3⟩]
  obtain ⟨s, o, a⟩ := p
  unfold numI at *
  simp only at *
  have e1 : (7 * o + s) % 7 = s := by omega
  have e2 : (7 * o + s) / 7 = o := by omega
  rw [e1, e2]
theorem num_of {n k : Int} : numI (n % 7, n / 7, k) = n := by unfold numI; simp only; omega

/-! ### Texts -/
/-- The text of a pitch. -/
def letterI (s : Int) : UInt8 := if s = 0 then 99 else if s = 1 then 100 else if s = 2 then 101 else if s = 3 then 102 else if s = 4 then 103 else if s = 5 then 97 else 98
def accL (a : Int) : List UInt8 := if a = -1 then [98] else if a = 0 then [] else [35]
def digI (o : Int) : UInt8 := UInt8.ofNat (48 + o.toNat)
def textL (p : Pi3) : List UInt8 := letterI p.1 :: (accL p.2.2 ++ [digI p.2.1])
def textV (p : Pi3) : ByteArray × Int := if okP p then (⟨(textL p).toArray⟩, 0) else (⟨#[]⟩, 2)
/-- What pitch a text is, if any. -/
def ParseR (s : ByteArray) (r : Pi3 × Int) : Prop := (okP r.1 ∧ s = ⟨(textL r.1).toArray⟩ ∧ r.2 = 0) ∨ ((∀ p, okP p → s ≠ ⟨(textL p).toArray⟩) ∧ r = ((0, 0, 0), 3))

theorem letter_inj {s t : Int} (h1 : 0 ≤ s ∧ s ≤ 6) (h2 : 0 ≤ t ∧ t ≤ 6) (h : letterI s = letterI t) : s = t := by
  have a : s = 0 ∨ s = 1 ∨ s = 2 ∨ s = 3 ∨ s = 4 ∨ s = 5 ∨ s = 6 := by omega
  have b : t = 0 ∨ t = 1 ∨ t = 2 ∨ t = 3 ∨ t = 4 ∨ t = 5 ∨ t = 6 := by omega
  rcases a with rfl | rfl | rfl | rfl | rfl | rfl | rfl <;> rcases b with rfl | rfl | rfl | rfl | rfl | rfl | rfl <;> first | rfl | exact absurd h (by decide)
theorem dig_inj {s t : Int} (h1 : 0 ≤ s ∧ s ≤ 8) (h2 : 0 ≤ t ∧ t ≤ 8) (h : digI s = digI t) : s = t := by
  have a : s = 0 ∨ s = 1 ∨ s = 2 ∨ s = 3 ∨ s = 4 ∨ s = 5 ∨ s = 6 ∨ s = 7 ∨ s = 8 := by omega
  have b : t = 0 ∨ t = 1 ∨ t = 2 ∨ t = 3 ∨ t = 4 ∨ t = 5 ∨ t = 6 ∨ t = 7 ∨ t = 8 := by omega
  rcases a with rfl | rfl | rfl | rfl | rfl | rfl | rfl | rfl | rfl <;> rcases b with rfl | rfl | rfl | rfl | rfl | rfl | rfl | rfl | rfl <;> first | rfl | exact absurd h (by decide)
theorem text_inj {p q : Pi3} (hp : okP p) (hq : okP q) (h : textL p = textL q) : p = q := by
  obtain ⟨s, o, a⟩ := p
  obtain ⟨s', o', a'⟩ := q
  obtain ⟨p1, p2, p3⟩ := hp
  obtain ⟨q1, q2, q3⟩ := hq
  simp only at p1 p2 p3 q1 q2 q3
  simp only [textL, List.cons.injEq] at h
  obtain ⟨h1, h2⟩ := h
  have e1 := letter_inj p1 q1 h1
  subst e1
  have a3 : a = -1 ∨ a = 0 ∨ a = 1 := by omega
  have b3 : a' = -1 ∨ a' = 0 ∨ a' = 1 := by omega
  rcases a3 with rfl | rfl | rfl <;> rcases b3 with rfl | rfl | rfl <;> simp [accL] at h2
  all_goals first
    | rw [dig_inj p2 q2 h2]
    | rw [dig_inj p2 q2 h2.2]
theorem bytes_inj {a b : List UInt8} (h : (⟨a.toArray⟩ : ByteArray) = ⟨b.toArray⟩) : a = b := by
  have := congrArg (fun x : ByteArray => x.data.toList) h
  simpa using this
theorem ParseR.one {s : ByteArray} {r r' : Pi3 × Int} (h : ParseR s r) (h' : ParseR s r') : r = r' := by
  obtain ⟨p, e⟩ := r
  obtain ⟨p', e'⟩ := r'
  rcases h with ⟨h1, h2, h3⟩ | ⟨h1, h2⟩
  · rcases h' with ⟨k1, k2, k3⟩ | ⟨k1, _⟩
    · have := text_inj h1 k1 (bytes_inj (h2.symm.trans k2))
      simp only at this h3 k3
      rw [this, h3, k3]
    · exact absurd h2 (k1 _ h1)
  · rcases h' with ⟨k1, k2, _⟩ | ⟨_, k2⟩
    · exact absurd k2 (h1 _ k1)
    · rw [h2, k2]
/-- The text of a valid pitch is read as the pitch. -/
theorem ParseR.back {p : Pi3} (hp : okP p) {r : Pi3 × Int} (h : ParseR ⟨(textL p).toArray⟩ r) : r = (p, 0) := h.one (.inl ⟨hp, rfl, rfl⟩)

end Go.Proofs.YteomimeagloofaaDoor
