/- Dots by definition: which runs are valid, what dots mean, the meaning by the rule, how many combinations there are, the combination of a number, cuts and additions. -/
import Derived.Test.YthokapebcplmkaaMProgC
import Derived.Test.YthokapebcplmkaaLgSpec
namespace Go.Proofs.Ythokapebcplmkaa

/-- What a dot after an uncolored note means if it does not divide at a greater value. -/
def ownM (q : Q4) (v : Int) : Int := if parV q v = 3 then v else 0
/-- The meanings of a dot after a sign, ascending. -/
def mns (q : Q4) (s : Sg) : List Int :=
  if s.kind = 1 then (if s.col = true then [0] else if aboV q s.val = 0 then [ownM q s.val] else if ownM q s.val = 0 then [0, aboV q s.val] else [aboV q s.val, ownM q s.val])
  else if aboV q s.val = 0 then [] else [aboV q s.val]
/-- The error of a sign behind another one. -/
def sgnE (q : Q4) (b s : Sg) : Int :=
  if s.kind = 1 ∨ s.kind = 2 then (if 1 ≤ s.val ∧ s.val ≤ 8 then 0 else 2) else if s.kind = 3 then (if (mns q b).length = 0 then 13 else 0) else 8
/-- What is kept of a sign. -/
def nxt (s : Sg) : Sg := if s.kind = 3 then zS else s
/-- What stands before sign k. -/
def bef (l : List Sg) : Nat → Sg
  | 0 => zS
  | k + 1 => nxt (l.getD k zS)
def errD (q : Q4) (l : List Sg) (k : Nat) : Int := sgnE q (bef l k) (l.getD k zS)
/-- The first error from number i on, of n signs. -/
def scan1 (f : Nat → Int) : Nat → Nat → Int
  | _, 0 => 0
  | i, n + 1 => if f i ≠ 0 then f i else scan1 f (i + 1) n
theorem scan1_hit {f : Nat → Int} {j : Nat} (hj : f j ≠ 0) : ∀ (n i : Nat), i ≤ j → j < i + n → (∀ k, i ≤ k → k < j → f k = 0) → scan1 f i n = f j
  | 0, i, h1, h2, _ => by omega
  | n + 1, i, h1, h2, h3 => by
    by_cases e : i = j
    · subst e; exact if_pos hj
    · have := scan1_hit hj n (i + 1) (by omega) (by omega) (fun k a b => h3 k (by omega) b)
      show (if f i ≠ 0 then _ else _) = _
      rw [if_neg (by rw [h3 i (Nat.le_refl _) (by omega)]; decide), this]
theorem scan1_none {f : Nat → Int} : ∀ (n i : Nat), (∀ k, i ≤ k → k < i + n → f k = 0) → scan1 f i n = 0
  | 0, _, _ => rfl
  | n + 1, i, h => by
    show (if f i ≠ 0 then _ else _) = _
    rw [if_neg (by rw [h i (Nat.le_refl _) (by omega)]; decide), scan1_none n (i + 1) (fun k a b => h k (by omega) (by omega))]
theorem scan1_zero {f : Nat → Int} : ∀ (n i : Nat), scan1 f i n = 0 → ∀ k, i ≤ k → k < i + n → f k = 0
  | 0, _, _, k, h1, h2 => by omega
  | n + 1, i, h, k, h1, h2 => by
    by_cases e : f i ≠ 0
    · exact absurd ((if_pos e).symm.trans h) e
    · have e1 : scan1 f i (n + 1) = scan1 f (i + 1) n := if_neg e
      by_cases c : k = i
      · rw [c]; exact Classical.not_not.1 e
      · exact scan1_zero n (i + 1) (e1.symm.trans h) k (by omega) (by omega)
/-- The error of a run. -/
def chkD (q : Q4) (l : List Sg) : Int := if okM q then scan1 (errD q l) 0 l.length else 12
theorem chkD_no {q : Q4} {l : List Sg} (h : ¬ okM q) : chkD q l = 12 := if_neg h
theorem chkD_hit {q : Q4} {l : List Sg} (h : okM q) {j : Nat} (hj : j < l.length) (he : errD q l j ≠ 0) (hb : ∀ k, k < j → errD q l k = 0) : chkD q l = errD q l j := by
  unfold chkD; rw [if_pos h]; exact scan1_hit he _ 0 (Nat.zero_le _) (by omega) (fun k _ hk => hb k hk)
theorem chkD_ok {q : Q4} {l : List Sg} (h : okM q) (hb : ∀ k, k < l.length → errD q l k = 0) : chkD q l = 0 := by
  unfold chkD; rw [if_pos h]; exact scan1_none _ 0 (fun k _ hk => hb k (by omega))
theorem chkD_zero {q : Q4} {l : List Sg} (h : chkD q l = 0) : okM q ∧ ∀ k, k < l.length → errD q l k = 0 := by
  by_cases e : okM q
  · unfold chkD at h
    rw [if_pos e] at h
    exact ⟨e, fun k hk => scan1_zero _ 0 h k (Nat.zero_le _) (by omega)⟩
  · rw [chkD_no e] at h; cases h

/-! ### Meanings -/
theorem abv_bd (q : Q4) : ∀ k, 0 ≤ abvI q k ∧ abvI q k ≤ (k : Int)
  | 0 => ⟨Int.le_refl _, Int.le_refl _⟩
  | k + 1 => by
    have ih := abv_bd q k
    unfold abvI
    split
    · omega
    · omega
theorem abo_bd (q : Q4) (v : Int) (h : aboV q v ≠ 0) : 1 ≤ aboV q v ∧ aboV q v < v ∧ v ≤ 8 := by
  by_cases c : valE q v = 0
  · have hv := (valE_zero c).2
    have hb := abv_bd q (v - 1).toNat
    have e := aboV_ok c
    omega
  · exact absurd (aboV_no c) h
theorem abo_range (q : Q4) (v : Int) : 0 ≤ aboV q v ∧ aboV q v ≤ 8 := by
  by_cases h : aboV q v = 0
  · omega
  · have := abo_bd q v h; omega
theorem parV_val {q : Q4} {v : Int} (h : parV q v = 3) : 1 ≤ v ∧ v ≤ 8 := by
  unfold parV at h
  split at h
  · exact (valE_zero ‹_›).2
  · cases h
theorem own_bd (q : Q4) (v : Int) : ownM q v = 0 ∨ (ownM q v = v ∧ 1 ≤ v ∧ v ≤ 8) := by
  unfold ownM
  by_cases h : parV q v = 3
  · rw [if_pos h]; exact .inr ⟨rfl, parV_val h⟩
  · rw [if_neg h]; exact .inl rfl
theorem mns_len (q : Q4) (s : Sg) : (mns q s).length ≤ 2 := by
  unfold mns
  repeat' split
  all_goals simp
/-- The greatest and least of the meanings. -/
theorem mns_bd (q : Q4) (s : Sg) : ∀ x ∈ mns q s, 0 ≤ x ∧ x ≤ 8 := by
  have h1 := abo_range q s.val
  have h2 := own_bd q s.val
  intro x hx
  unfold mns at hx
  repeat' split at hx
  all_goals
    simp only [List.mem_cons, List.not_mem_nil, or_false] at hx
    try omega
theorem mns_two (q : Q4) (s : Sg) (x y : Int) (h : mns q s = [x, y]) : x < y := by
  have h1 := abo_bd q s.val
  have h2 := own_bd q s.val
  unfold mns at h
  repeat' split at h
  all_goals
    first
      | (cases h; done)
      | (cases h; have := h1 ‹_›; omega)
/-- The meanings of the dots among the first k signs. -/
def mnP (q : Q4) (l : List Sg) : Nat → List (List Int)
  | 0 => []
  | k + 1 => if (l.getD k zS).kind = 3 then mnP q l k ++ [mns q (bef l k)] else mnP q l k
def mnD (q : Q4) (l : List Sg) : List (List Int) := if chkD q l = 0 then mnP q l l.length else []
theorem mnP_dot {q : Q4} {l : List Sg} {k : Nat} (h : (l.getD k zS).kind = 3) : mnP q l (k + 1) = mnP q l k ++ [mns q (bef l k)] := if_pos h
theorem mnP_not {q : Q4} {l : List Sg} {k : Nat} (h : (l.getD k zS).kind ≠ 3) : mnP q l (k + 1) = mnP q l k := if_neg h
theorem mnP_len (q : Q4) (l : List Sg) : ∀ k, (mnP q l k).length ≤ k
  | 0 => Nat.le_refl _
  | k + 1 => by
    have := mnP_len q l k
    unfold mnP
    split
    · simp; omega
    · omega
/-- The meaning by the rule of a dot after s, where x is the value of the next sign (none: there is none). -/
def rul (q : Q4) (s : Sg) (x : Option Int) : Int :=
  if (mns q s).length = 1 then (mns q s).getD 0 0 else if x = none ∨ ∃ y, x = some y ∧ s.val < y then ownM q s.val else aboV q s.val
instance (x : Option Int) (v : Int) : Decidable (∃ y, x = some y ∧ v < y) :=
  match x with
  | none => .isFalse (by rintro ⟨y, h, _⟩; cases h)
  | some y => if h : v < y then .isTrue ⟨y, rfl, h⟩ else .isFalse (by rintro ⟨z, e, hz⟩; cases e; exact h hz)
def nextV (l : List Sg) (k : Nat) : Option Int := (l[k + 1]?).map (·.val)
def ruP (q : Q4) (l : List Sg) : Nat → List Int
  | 0 => []
  | k + 1 => if (l.getD k zS).kind = 3 then ruP q l k ++ [rul q (bef l k) (nextV l k)] else ruP q l k
def ruD (q : Q4) (l : List Sg) : List Int := if chkD q l = 0 then ruP q l l.length else []
theorem ruP_dot {q : Q4} {l : List Sg} {k : Nat} (h : (l.getD k zS).kind = 3) : ruP q l (k + 1) = ruP q l k ++ [rul q (bef l k) (nextV l k)] := if_pos h
theorem ruP_not {q : Q4} {l : List Sg} {k : Nat} (h : (l.getD k zS).kind ≠ 3) : ruP q l (k + 1) = ruP q l k := if_neg h
theorem ruP_len (q : Q4) (l : List Sg) : ∀ k, (ruP q l k).length = (mnP q l k).length
  | 0 => rfl
  | k + 1 => by
    have := ruP_len q l k
    by_cases h : (l.getD k zS).kind = 3
    · rw [ruP_dot h, mnP_dot h, List.length_append, List.length_append, this]; rfl
    · rw [ruP_not h, mnP_not h, this]
/-- In a valid run a dot is not first, and stands behind a note or rest that has a meaning. -/
theorem dot_prev {q : Q4} {l : List Sg} (h : ∀ j, j < l.length → errD q l j = 0) {k : Nat} (hk : k < l.length) (hd : (l.getD k zS).kind = 3) :
    ∃ j, k = j + 1 ∧ (l.getD j zS).kind ≠ 3 ∧ ((l.getD j zS).kind = 1 ∨ (l.getD j zS).kind = 2) ∧ bef l k = l.getD j zS ∧ (mns q (l.getD j zS)).length ≠ 0 ∧ 1 ≤ (l.getD j zS).val ∧ (l.getD j zS).val ≤ 8 := by
  have he := h k hk
  unfold errD sgnE at he
  rw [if_neg (by rw [hd]; decide), if_pos hd] at he
  have hm : (mns q (bef l k)).length ≠ 0 := by
    intro e; rw [if_pos e] at he; cases he
  have hz : (mns q zS).length = 0 := by
    unfold mns
    have : aboV q zS.val = 0 := by
      unfold aboV
      rw [if_neg (fun e => by have := (valE_zero e).2; simp at this)]
    rw [if_neg (by decide), if_pos this]; rfl
  cases k with
  | zero => exact absurd hz hm
  | succ j =>
    have hj := h j (by omega)
    by_cases c : (l.getD j zS).kind = 3
    · have : bef l (j + 1) = zS := if_pos c
      rw [this] at hm
      exact absurd hz hm
    · have hb : bef l (j + 1) = l.getD j zS := if_neg c
      rw [hb] at hm
      unfold errD sgnE at hj
      by_cases c2 : (l.getD j zS).kind = 1 ∨ (l.getD j zS).kind = 2
      · rw [if_pos c2] at hj
        by_cases c3 : 1 ≤ (l.getD j zS).val ∧ (l.getD j zS).val ≤ 8
        · exact ⟨j, rfl, c, c2, hb, hm, c3.1, c3.2⟩
        · rw [if_neg c3] at hj; cases hj
      · rw [if_neg c2, if_neg c] at hj; cases hj
theorem mnP_one {q : Q4} {l : List Sg} (h : ∀ j, j < l.length → errD q l j = 0) : ∀ k, k ≤ l.length → ∀ x ∈ mnP q l k, 1 ≤ x.length ∧ x.length ≤ 2
  | 0, _, x, hx => by cases hx
  | k + 1, hk, x, hx => by
    by_cases hd : (l.getD k zS).kind = 3
    · rw [mnP_dot hd, List.mem_append] at hx
      rcases hx with hx | hx
      · exact mnP_one h k (by omega) x hx
      · obtain rfl := List.mem_singleton.1 hx
        obtain ⟨j, _, _, _, hb, hm, _⟩ := dot_prev h (by omega) hd
        rw [hb]
        have := mns_len q (l.getD j zS)
        omega
    · rw [mnP_not hd] at hx
      exact mnP_one h k (by omega) x hx
theorem mnD_one {q : Q4} {l : List Sg} : ∀ x ∈ mnD q l, 1 ≤ x.length ∧ x.length ≤ 2 := by
  intro x hx
  unfold mnD at hx
  split at hx
  · exact mnP_one (chkD_zero ‹_›).2 _ (Nat.le_refl _) x hx
  · cases hx
theorem mnP_bd (q : Q4) (l : List Sg) : ∀ k, ∀ x ∈ mnP q l k, ∀ y ∈ x, 0 ≤ y ∧ y ≤ 8
  | 0, x, hx, _, _ => by cases hx
  | k + 1, x, hx, y, hy => by
    by_cases hd : (l.getD k zS).kind = 3
    · rw [mnP_dot hd, List.mem_append] at hx
      rcases hx with hx | hx
      · exact mnP_bd q l k x hx y hy
      · obtain rfl := List.mem_singleton.1 hx
        exact mns_bd q _ y hy
    · rw [mnP_not hd] at hx
      exact mnP_bd q l k x hx y hy
theorem mnD_len (q : Q4) (l : List Sg) : (mnD q l).length ≤ l.length := by
  unfold mnD
  split
  · exact mnP_len q l _
  · exact Nat.zero_le _
theorem mnD_ok {q : Q4} {l : List Sg} (h : chkD q l = 0) : mnD q l = mnP q l l.length := if_pos h
theorem mnD_no {q : Q4} {l : List Sg} (h : ¬ chkD q l = 0) : mnD q l = [] := if_neg h
theorem ruD_ok {q : Q4} {l : List Sg} (h : chkD q l = 0) : ruD q l = ruP q l l.length := if_pos h
theorem ruD_no {q : Q4} {l : List Sg} (h : ¬ chkD q l = 0) : ruD q l = [] := if_neg h

/-! ### Combinations -/
def prodL : List (List Int) → Nat
  | [] => 1
  | x :: t => x.length * prodL t
theorem prodL_app : ∀ a b : List (List Int), prodL (a ++ b) = prodL a * prodL b
  | [], b => by simp [prodL]
  | x :: t, b => by show x.length * prodL (t ++ b) = x.length * prodL t * prodL b; rw [prodL_app t b, Nat.mul_assoc]
theorem prodL_pos : ∀ {L : List (List Int)}, (∀ x ∈ L, 1 ≤ x.length ∧ x.length ≤ 2) → 1 ≤ prodL L
  | [], _ => Nat.le_refl _
  | x :: t, h => by
    have h1 := (h x (List.mem_cons_self ..)).1
    have h2 := prodL_pos (L := t) (fun y hy => h y (List.mem_cons_of_mem _ hy))
    exact Nat.mul_pos h1 h2
theorem prodL_take {L : List (List Int)} (h : ∀ x ∈ L, 1 ≤ x.length ∧ x.length ≤ 2) (k : Nat) : prodL (L.take k) ≤ prodL L := by
  have e := prodL_app (L.take k) (L.drop k)
  rw [List.take_append_drop] at e
  have := prodL_pos (L := L.drop k) (fun x hx => h x (List.mem_of_mem_drop hx))
  rw [e]
  exact Nat.le_mul_of_pos_right _ this
theorem prodL_step (L : List (List Int)) {k : Nat} (hk : k < L.length) : prodL (L.take (k + 1)) = prodL (L.take k) * (L.getD k []).length := by
  rw [List.take_add_one, prodL_app, List.getElem?_eq_getElem hk]
  simp [prodL, List.getD_eq_getElem?_getD, List.getElem?_eq_getElem hk]
/-- How many combinations there are, and the error. -/
def cntD (q : Q4) (l : List Sg) : Int × Int := if chkD q l = 0 then (if prodL (mnD q l) ≤ 64 then ((prodL (mnD q l) : Int), 0) else (0, 15)) else (0, chkD q l)
/-- The combination with a number: the last dot changes first. -/
def ofR : List (List Int) → Nat → List Int
  | [], _ => []
  | x :: t, n => x.getD (n / prodL t % x.length) 0 :: ofR t n
theorem ofR_len : ∀ (L : List (List Int)) (n : Nat), (ofR L n).length = L.length
  | [], _ => rfl
  | x :: t, n => by simp [ofR, ofR_len t n]
/-- The error of Of. -/
def ofE (q : Q4) (l : List Sg) (n : Int) : Int := if (cntD q l).2 = 0 then (if 0 ≤ n ∧ n < (cntD q l).1 then 0 else 2) else (cntD q l).2
def ofD (q : Q4) (l : List Sg) (n : Int) : List Int := if ofE q l n = 0 then ofR (mnD q l) n.toNat else []

/-! ### Cuts and additions -/
def okC (L : List (List Int)) (ch : List Int) : Prop := ch.length = L.length ∧ ∀ i, i < L.length → ch.getD i 0 ∈ L.getD i []
instance (L : List (List Int)) (ch : List Int) : Decidable (okC L ch) := by
  unfold okC
  have : Decidable (∀ i, i < L.length → ch.getD i 0 ∈ L.getD i []) := decidable_of_iff (∀ i ∈ List.range L.length, ch.getD i 0 ∈ L.getD i []) ⟨fun h i hi => h i (List.mem_range.2 hi), fun h i hi => h i (List.mem_range.1 hi)⟩
  infer_instance
def setZ {α : Type} (xs : List α) (x : α) : List α := xs.set (xs.length - 1) x
/-- Cuts, additions and how many dots, of the first k signs. -/
def mkP (l : List Sg) (ch : List Int) : Nat → List Int × List Bool × Nat
  | 0 => ([], [], 0)
  | k + 1 => if (l.getD k zS).kind = 3 then (setZ (mkP l ch k).1 (ch.getD (mkP l ch k).2.2 0), setZ (mkP l ch k).2.1 (decide (ch.getD (mkP l ch k).2.2 0 = 0)), (mkP l ch k).2.2 + 1)
    else ((mkP l ch k).1 ++ [0], (mkP l ch k).2.1 ++ [false], (mkP l ch k).2.2)
def mkE (q : Q4) (l : List Sg) (ch : List Int) : Int := if chkD q l = 0 then (if okC (mnD q l) ch then 0 else 2) else chkD q l
def mkC (q : Q4) (l : List Sg) (ch : List Int) : List Int := if mkE q l ch = 0 then (mkP l ch l.length).1 else []
def mkA (q : Q4) (l : List Sg) (ch : List Int) : List Bool := if mkE q l ch = 0 then (mkP l ch l.length).2.1 else []

end Go.Proofs.Ythokapebcplmkaa
