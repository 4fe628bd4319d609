/- Solmization as plain mathematics: ways to sing, their costs, the best list and what follows of it. -/
import Derived.Test.YtaldbjhalpgkeaaDoorPSpec
namespace Go.Proofs.YtaldbjhalpgkeaaDoor

/-- A way to sing: hexachord and syllable. -/
abbrev Sy := Int × Int
def beginI (h : Int) : Int := if h = 1 then 0 else if h = 2 then 3 else if h = 3 then 6 else if h = 4 then 7 else if h = 5 then 10 else if h = 6 then 13 else 14
def okS (s : Sy) : Prop := (1 ≤ s.1 ∧ s.1 ≤ 7) ∧ (1 ≤ s.2 ∧ s.2 ≤ 6)
instance (s : Sy) : Decidable (okS s) := by unfold okS; infer_instance
def placeS (s : Sy) : Int := beginI s.1 + s.2 - 1
def altS (s : Sy) : Int := if (s.1 = 3 ∨ s.1 = 6) ∧ s.2 = 4 then -1 else 0
/-- The pitch of a syllable. -/
def madeS (s : Sy) : Pi3 := ((placeS s + 18) % 7, (placeS s + 18) / 7, altS s)
/-- All ways, hexachord by hexachord. -/
def pairsL : List Sy := [(1, 1), (1, 2), (1, 3), (1, 4), (1, 5), (1, 6), (2, 1), (2, 2), (2, 3), (2, 4), (2, 5), (2, 6), (3, 1), (3, 2), (3, 3), (3, 4), (3, 5), (3, 6), (4, 1), (4, 2), (4, 3), (4, 4), (4, 5), (4, 6), (5, 1), (5, 2), (5, 3), (5, 4), (5, 5), (5, 6), (6, 1), (6, 2), (6, 3), (6, 4), (6, 5), (6, 6), (7, 1), (7, 2), (7, 3), (7, 4), (7, 5), (7, 6)]
def waysL (p : Pi3) : List Sy := pairsL.filter fun s => decide (madeS s = p)
/-- A pitch is in a hexachord. -/
def inH (p : Pi3) (h : Int) : Bool := decide (madeS (h, 1) = p ∨ madeS (h, 2) = p ∨ madeS (h, 3) = p ∨ madeS (h, 4) = p ∨ madeS (h, 5) = p ∨ madeS (h, 6) = p)
def smoothB (a b : Sy) : Bool := inH (madeS b) a.1 || inH (madeS a) b.1
abbrev Co := Nat × Nat
def costS (a b : Sy) : Co := if a.1 = b.1 then (0, 0) else if smoothB a b = true then (1, 0) else (1, 1)
def addC (x y : Co) : Co := (x.1 + y.1, x.2 + y.2)
def ltC (x y : Co) : Prop := x.1 < y.1 ∨ (x.1 = y.1 ∧ x.2 < y.2)
instance (x y : Co) : Decidable (ltC x y) := by unfold ltC; infer_instance
def leC (x y : Co) : Prop := ¬ ltC y x

theorem pair_iff {s : Sy} : s ∈ pairsL ↔ okS s := by
  constructor
  · intro h
    have : ∀ s ∈ pairsL, okS s := by decide
    exact this s h
  · obtain ⟨a, b⟩ := s
    rintro ⟨⟨h1, h2⟩, h3, h4⟩
    simp only at h1 h2 h3 h4
    have e1 : a = 1 ∨ a = 2 ∨ a = 3 ∨ a = 4 ∨ a = 5 ∨ a = 6 ∨ a = 7 := by omega
    have e2 : b = 1 ∨ b = 2 ∨ b = 3 ∨ b = 4 ∨ b = 5 ∨ b = 6 := by omega
    rcases e1 with rfl | rfl | rfl | rfl | rfl | rfl | rfl <;> rcases e2 with rfl | rfl | rfl | rfl | rfl | rfl <;> decide
theorem way_iff {p : Pi3} {s : Sy} : s ∈ waysL p ↔ okS s ∧ madeS s = p := by
  unfold waysL
  rw [List.mem_filter, pair_iff]; simp
/-- The hexachord and the pitch tell the syllable. -/
theorem way_one {s t : Sy} (h : madeS s = madeS t) (e : s.1 = t.1) : s = t := by
  obtain ⟨a, b⟩ := s
  obtain ⟨c, d⟩ := t
  simp only at e
  subst e
  unfold madeS placeS at h
  simp only [Prod.mk.injEq] at h
  have : b = d := by omega
  rw [this]

/-! ### Costs of lists -/
def stepO (a : Option Sy) (b : Sy) : Co := match a with | none => (0, 0) | some a => costS a b
def totalO : Option Sy → List Sy → Co
  | _, [] => (0, 0)
  | a, b :: t => addC (stepO a b) (totalO (some b) t)
/-- The least of the costs of a list, and the first place where it stands: 'none' of no list. -/
def firstMin {α : Type} (f : α → Co) : List α → Option α
  | [] => none
  | a :: t => match firstMin f t with
    | none => some a
    | some b => if ltC (f b) (f a) then some b else some a
theorem firstMin_some {α : Type} {f : α → Co} : ∀ {l : List α}, l ≠ [] → ∃ a, firstMin f l = some a
  | [], h => absurd rfl h
  | a :: t, _ => by
    unfold firstMin
    cases firstMin f t with
    | none => exact ⟨a, rfl⟩
    | some b => by_cases h : ltC (f b) (f a)
                · exact ⟨b, if_pos h⟩
                · exact ⟨a, if_neg h⟩
theorem firstMin_spec {α : Type} {f : α → Co} : ∀ {l : List α} {a : α}, firstMin f l = some a → a ∈ l ∧ (∀ b ∈ l, leC (f a) (f b)) ∧ ∀ (r : α → α → Prop), l.Pairwise r → ∀ b ∈ l, f b = f a → b = a ∨ r a b
  | [], a, h => by cases h
  | c :: t, a, h => by
    unfold firstMin at h
    cases hm : firstMin f t with
    | none =>
      rw [hm] at h
      simp only [Option.some.injEq] at h
      subst h
      have ht : t = [] := by
        apply Classical.byContradiction
        intro e
        obtain ⟨b, hb⟩ := firstMin_some (f := f) e
        rw [hm] at hb; cases hb
      subst ht
      refine ⟨by simp, fun b hb => ?_, fun r _ b hb _ => ?_⟩
      · rw [List.mem_singleton] at hb; subst hb; unfold leC ltC; omega
      · rw [List.mem_singleton] at hb; exact .inl hb
    | some b =>
      rw [hm] at h
      simp only at h
      obtain ⟨h1, h2, h3⟩ := firstMin_spec hm
      by_cases hlt : ltC (f b) (f c)
      · rw [if_pos hlt] at h
        simp only [Option.some.injEq] at h
        subst h
        refine ⟨List.mem_cons_of_mem _ h1, fun x hx => ?_, fun r hr x hx e => ?_⟩
        · rcases List.mem_cons.1 hx with rfl | hx
          · unfold leC ltC at *; omega
          · exact h2 x hx
        · rcases List.mem_cons.1 hx with rfl | hx
          · rw [e] at hlt; unfold ltC at hlt; omega
          · exact h3 r (List.pairwise_cons.1 hr).2 x hx e
      · rw [if_neg hlt] at h
        simp only [Option.some.injEq] at h
        subst h
        refine ⟨by simp, fun x hx => ?_, fun r hr x hx e => ?_⟩
        · rcases List.mem_cons.1 hx with rfl | hx
          · unfold leC ltC; omega
          · have := h2 x hx
            unfold leC ltC at *; omega
        · rcases List.mem_cons.1 hx with rfl | hx
          · exact .inl rfl
          · exact .inr ((List.pairwise_cons.1 hr).1 x hx)

/-- The least cost of the rest of a melody behind a way. -/
def restC : List Pi3 → Sy → Co
  | [], _ => (0, 0)
  | q :: t, a => match firstMin (fun b => addC (costS a b) (restC t b)) (waysL q) with
    | none => (0, 0)
    | some b => addC (costS a b) (restC t b)
/-- The best list, from the front. -/
def bestO : Option Sy → List Pi3 → List Sy
  | _, [] => []
  | a, q :: t => match firstMin (fun b => addC (stepO a b) (restC t b)) (waysL q) with
    | none => []
    | some b => b :: bestO (some b) t
def bestL (l : List Pi3) : List Sy := bestO none l

/-- A list of ways sings a melody. -/
def Sings (l : List Pi3) (ws : List Sy) : Prop := ws.map madeS = l ∧ ∀ s ∈ ws, okS s
/-- Every pitch is sung in some way. -/
def Sung (l : List Pi3) : Prop := ∀ p ∈ l, waysL p ≠ []
def movesL : List Sy → Nat
  | [] => 0
  | [_] => 0
  | a :: b :: t => (if a.1 = b.1 then 0 else 1) + movesL (b :: t)

theorem Sings.nil : Sings [] [] := ⟨rfl, by simp⟩
theorem Sings.cons {p : Pi3} {l : List Pi3} {ws : List Sy} (h : Sings (p :: l) ws) : ∃ s t, ws = s :: t ∧ s ∈ waysL p ∧ Sings l t := by
  obtain ⟨h1, h2⟩ := h
  cases ws with
  | nil => simp at h1
  | cons s t =>
    simp only [List.map_cons, List.cons.injEq] at h1
    exact ⟨s, t, rfl, way_iff.2 ⟨h2 s (by simp), h1.1⟩, h1.2, fun x hx => h2 x (by simp [hx])⟩
theorem Sings.mk {p : Pi3} {l : List Pi3} {s : Sy} {t : List Sy} (h : s ∈ waysL p) (k : Sings l t) : Sings (p :: l) (s :: t) := by
  obtain ⟨h1, h2⟩ := way_iff.1 h
  refine ⟨by simp [h2, k.1], fun x hx => ?_⟩
  rcases List.mem_cons.1 hx with rfl | hx
  · exact h1
  · exact k.2 x hx
theorem Sings.len {l : List Pi3} {ws : List Sy} (h : Sings l ws) : ws.length = l.length := by rw [← h.1]; simp
theorem Sings.sung {l : List Pi3} {ws : List Sy} (h : Sings l ws) : Sung l := by
  intro p hp
  rw [← h.1, List.mem_map] at hp
  obtain ⟨s, hs, e⟩ := hp
  exact List.ne_nil_of_mem (way_iff.2 ⟨h.2 s hs, e⟩)
theorem ways_up (p : Pi3) : (waysL p).Pairwise fun a b => a.1 ≤ b.1 := by
  unfold waysL
  exact List.Pairwise.filter _ (by decide)

/-- Lists of hexachords in the order of words. -/
def leH : List Sy → List Sy → Prop
  | [], _ => True
  | _ :: _, [] => False
  | a :: s, b :: t => a.1 < b.1 ∨ (a.1 = b.1 ∧ leH s t)

theorem leC_anti {x y : Co} (h : leC x y) (k : leC y x) : x = y := by
  unfold leC ltC at *
  exact Prod.ext (by omega) (by omega)
theorem leC_refl (x : Co) : leC x x := by unfold leC ltC; omega
theorem leC_trans {x y z : Co} (h : leC x y) (k : leC y z) : leC x z := by unfold leC ltC at *; omega
theorem leC_add {x y : Co} (z : Co) (h : leC x y) : leC (addC z x) (addC z y) := by
  unfold leC ltC addC at *; simp only; omega
theorem addC_inj {x y z : Co} (h : addC z x = addC z y) : x = y := by
  unfold addC at h
  simp only [Prod.mk.injEq] at h
  exact Prod.ext (by omega) (by omega)

theorem rest_eq : ∀ (t : List Pi3) (c : Sy), Sung t → totalO (some c) (bestO (some c) t) = restC t c
  | [], _, _ => rfl
  | r :: u, c, hs => by
    obtain ⟨d, hd⟩ := firstMin_some (f := fun b => addC (costS c b) (restC u b)) (hs r (by simp))
    have e1 : bestO (some c) (r :: u) = d :: bestO (some d) u := by
      conv => lhs; unfold bestO
      show (match firstMin (fun b => addC (costS c b) (restC u b)) (waysL r) with | none => [] | some b => b :: bestO (some b) u) = _
      rw [hd]
    have e2 : restC (r :: u) c = addC (costS c d) (restC u d) := by
      conv => lhs; unfold restC
      rw [hd]
    rw [e1, e2, ← rest_eq u d (fun p hp => hs p (by simp [hp]))]
    rfl

/-- The best list is the best one. -/
theorem best_spec : ∀ (l : List Pi3) (a : Option Sy), Sung l → Sings l (bestO a l) ∧ ∀ ws, Sings l ws → leC (totalO a (bestO a l)) (totalO a ws) ∧ (totalO a ws = totalO a (bestO a l) → leH (bestO a l) ws)
  | [], a, _ => by
    refine ⟨Sings.nil, fun ws h => ?_⟩
    have : ws = [] := by
      have := h.len; simpa using this
    subst this
    exact ⟨leC_refl _, fun _ => trivial⟩
  | q :: t, a, hs => by
    obtain ⟨b, hb⟩ := firstMin_some (f := fun b => addC (stepO a b) (restC t b)) (hs q (by simp))
    obtain ⟨h1, h2, h3⟩ := firstMin_spec hb
    have ht : Sung t := fun p hp => hs p (by simp [hp])
    have e : bestO a (q :: t) = b :: bestO (some b) t := by
      conv => lhs; unfold bestO
      rw [hb]
    obtain ⟨i1, i2⟩ := best_spec t (some b) ht
    have et : totalO a (b :: bestO (some b) t) = addC (stepO a b) (restC t b) := by
      show addC (stepO a b) (totalO (some b) (bestO (some b) t)) = _
      rw [rest_eq t b ht]
    rw [e]
    refine ⟨Sings.mk h1 i1, fun ws hw => ?_⟩
    obtain ⟨c, u, rfl, hc, hu⟩ := hw.cons
    obtain ⟨_, j2⟩ := best_spec t (some c) ht
    have k1 := (j2 u hu).1
    rw [rest_eq t c ht] at k1
    have k2 := leC_add (stepO a c) k1
    have k3 := h2 c hc
    rw [et]
    have k4 : leC (addC (stepO a b) (restC t b)) (totalO a (c :: u)) := leC_trans k3 k2
    refine ⟨k4, fun e2 => ?_⟩
    have k5 : totalO a (c :: u) = addC (stepO a c) (totalO (some c) u) := rfl
    have k6 : addC (stepO a c) (restC t c) = addC (stepO a b) (restC t b) := leC_anti (by rw [← e2]; exact k2) k3
    have k7 : totalO (some c) u = restC t c := addC_inj (z := stepO a c) (by rw [← k5, e2, k6])
    rcases h3 (fun x y => x.1 ≤ y.1) (ways_up q) c hc k6 with rfl | hr
    · exact .inr ⟨rfl, (i2 u hu).2 (by rw [k7, rest_eq t c ht])⟩
    · by_cases hlt : b.1 < c.1
      · exact .inl hlt
      · have hbc : b = c := way_one ((way_iff.1 h1).2.trans (way_iff.1 hc).2.symm) (by omega)
        subst hbc
        exact .inr ⟨rfl, (i2 u hu).2 (by rw [k7, rest_eq t b ht])⟩

/-! ### Numbers of mutations -/
theorem cost_fst (a b : Sy) : (costS a b).1 = if a.1 = b.1 then 0 else 1 := by
  unfold costS
  by_cases h : a.1 = b.1
  · rw [if_pos h, if_pos h]
  · rw [if_neg h, if_neg h]
    split <;> rfl
theorem total_fst : ∀ (l : List Sy) (a : Sy), (totalO (some a) l).1 = movesL (a :: l)
  | [], _ => rfl
  | b :: t, a => by
    show (costS a b).1 + (totalO (some b) t).1 = (if a.1 = b.1 then 0 else 1) + movesL (b :: t)
    rw [total_fst t b, cost_fst]
theorem total_none (l : List Sy) : (totalO none l).1 = movesL l := by
  cases l with
  | nil => rfl
  | cons a t =>
    show 0 + (totalO (some a) t).1 = _
    rw [Nat.zero_add, total_fst]
def fewL (l : List Pi3) : Nat := movesL (bestL l)
theorem best_sings {l : List Pi3} (h : Sung l) : Sings l (bestL l) := (best_spec l none h).1
/-- No list has fewer mutations. -/
theorem few_le {l : List Pi3} {ws : List Sy} (h : Sings l ws) : fewL l ≤ movesL ws := by
  have := ((best_spec l none h.sung).2 ws h).1
  unfold leC ltC at this
  rw [total_none] at this
  have e : (totalO none (bestO none l)).1 = fewL l := total_none _
  omega
theorem moves_app : ∀ (s : List Sy) (a b : Sy) (t : List Sy), movesL (s ++ a :: b :: t) = movesL (s ++ [a]) + (if a.1 = b.1 then 0 else 1) + movesL (b :: t)
  | [], a, b, t => by show (if a.1 = b.1 then 0 else 1) + movesL (b :: t) = 0 + (if a.1 = b.1 then 0 else 1) + movesL (b :: t); omega
  | [x], a, b, t => by
    show (if x.1 = a.1 then 0 else 1) + ((if a.1 = b.1 then 0 else 1) + movesL (b :: t)) = (if x.1 = a.1 then 0 else 1) + 0 + (if a.1 = b.1 then 0 else 1) + movesL (b :: t); omega
  | x :: y :: s, a, b, t => by
    have := moves_app (y :: s) a b t
    show (if x.1 = y.1 then 0 else 1) + movesL ((y :: s) ++ a :: b :: t) = (if x.1 = y.1 then 0 else 1) + movesL ((y :: s) ++ [a]) + _ + _
    omega
theorem moves_join (s t : List Sy) : movesL s + movesL t ≤ movesL (s ++ t) ∧ movesL (s ++ t) ≤ movesL s + movesL t + 1 := by
  cases t with
  | nil => rw [List.append_nil]; show _ + 0 ≤ _ ∧ _ ≤ _ + 0 + 1; omega
  | cons b t =>
    rcases List.eq_nil_or_concat s with rfl | ⟨s', a, rfl⟩
    · show 0 + movesL (b :: t) ≤ movesL (b :: t) ∧ movesL (b :: t) ≤ 0 + movesL (b :: t) + 1; omega
    · rw [List.concat_eq_append, List.append_assoc]
      show movesL (s' ++ [a]) + _ ≤ movesL (s' ++ a :: b :: t) ∧ movesL (s' ++ a :: b :: t) ≤ _
      rw [moves_app]
      split <;> omega
theorem moves_rev : ∀ s : List Sy, movesL s.reverse = movesL s
  | [] => rfl
  | [_] => rfl
  | a :: b :: t => by
    have h := moves_rev (b :: t)
    have e : (a :: b :: t).reverse = t.reverse ++ b :: a :: [] := by simp
    rw [e, moves_app]
    have e2 : (b :: t).reverse = t.reverse ++ [b] := by simp
    rw [e2] at h
    rw [h]
    show movesL (b :: t) + (if b.1 = a.1 then 0 else 1) + 0 = (if a.1 = b.1 then 0 else 1) + movesL (b :: t)
    by_cases e3 : a.1 = b.1
    · rw [if_pos e3, if_pos e3.symm]; omega
    · rw [if_neg e3, if_neg (fun x => e3 x.symm)]; omega
theorem Sings.rev {l : List Pi3} {ws : List Sy} (h : Sings l ws) : Sings l.reverse ws.reverse :=
  ⟨by rw [List.map_reverse, h.1], fun s hs => h.2 s (by simpa using hs)⟩
theorem Sings.app {l m : List Pi3} {s t : List Sy} (h : Sings l s) (k : Sings m t) : Sings (l ++ m) (s ++ t) :=
  ⟨by rw [List.map_append, h.1, k.1], fun x hx => by rcases List.mem_append.1 hx with hx | hx; exact h.2 x hx; exact k.2 x hx⟩
theorem Sings.split {l m : List Pi3} {ws : List Sy} (h : Sings (l ++ m) ws) : ∃ s t, ws = s ++ t ∧ Sings l s ∧ Sings m t := by
  refine ⟨ws.take l.length, ws.drop l.length, (List.take_append_drop _ _).symm, ⟨?_, fun x hx => h.2 x (List.mem_of_mem_take hx)⟩, ?_, fun x hx => h.2 x (List.mem_of_mem_drop hx)⟩
  · rw [List.map_take, h.1, List.take_left]
  · rw [List.map_drop, h.1, List.drop_left]
/-- A melody and its reverse have as many. -/
theorem few_rev {l : List Pi3} (h : Sung l) : fewL l.reverse = fewL l := by
  have hr : Sung l.reverse := fun p hp => h p (by simpa using hp)
  have a := few_le (best_sings h).rev
  have b := few_le (best_sings hr).rev
  rw [moves_rev] at a b
  rw [List.reverse_reverse] at b
  unfold fewL at *
  omega
/-- Two melodies, one after the other. -/
theorem few_join {l m : List Pi3} (h : Sung l) (k : Sung m) : fewL l + fewL m ≤ fewL (l ++ m) ∧ fewL (l ++ m) ≤ fewL l + fewL m + 1 := by
  have hk : Sung (l ++ m) := fun p hp => by rcases List.mem_append.1 hp with hp | hp; exact h p hp; exact k p hp
  have a := few_le ((best_sings h).app (best_sings k))
  have b := (moves_join (bestL l) (bestL m)).2
  obtain ⟨s, t, e, hs, ht⟩ := (best_sings hk).split
  have c := few_le hs
  have d := few_le ht
  have f := (moves_join s t).1
  rw [← e] at f
  unfold fewL at *
  omega
/-! ### An octave higher -/
def upP (p : Pi3) : Pi3 := (p.1, p.2.1 + 1, p.2.2)
def upS (s : Sy) : Sy := (s.1 + 3, s.2)
theorem made_up {s : Sy} (h : okS s) (h4 : s.1 ≤ 4) : okS (upS s) ∧ madeS (upS s) = upP (madeS s) := by
  obtain ⟨a, b⟩ := s
  obtain ⟨⟨h1, h2⟩, h3, h5⟩ := h
  simp only at h1 h2 h3 h4 h5
  have e1 : a = 1 ∨ a = 2 ∨ a = 3 ∨ a = 4 := by omega
  have e2 : b = 1 ∨ b = 2 ∨ b = 3 ∨ b = 4 ∨ b = 5 ∨ b = 6 := by omega
  rcases e1 with rfl | rfl | rfl | rfl <;> rcases e2 with rfl | rfl | rfl | rfl | rfl | rfl <;> decide
theorem moves_up : ∀ ws : List Sy, movesL (ws.map upS) = movesL ws
  | [] => rfl
  | [_] => rfl
  | a :: b :: t => by
    have := moves_up (b :: t)
    show (if a.1 + 3 = b.1 + 3 then 0 else 1) + movesL ((b :: t).map upS) = (if a.1 = b.1 then 0 else 1) + movesL (b :: t)
    rw [this]
    by_cases e : a.1 = b.1
    · rw [if_pos e, if_pos (by omega)]
    · rw [if_neg e, if_neg (by omega)]
theorem few_up {l : List Pi3} (h : Sung l) (k : ∀ s ∈ bestL l, s.1 ≤ 4) : Sung (l.map upP) ∧ fewL (l.map upP) ≤ fewL l := by
  have hb := best_sings h
  have hu : Sings (l.map upP) ((bestL l).map upS) := by
    refine ⟨?_, fun s hs => ?_⟩
    · rw [List.map_map]
      conv => rhs; rw [← hb.1]
      rw [List.map_map]
      exact List.map_congr_left fun s hs => (made_up (hb.2 s hs) (k s hs)).2
    · rw [List.mem_map] at hs
      obtain ⟨t, ht, rfl⟩ := hs
      exact (made_up (hb.2 t ht) (k t ht)).1
  refine ⟨hu.sung, ?_⟩
  have := few_le hu
  rwa [moves_up] at this

end Go.Proofs.YtaldbjhalpgkeaaDoor
