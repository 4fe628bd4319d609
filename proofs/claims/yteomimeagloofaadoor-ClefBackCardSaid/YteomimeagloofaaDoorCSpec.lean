/- Clefs by definition: which are valid, the pitches of places and the places of pitches, ledger lines, the best clef. -/
import Derived.Test.YteomimeagloofaaDoorKPit
namespace Go.Proofs.YteomimeagloofaaDoor

abbrev Cl := Int × Int
abbrev cv (c : Cl) : Value := .agg #[.int .i64 c.1, .int .i64 c.2]
def stepOk (s : Int) : Prop := s = 0 ∨ s = 3 ∨ s = 4
instance (s : Int) : Decidable (stepOk s) := by unfold stepOk; infer_instance
def okC (c : Cl) : Prop := stepOk c.1 ∧ 1 ≤ c.2 ∧ c.2 ≤ 5
instance (c : Cl) : Decidable (okC c) := by unfold okC; infer_instance
def chkC (c : Cl) : Int := if stepOk c.1 then (if 1 ≤ c.2 ∧ c.2 ≤ 5 then 0 else 2) else 8
theorem chkC_ok {c : Cl} (h : okC c) : chkC c = 0 := by unfold chkC; rw [if_pos h.1, if_pos h.2]
theorem chkC_step {c : Cl} (h : ¬ stepOk c.1) : chkC c = 8 := if_neg h
theorem chkC_line {c : Cl} (h : stepOk c.1) (k : ¬ (1 ≤ c.2 ∧ c.2 ≤ 5)) : chkC c = 2 := by unfold chkC; rw [if_pos h, if_neg k]
theorem chkC_zero {c : Cl} (h : chkC c = 0) : okC c := by
  unfold chkC at h
  split at h
  · split at h
    · exact ⟨‹_›, ‹_›⟩
    · cases h
  · cases h
/-- The error of a clef and a key. -/
def keyE (c : Cl) (k : Int) : Int := if chkC c = 0 then (if 0 ≤ k ∧ k ≤ 2 then 0 else 2) else chkC c
theorem keyE_zero {c : Cl} {k : Int} (h : keyE c k = 0) : okC c ∧ 0 ≤ k ∧ k ≤ 2 := by
  unfold keyE at h
  split at h
  · split at h
    · exact ⟨chkC_zero ‹_›, ‹_›⟩
    · cases h
  · exact absurd h ‹_›
theorem keyE_ok {c : Cl} {k : Int} (h : okC c) (hk : 0 ≤ k ∧ k ≤ 2) : keyE c k = 0 := by unfold keyE; rw [if_pos (chkC_ok h), if_pos hk]
theorem keyE_out {c : Cl} {k : Int} (h : okC c) (hk : ¬ (0 ≤ k ∧ k ≤ 2)) : keyE c k = 2 := by unfold keyE; rw [if_pos (chkC_ok h), if_neg hk]
theorem keyE_no {c : Cl} {k : Int} (h : ¬ chkC c = 0) : keyE c k = chkC c := if_neg h
def onP (x : Int) : Prop := -4 ≤ x ∧ x ≤ 12
instance (x : Int) : Decidable (onP x) := by unfold onP; infer_instance
def lowC (c : Cl) : Int := 7 * (if c.1 = 3 then 3 else 4) + c.1 - 2 * (c.2 - 1)
theorem low_bd {c : Cl} (h : okC c) : 16 ≤ lowC c ∧ lowC c ≤ 32 := by
  obtain ⟨h1, h2, h3⟩ := h
  unfold stepOk at h1
  unfold lowC
  rcases h1 with e | e | e <;> rw [e] <;> simp only [Int.reduceEq, if_true, if_false] <;> omega
def flatI (k s : Int) : Int := if (1 ≤ k ∧ s = 6) ∨ (k = 2 ∧ s = 2) then -1 else 0
theorem flat_bd (k s : Int) : flatI k s = -1 ∨ flatI k s = 0 := by
  unfold flatI; split
  · exact .inl rfl
  · exact .inr rfl
def altI (k s acc : Int) : Int := if acc = 0 then flatI k s else if acc = 2 then 0 else acc
/-- The error of a place and an accidental. -/
def pitE (c : Cl) (k place acc : Int) : Int := if keyE c k = 0 then (if onP place then (if -1 ≤ acc ∧ acc ≤ 2 then 0 else 8) else 2) else keyE c k
def pitC (c : Cl) (k place acc : Int) : Pi3 := ((lowC c + place) % 7, (lowC c + place) / 7, altI k ((lowC c + place) % 7) acc)
def pitR (c : Cl) (k place acc : Int) : Pi3 := if pitE c k place acc = 0 then pitC c k place acc else (0, 0, 0)
theorem pitE_zero {c : Cl} {k place acc : Int} (h : pitE c k place acc = 0) : okC c ∧ (0 ≤ k ∧ k ≤ 2) ∧ onP place ∧ -1 ≤ acc ∧ acc ≤ 2 := by
  unfold pitE at h
  split at h
  · rename_i hk
    split at h
    · split at h
      · exact ⟨(keyE_zero hk).1, (keyE_zero hk).2, ‹_›, ‹_›⟩
      · cases h
    · cases h
  · exact absurd h ‹_›
/-- The place of a pitch, its accidental, the error. -/
def atI (c : Cl) (p : Pi3) : Int := numI p - lowC c
def plaE (c : Cl) (k : Int) (p : Pi3) : Int := if keyE c k = 0 then (if chkV p = 0 then (if onP (atI c p) then 0 else 2) else chkV p) else keyE c k
def accI (k : Int) (p : Pi3) : Int := if p.2.2 = flatI k p.1 then 0 else if p.2.2 = 0 then 2 else p.2.2
def plaV (c : Cl) (k : Int) (p : Pi3) : Int × Int × Int := if plaE c k p = 0 then (atI c p, accI k p, 0) else (0, 0, plaE c k p)
def ledI (x : Int) : Int := if x < -1 then (-x) / 2 else if 9 < x then x / 2 - 4 else 0
def ledE (x : Int) : Int := if onP x then 0 else 2
def ledV (x : Int) : Int := if onP x then ledI x else 0
def movE (c d : Cl) (x : Int) : Int := if chkC c = 0 then (if chkC d = 0 then (if onP x ∧ onP (x + lowC c - lowC d) then 0 else 2) else chkC d) else chkC c
def movV (c d : Cl) (x : Int) : Int := if movE c d x = 0 then x + lowC c - lowC d else 0
/-- The ledger lines that pitches need under a clef; whether all have places. -/
def nedB (c : Cl) : List Pi3 → Bool
  | [] => true
  | p :: t => decide (onP (atI c p)) && nedB c t
def nedS (c : Cl) : List Pi3 → Int
  | [] => 0
  | p :: t => ledI (atI c p) + nedS c t
/-- The clef with a number from 0 to 14. -/
def clefN (i : Nat) : Cl := (if i / 5 = 0 then 0 else if i / 5 = 1 then 3 else 4, 1 + ((i % 5 : Nat) : Int))
theorem clefN_ok : ∀ i, i < 15 → okC (clefN i) := by
  intro i hi
  have hall : ∀ i ∈ List.range 15, okC (clefN i) := by decide
  exact hall i (List.mem_range.2 hi)
def bestSt (l : List Pi3) : Nat → Cl × Int
  | 0 => ((0, 0), -1)
  | k + 1 => if nedB (clefN k) l = true ∧ ((bestSt l k).2 < 0 ∨ nedS (clefN k) l < (bestSt l k).2) then (clefN k, nedS (clefN k) l) else bestSt l k
def besE (k : Int) (l : List Pi3) : Int := if 0 ≤ k ∧ k ≤ 2 then (if ∀ p ∈ l, okP p then (if (bestSt l 15).2 < 0 then 18 else 0) else 2) else 2
def besC (k : Int) (l : List Pi3) : Cl := if besE k l = 0 then (bestSt l 15).1 else (0, 0)

theorem led_nonneg {x : Int} : 0 ≤ ledI x := by
  unfold ledI; split
  · omega
  split <;> omega
theorem led_le {x : Int} (h : onP x) : ledI x ≤ 2 := by
  unfold onP at h; unfold ledI; split
  · omega
  split <;> omega
theorem ned_nonneg (c : Cl) : ∀ l, 0 ≤ nedS c l
  | [] => Int.le_refl 0
  | p :: t => by
    have h1 := led_nonneg (x := atI c p)
    have := ned_nonneg c t
    show 0 ≤ ledI (atI c p) + nedS c t
    omega
theorem ned_app (c : Cl) : ∀ l m, nedS c (l ++ m) = nedS c l + nedS c m ∧ nedB c (l ++ m) = (nedB c l && nedB c m)
  | [], m => ⟨by show nedS c m = 0 + nedS c m; omega, by show nedB c m = (true && nedB c m); simp⟩
  | p :: t, m => by
    have h := ned_app c t m
    refine ⟨?_, ?_⟩
    · show ledI (atI c p) + nedS c (t ++ m) = ledI (atI c p) + nedS c t + nedS c m
      rw [h.1]; omega
    · show (decide (onP (atI c p)) && nedB c (t ++ m)) = ((decide (onP (atI c p)) && nedB c t) && nedB c m)
      rw [h.2, Bool.and_assoc]
theorem ned_rev (c : Cl) : ∀ l : List Pi3, nedS c l.reverse = nedS c l ∧ nedB c l.reverse = nedB c l
  | [] => ⟨rfl, rfl⟩
  | p :: t => by
    have h := ned_rev c t
    rw [List.reverse_cons]
    refine ⟨?_, ?_⟩
    · rw [(ned_app c _ _).1, h.1]
      show nedS c t + (ledI (atI c p) + 0) = ledI (atI c p) + nedS c t
      omega
    · rw [(ned_app c _ _).2, h.2]
      show (nedB c t && (decide (onP (atI c p)) && true)) = (decide (onP (atI c p)) && nedB c t)
      rw [Bool.and_true, Bool.and_comm]
theorem best_congr {l m : List Pi3} (h : ∀ c, nedS c l = nedS c m ∧ nedB c l = nedB c m) : ∀ k, bestSt l k = bestSt m k
  | 0 => rfl
  | k + 1 => by
    show (if _ then _ else _) = (if _ then _ else _)
    rw [best_congr h k, (h (clefN k)).1, (h (clefN k)).2]
/-- What the best one is, after k clefs. -/
theorem best_inv (l : List Pi3) : ∀ k, k ≤ 15 → ((bestSt l k).2 < 0 ∧ ∀ i, i < k → nedB (clefN i) l = false) ∨
    (0 ≤ (bestSt l k).2 ∧ okC (bestSt l k).1 ∧ nedB (bestSt l k).1 l = true ∧ nedS (bestSt l k).1 l = (bestSt l k).2 ∧ ∀ i, i < k → nedB (clefN i) l = true → (bestSt l k).2 ≤ nedS (clefN i) l)
  | 0, _ => .inl ⟨(by decide : (-1 : Int) < 0), fun i hi => by omega⟩
  | k + 1, hk => by
    have ih := best_inv l k (by omega)
    have hn := ned_nonneg (clefN k) l
    by_cases hb : nedB (clefN k) l = true ∧ ((bestSt l k).2 < 0 ∨ nedS (clefN k) l < (bestSt l k).2)
    · have e : bestSt l (k + 1) = (clefN k, nedS (clefN k) l) := if_pos hb
      rw [e]
      refine .inr ⟨hn, clefN_ok k (by omega), hb.1, rfl, fun i hi hi2 => ?_⟩
      show nedS (clefN k) l ≤ nedS (clefN i) l
      by_cases hik : i = k
      · rw [hik]; exact Int.le_refl _
      · rcases ih with ⟨h1, h2⟩ | ⟨h1, _, _, _, h5⟩
        · have := h2 i (by omega); rw [this] at hi2; cases hi2
        · have := h5 i (by omega) hi2
          rcases hb.2 with hb2 | hb2 <;> omega
    · have e : bestSt l (k + 1) = bestSt l k := if_neg hb
      rw [e]
      rcases ih with ⟨h1, h2⟩ | ⟨h1, h2, h3, h4, h5⟩
      · refine .inl ⟨h1, fun i hi => ?_⟩
        by_cases hik : i = k
        · rw [hik]
          cases hh : nedB (clefN k) l
          · rfl
          · exact absurd ⟨hh, .inl h1⟩ hb
        · exact h2 i (by omega)
      · refine .inr ⟨h1, h2, h3, h4, fun i hi hi2 => ?_⟩
        by_cases hik : i = k
        · subst hik
          by_cases hlt : nedS (clefN i) l < (bestSt l i).2
          · exact absurd ⟨hi2, .inr hlt⟩ hb
          · omega
        · exact h5 i (by omega) hi2

end Go.Proofs.YteomimeagloofaaDoor
