/- A region that draws its order, loads cells and writes them at its end: the loads may be taken first, for whatever writes waits for them. -/
import Derived.Deep.RegionHeld
namespace Go.Proofs.Ythokapebcplmkaa

section
variable {P : Program} {md : Region.Mode} {ops : Array Oper} {Q : Exit → Act → World → Prop} {S : World → Prop} {late : List Nat}

/-- One of the late operations has come up. -/
def lateIn (late : List Nat) (ls : Array Bool) : Bool := late.any fun j => ls.getD j false
theorem lateIn_iff {ls : Array Bool} : lateIn late ls = true ↔ ∃ j ∈ late, ls.getD j false = true := by
  unfold lateIn; rw [List.any_eq_true]
theorem lateIn_set {ls : Array Bool} {i : Nat} (h : lateIn late ls = true) : lateIn late (ls.setIfInBounds i true) = true := by
  obtain ⟨j, hj, h1⟩ := lateIn_iff.1 h
  exact lateIn_iff.2 ⟨j, hj, getD_set_true h1⟩
theorem lateIn_not {ls : Array Bool} {i : Nat} (hi : late.contains i = false) (h : lateIn late (ls.setIfInBounds i true) = true) : lateIn late ls = true := by
  obtain ⟨j, hj, h1⟩ := lateIn_iff.1 h
  have hne : i ≠ j := fun e => by
    subst e
    have : late.contains i = true := by simpa using hj
    rw [hi] at this; cases this
  rw [getD_set_ne false hne] at h1
  exact lateIn_iff.2 ⟨j, hj, h1⟩

/-- Whatever order is drawn; S holds till a late operation has come up. -/
def wpL (P : Program) (md : Region.Mode) (ops : Array Oper) (Q : Exit → Act → World → Prop) (S : World → Prop) (late : List Nat) : Nat → Array Bool → Act → World → Prop
  | 0, ls, a, w => Region.ready md ops ls = [] ∧ Q .normal a w
  | n + 1, ls, a, w => (Region.ready md ops ls = [] → Q .normal a w) ∧
      ∀ j ∈ Region.ready md ops ls, wpOp P ops Q j (fun b u => (S u ∨ lateIn late (ls.setIfInBounds j true) = true) ∧ wpL P md ops Q S late n (ls.setIfInBounds j true) b u) a w

theorem wpL_any : ∀ (n : Nat) (ls : Array Bool) (a : Act) (w : World), wpL P md ops Q S late n ls a w → wpAny P md ops Q n ls a w
  | 0, _, _, _, h => h
  | n + 1, _, _, _, h => ⟨h.1, fun j hj => wpOp_mono (fun b u x => wpL_any n _ b u x.2) (h.2 j hj)⟩

/-- Whatever is late waits for number i. -/
def waits (md : Region.Mode) (ops : Array Oper) (late : List Nat) (i : Nat) : Bool :=
  late.all fun j => match ops[j]? with | some o => o.after.any (fun e => Region.binds md e && e.on == i) | none => true

theorem getD_both {ls : Array Bool} {i : Nat} (h : ls.getD i true = false) : ls.getD i false = false := by
  rcases Nat.lt_or_ge i ls.size with h1 | h1
  · simp [h1] at h ⊢; exact h
  · simp [Array.getElem?_eq_none h1]
theorem waits_spec {i j : Nat} {ls : Array Bool} (h : waits md ops late i = true) (hj : j ∈ Region.ready md ops ls) (hi : ls.getD i false = false) : late.contains j = false := by
  obtain ⟨_, o, ho, hall⟩ := mem_ready.1 hj
  cases hc : late.contains j with
  | false => rfl
  | true =>
    have h1 := List.all_eq_true.1 h j (by simpa using hc)
    rw [ho] at h1
    obtain ⟨e, he, hb⟩ := Array.any_eq_true'.1 h1
    simp only [Bool.and_eq_true, beq_iff_eq] at hb
    have := hall e he hb.1
    rw [hb.2, hi] at this
    cases this

/-- A load that may come up is taken first. -/
theorem wpL_first {i : Nat} {oi : Oper} {v : Value} (hi : ops[i]? = some oi) (hs : Region.noSelect ops = true) (hl : waits md ops late i = true) (hil : late.contains i = false)
    (hQ : ∀ c a w, Q (.panic c) (a.put oi.dst v) w → Q (.panic c) a w) : ∀ (n : Nat) (ls : Array Bool) (a : Act) (w : World),
    (∀ j oj, ops[j]? = some oj → j ≠ i → ls.getD j true = false → (∀ e ∈ oj.after, Region.binds md e = true → e.on ≠ i) → oi.apart ops oj = true) →
    i ∈ Region.ready md ops ls → YieldsIf P ops S oi v a → S w → lateIn late ls = false → wpL P md ops Q S late n (ls.setIfInBounds i true) (a.put oi.dst v) w → wpL P md ops Q S late (n + 1) ls a w := by
  intro n
  induction n with
  | zero =>
    intro ls a w _ hr hy hS _ H
    refine ⟨fun h => (by rw [h] at hr; cases hr), fun j hj => ?_⟩
    by_cases e : j = i
    · subst e; exact hy.wpOp hi hS ⟨.inl hS, H⟩
    · have := ready_mono hj e
      rw [H.1] at this; cases this
  | succ n ih =>
    intro ls a w hfree hr hy hS hN H
    refine ⟨fun h => (by rw [h] at hr; cases hr), fun j hj => ?_⟩
    by_cases e : j = i
    · subst e; exact hy.wpOp hi hS ⟨.inl hS, H⟩
    · have hun := (mem_ready.1 hr).1
      have hunf := getD_both hun
      have hjl := waits_spec hl hj hunf
      obtain ⟨hju, oj, hoj, hall⟩ := mem_ready.1 hj
      have hno : ∀ x ∈ oj.after, Region.binds md x = true → x.on ≠ i := fun x hx hb y => by
        have := hall x hx hb
        rw [y, hunf] at this; cases this
      have step := wpOp_putIf hoj (hfree j oj hoj e hju hno) (fun cs b => Region.noSelect_spec hs i oi cs b hi) (fun cs b => Region.noSelect_spec hs j oj cs b hoj) hQ hy (H.2 j (ready_mono hj e))
      refine wpOp_mono (fun b u x => ?_) step
      obtain ⟨y1, y2, y3⟩ := x
      have hN2 : lateIn late (ls.setIfInBounds j true) = false := by
        cases hc : lateIn late (ls.setIfInBounds j true) with
        | false => rfl
        | true => rw [lateIn_not hjl hc] at hN; cases hN
      have hSu : S u := y2.resolve_right (fun z => by
        rw [Array.setIfInBounds_comm _ _ (Ne.symm e)] at z
        rw [lateIn_not hil z] at hN2; cases hN2)
      refine ⟨.inl hSu, ih (ls.setIfInBounds j true) b u (fun k ok hk hki hku hkn => hfree k ok hk hki ?_ hkn) (ready_mono hr (Ne.symm e)) y1 hSu hN2 ?_⟩
      · by_cases z : j = k
        · subst z; exact hju
        · rwa [getD_set_ne true z] at hku
      · rwa [Array.setIfInBounds_comm _ _ e]

/-- What yields its value in whatever world is taken first. -/
theorem wpL_first0 {i : Nat} {oi : Oper} {v : Value} (hi : ops[i]? = some oi) (hs : Region.noSelect ops = true) (hil : late.contains i = false)
    (hQ : ∀ c a w, Q (.panic c) (a.put oi.dst v) w → Q (.panic c) a w) : ∀ (n : Nat) (ls : Array Bool) (a : Act) (w : World),
    (∀ j oj, ops[j]? = some oj → j ≠ i → ls.getD j true = false → (∀ e ∈ oj.after, Region.binds md e = true → e.on ≠ i) → oi.apart ops oj = true) →
    i ∈ Region.ready md ops ls → Yields P ops oi v a → (S w ∨ lateIn late ls = true) → wpL P md ops Q S late n (ls.setIfInBounds i true) (a.put oi.dst v) w → wpL P md ops Q S late (n + 1) ls a w := by
  intro n
  induction n with
  | zero =>
    intro ls a w _ hr hy hS H
    refine ⟨fun h => (by rw [h] at hr; cases hr), fun j hj => ?_⟩
    by_cases e : j = i
    · subst e; exact hy.wpOp hi ⟨hS.imp id lateIn_set, H⟩
    · have := ready_mono hj e
      rw [H.1] at this; cases this
  | succ n ih =>
    intro ls a w hfree hr hy hS H
    refine ⟨fun h => (by rw [h] at hr; cases hr), fun j hj => ?_⟩
    by_cases e : j = i
    · subst e; exact hy.wpOp hi ⟨hS.imp id lateIn_set, H⟩
    · have hunf := getD_both (mem_ready.1 hr).1
      obtain ⟨hju, oj, hoj, hall⟩ := mem_ready.1 hj
      have hno : ∀ x ∈ oj.after, Region.binds md x = true → x.on ≠ i := fun x hx hb y => by
        have := hall x hx hb
        rw [y, hunf] at this; cases this
      have step := wpOp_put hoj (hfree j oj hoj e hju hno) (fun cs b => Region.noSelect_spec hs i oi cs b hi) (fun cs b => Region.noSelect_spec hs j oj cs b hoj) hQ hy (H.2 j (ready_mono hj e))
      refine wpOp_mono (fun b u x => ?_) step
      obtain ⟨y1, y2, y3⟩ := x
      have hSu : S u ∨ lateIn late (ls.setIfInBounds j true) = true := y2.imp id (fun z => by
        rw [Array.setIfInBounds_comm _ _ (Ne.symm e)] at z
        exact lateIn_not hil z)
      refine ⟨hSu, ih (ls.setIfInBounds j true) b u (fun k ok hk hki hku hkn => hfree k ok hk hki ?_ hkn) (ready_mono hr (Ne.symm e)) y1 hSu ?_⟩
      · by_cases z : j = k
        · subst z; exact hju
        · rwa [getD_set_ne true z] at hku
      · rwa [Array.setIfInBounds_comm _ _ e]

theorem wpL_load {i : Nat} {oi : Oper} {v : Value} {n : Nat} {ls : Array Bool} {a : Act} {w : World} (hi : ops[i]? = some oi) (hs : Region.noSelect ops = true) (hl : waits md ops late i = true)
    (hil : late.contains i = false) (hf : Region.free md ops ls i = true) (hr : (Region.ready md ops ls).contains i = true) (hQ : ∀ c a w, Q (.panic c) (a.put oi.dst v) w → Q (.panic c) a w)
    (hy : YieldsIf P ops S oi v a) (hS : S w) (hN : lateIn late ls = false) (h : wpL P md ops Q S late n (ls.setIfInBounds i true) (a.put oi.dst v) w) : wpL P md ops Q S late (n + 1) ls a w :=
  wpL_first hi hs hl hil hQ n ls a w (Region.free_spec hi hf) (by simpa using hr) hy hS hN h
theorem wpL_take {i : Nat} {oi : Oper} {v : Value} {n : Nat} {ls : Array Bool} {a : Act} {w : World} (hi : ops[i]? = some oi) (hs : Region.noSelect ops = true)
    (hil : late.contains i = false) (hf : Region.free md ops ls i = true) (hr : (Region.ready md ops ls).contains i = true) (hQ : ∀ c a w, Q (.panic c) (a.put oi.dst v) w → Q (.panic c) a w)
    (hy : Yields P ops oi v a) (hS : S w ∨ lateIn late ls = true) (h : wpL P md ops Q S late n (ls.setIfInBounds i true) (a.put oi.dst v) w) : wpL P md ops Q S late (n + 1) ls a w :=
  wpL_first0 hi hs hil hQ n ls a w (Region.free_spec hi hf) (by simpa using hr) hy hS h

/-- Each of the operations 'rs' comes up next. -/
def AllL (P : Program) (md : Region.Mode) (ops : Array Oper) (Q : Exit → Act → World → Prop) (S : World → Prop) (late : List Nat) (n : Nat) (ls : Array Bool) (a : Act) (w : World) (rs : List Nat) : Prop :=
  ∀ j ∈ rs, wpOp P ops Q j (fun b u => (S u ∨ lateIn late (ls.setIfInBounds j true) = true) ∧ wpL P md ops Q S late n (ls.setIfInBounds j true) b u) a w
theorem AllL.nil {n : Nat} {ls : Array Bool} {a : Act} {w : World} : AllL P md ops Q S late n ls a w [] := fun _ h => by cases h
theorem AllL.cons {n : Nat} {ls : Array Bool} {a : Act} {w : World} {j : Nat} {o : Oper} {rs : List Nat} (ho : ops[j]? = some o)
    (h : ∀ K : Act → World → Prop, Shut (∀ b u, (S u ∨ lateIn late (ls.setIfInBounds j true) = true) → wpL P md ops Q S late n (ls.setIfInBounds j true) b u → K b u) → if Region.wanted o (yielded ops a.tmps) = true then Oper.wp P o a w K Q else K (a.put o.dst undef) w)
    (hs : AllL P md ops Q S late n ls a w rs) : AllL P md ops Q S late n ls a w (j :: rs) := fun k hk => by
  rcases List.mem_cons.1 hk with rfl | hk
  · exact wpOp_step ho (fun K hK => h K (fun b u x y => hK b u ⟨x, y⟩))
  · exact hs k hk
theorem wpL_ready {rs : List Nat} {n : Nat} {ls : Array Bool} {a : Act} {w : World} (hr : Region.ready md ops ls = rs) (hne : rs ≠ []) (h : AllL P md ops Q S late n ls a w rs) : wpL P md ops Q S late (n + 1) ls a w :=
  ⟨fun x => absurd (hr ▸ x) hne, hr ▸ h⟩
theorem wpL_done {ls : Array Bool} {a : Act} {w : World} (hr : Region.ready md ops ls = []) (h : Q .normal a w) : ∀ n, wpL P md ops Q S late n ls a w
  | 0 => ⟨hr, h⟩
  | _ + 1 => ⟨fun _ => h, by rw [hr]; simp⟩
theorem wp_region_late {id : Nat} {a : Act} {w : World} (late : List Nat) (hm : P.follows .mixedOrders = true)
    (h : wpL P .any ops Q S late ops.size (Array.replicate ops.size false) a w.drew) : (Code.region id ops true).wp P Q a w :=
  wp_region_any hm (wpL_any _ _ _ _ h)
end

end Go.Proofs.Ythokapebcplmkaa
