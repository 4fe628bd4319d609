/- A load may be taken first in a region that draws its order where whatever writes waits for it, by itself or through others. -/
import Derived.Test.YthokapebcplmkaaLate
namespace Go.Proofs.Ythokapebcplmkaa

section
variable {P : Program} {md : Region.Mode} {ops : Array Oper} {Q : Exit → Act → World → Prop} {S : World → Prop} {late : List Nat}

/-- Operation j waits for i, by itself or through others. -/
def needs (md : Region.Mode) (ops : Array Oper) (i : Nat) : Nat → Nat → Bool
  | 0, _ => false
  | n + 1, j => match ops[j]? with
    | some o => o.after.any (fun e => Region.binds md e && (e.on == i || needs md ops i n e.on))
    | none => false
/-- What has come up has come up behind all that it waits for. -/
def Closed (md : Region.Mode) (ops : Array Oper) (ls : Array Bool) : Prop := ∀ (j : Nat) (o : Oper), ops[j]? = some o → ls.getD j false = true → ∀ e ∈ o.after, Region.binds md e = true → ls.getD e.on false = true
def closedB (md : Region.Mode) (ops : Array Oper) (ls : Array Bool) : Bool := (List.range ops.size).all fun j => match ops[j]? with
  | some o => !(ls.getD j false) || o.after.all (fun e => !(Region.binds md e) || ls.getD e.on false)
  | none => true
theorem closed_of {ls : Array Bool} (h : closedB md ops ls = true) : Closed md ops ls := by
  intro j o ho hj e he hb
  have h1 := List.all_eq_true.1 h j (List.mem_range.2 (Array.getElem?_eq_some_iff.1 ho).1)
  rw [ho] at h1
  simp only [hj, Bool.not_true, Bool.false_or] at h1
  have h2 := Array.all_eq_true'.1 h1 e he
  rw [hb] at h2
  simpa using h2
theorem Closed.set {ls : Array Bool} (h : Closed md ops ls) {i : Nat} (hi : i ∈ Region.ready md ops ls) : Closed md ops (ls.setIfInBounds i true) := by
  obtain ⟨_, oi, hoi, hall⟩ := mem_ready.1 hi
  intro j o ho hj e he hb
  by_cases c : i = j
  · subst c
    rw [hoi] at ho
    cases ho
    exact getD_set_true (hall e he hb)
  · rw [getD_set_ne false c] at hj
    exact getD_set_true (h j o ho hj e he hb)
theorem needs_done {ls : Array Bool} (hc : Closed md ops ls) {i : Nat} : ∀ (n j : Nat) (o : Oper), ops[j]? = some o → (∀ e ∈ o.after, Region.binds md e = true → ls.getD e.on false = true) → needs md ops i n j = true → ls.getD i false = true
  | 0, _, _, _, _, h => by cases h
  | n + 1, j, o, ho, hall, h => by
    unfold needs at h
    rw [ho] at h
    obtain ⟨e, he, hb⟩ := Array.any_eq_true'.1 h
    simp only [Bool.and_eq_true, Bool.or_eq_true, beq_iff_eq] at hb
    have hd := hall e he hb.1
    rcases hb.2 with h1 | h1
    · rw [← h1]; exact hd
    · cases hoe : ops[e.on]? with
      | none =>
        exfalso
        cases n with
        | zero => cases h1
        | succ n => unfold needs at h1; rw [hoe] at h1; cases h1
      | some o2 => exact needs_done hc n e.on o2 hoe (fun e2 he2 hb2 => hc e.on o2 hoe hd e2 he2 hb2) h1
def waitsT (md : Region.Mode) (ops : Array Oper) (late : List Nat) (i : Nat) : Bool := late.all fun j => needs md ops i ops.size j
theorem waitsT_spec {i j : Nat} {ls : Array Bool} (hc : Closed md ops ls) (h : waitsT md ops late i = true) (hj : j ∈ Region.ready md ops ls) (hi : ls.getD i false = false) : late.contains j = false := by
  obtain ⟨_, o, ho, hall⟩ := mem_ready.1 hj
  cases hcon : late.contains j with
  | false => rfl
  | true =>
    have h1 := List.all_eq_true.1 h j (by simpa using hcon)
    have := needs_done hc ops.size j o ho hall h1
    rw [hi] at this; cases this

theorem wpL_firstT {i : Nat} {oi : Oper} {v : Value} (hi : ops[i]? = some oi) (hs : Region.noSelect ops = true) (hl : waitsT md ops late i = true) (hil : late.contains i = false)
    (hQ : ∀ c a w, Q (.panic c) (a.put oi.dst v) w → Q (.panic c) a w) : ∀ (n : Nat) (ls : Array Bool) (a : Act) (w : World), Closed md ops ls →
    (∀ j oj, ops[j]? = some oj → j ≠ i → ls.getD j true = false → (∀ e ∈ oj.after, Region.binds md e = true → e.on ≠ i) → oi.apart ops oj = true) →
    i ∈ Region.ready md ops ls → YieldsIf P ops S oi v a → S w → lateIn late ls = false → wpL P md ops Q S late n (ls.setIfInBounds i true) (a.put oi.dst v) w → wpL P md ops Q S late (n + 1) ls a w := by
  intro n
  induction n with
  | zero =>
    intro ls a w _ _ hr hy hS _ H
    refine ⟨fun h => (by rw [h] at hr; cases hr), fun j hj => ?_⟩
    by_cases e : j = i
    · subst e; exact hy.wpOp hi hS ⟨.inl hS, H⟩
    · have := ready_mono hj e
      rw [H.1] at this; cases this
  | succ n ih =>
    intro ls a w hcl hfree hr hy hS hN H
    refine ⟨fun h => (by rw [h] at hr; cases hr), fun j hj => ?_⟩
    by_cases e : j = i
    · subst e; exact hy.wpOp hi hS ⟨.inl hS, H⟩
    · have hun := (mem_ready.1 hr).1
      have hunf := getD_both hun
      have hjl := waitsT_spec hcl hl hj hunf
      obtain ⟨hju, oj, hoj, hall⟩ := mem_ready.1 hj
      have hno : ∀ x ∈ oj.after, Region.binds md x = true → x.on ≠ i := fun x hx hb y => by
        have := hall x hx hb
        rw [y, hunf] at this; cases this
      have step := wpOp_putIf hoj (hfree j oj hoj e hju hno) (fun cs b => Region.noSelect_spec hs i oi cs b hi) (fun cs b => Region.noSelect_spec hs j oj cs b hoj) hQ hy (H.2 j (ready_mono hj e))
      refine wpOp_mono (fun b u x => ?_) step
      obtain ⟨y1, y2, y3⟩ := x
      have hN2 : lateIn late (ls.setIfInBounds j true) = false := by
        cases hc : lateIn late (ls.setIfInBounds j true) with
        | false => rfl
        | true => rw [lateIn_not hjl hc] at hN; cases hN
      have hSu : S u := y2.resolve_right (fun z => by
        rw [Array.setIfInBounds_comm _ _ (Ne.symm e)] at z
        rw [lateIn_not hil z] at hN2; cases hN2)
      refine ⟨.inl hSu, ih (ls.setIfInBounds j true) b u (hcl.set hj) (fun k ok hk hki hku hkn => hfree k ok hk hki ?_ hkn) (ready_mono hr (Ne.symm e)) y1 hSu hN2 ?_⟩
      · by_cases z : j = k
        · subst z; exact hju
        · rwa [getD_set_ne true z] at hku
      · rwa [Array.setIfInBounds_comm _ _ e]
theorem wpL_loadT {i : Nat} {oi : Oper} {v : Value} {n : Nat} {ls : Array Bool} {a : Act} {w : World} (hi : ops[i]? = some oi) (hs : Region.noSelect ops = true) (hl : waitsT md ops late i = true)
    (hil : late.contains i = false) (hc : closedB md ops ls = true) (hf : Region.free md ops ls i = true) (hr : (Region.ready md ops ls).contains i = true) (hQ : ∀ c a w, Q (.panic c) (a.put oi.dst v) w → Q (.panic c) a w)
    (hy : YieldsIf P ops S oi v a) (hS : S w) (hN : lateIn late ls = false) (h : wpL P md ops Q S late n (ls.setIfInBounds i true) (a.put oi.dst v) w) : wpL P md ops Q S late (n + 1) ls a w :=
  wpL_firstT hi hs hl hil hQ n ls a w (closed_of hc) (Region.free_spec hi hf) (by simpa using hr) hy hS hN h
end

end Go.Proofs.Ythokapebcplmkaa
