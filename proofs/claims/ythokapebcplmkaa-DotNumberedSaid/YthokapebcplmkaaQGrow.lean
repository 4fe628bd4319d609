/- A region that draws its order, whose operations read and whose callees only make memory: one walk, in the order of the text; then perhaps one last operation that waits for all others. -/
import Derived.Test.YthokapebcplmkaaLgLate
import Derived.Test.YthokapebcplmkaaKMem
import Derived.BigQuiet
namespace Go.Proofs.Ythokapebcplmkaa
open Go.RowKit

/-- What has grown out of a world: nothing that stood in it is changed. -/
structure Grown (w : World) where
  W : World
  b : Below w.heap.size w W
instance (w : World) : Nonempty (Grown w) := ⟨⟨w, w_refl w⟩⟩
def Grown.on {w : World} (n : Grown w) {V : World} (h : Below n.W.heap.size n.W V) : Grown w := ⟨V, w_below n.b h⟩
/-- The class of the worlds that have grown out of one. -/
abbrev Grew (w : World) : World → Prop := fun w' => ∃ n : Grown w, w' = n.W

section
variable {P : Program} {ops : Array Oper} {Q : Exit → Act → World → Prop}
theorem wp_region_grown {id : Nat} {a : Act} {w : World} {l : List Oper} (hm : P.follows .mixedOrders = true) (hB : Region.lexB .any l.toArray = true)
    (h : wpQuiet P l.toArray (Grew w) (fun a' => ∀ n : Grown w, Q .normal a' n.W) l a) : (Code.region id l.toArray true).wp P Q a w := by
  refine wp_region_quiet (C := Grew w) (Q := Q) hm hB ⟨⟨w.drew, (w_refl w).drew⟩, rfl⟩ ?_
  have e : (fun a' => ∀ n : Grown w, Q .normal a' n.W) = (fun a' => ∀ w', Grew w w' → Q .normal a' w') := by
    funext a'
    apply propext
    constructor
    · rintro h w' ⟨n, rfl⟩; exact h n
    · intro h n; exact h n.W ⟨n, rfl⟩
  rw [← e]
  simpa using h
theorem quiet_load {C : World → Prop} {o : Oper} {rest : List Oper} {Q' : Act → Prop} {v : Value} {a a2 : Act} (hy : YieldsIf P ops C o v a) (e : a.put o.dst v = a2) (h : wpQuiet P ops C Q' rest a2) : wpQuiet P ops C Q' (o :: rest) a := by
  refine wpQuiet_step fun K hK => ?_
  rcases hy with ⟨hw, hv⟩ | ⟨hw, rfl⟩
  · rw [if_pos hw]
    refine ⟨v, fun W hW => ?_, hK _ (e ▸ h)⟩
    unfold Oper.quietAt
    rw [hv W hW]
    exact ⟨rfl, rfl⟩
  · rw [if_neg (by rw [hw]; exact Bool.false_ne_true)]
    exact hK _ (e ▸ h)

/-! ### One last operation that waits for all others -/
/-- It does nothing. -/
def nopOf (o : Oper) : Oper := { o with op := .assign (.const undef), dst := none }
variable {l : List Oper} {o : Oper} {md : Region.Mode}
theorem nop_at {j : Nat} (h : j ≠ l.length) : (l ++ [nopOf o]).toArray[j]? = (l ++ [o]).toArray[j]? := by
  simp only [List.getElem?_toArray]
  by_cases c : j < l.length
  · rw [List.getElem?_append_left c, List.getElem?_append_left c]
  · rw [List.getElem?_eq_none (by simp; omega), List.getElem?_eq_none (by simp; omega)]
theorem nop_last (x : Oper) : (l ++ [x]).toArray[l.length]? = some x := by simp
theorem nop_after (j : Nat) : ((l ++ [nopOf o]).toArray[j]?).map (·.after) = ((l ++ [o]).toArray[j]?).map (·.after) := by
  by_cases h : j = l.length
  · subst h; rw [nop_last, nop_last]; rfl
  · rw [nop_at h]
theorem nop_dst (hd : o.dst = none) (j : Nat) : ((l ++ [nopOf o]).toArray[j]?).bind (·.dst) = ((l ++ [o]).toArray[j]?).bind (·.dst) := by
  by_cases h : j = l.length
  · subst h; rw [nop_last, nop_last]; show none = o.dst; exact hd.symm
  · rw [nop_at h]
theorem nop_yielded (hd : o.dst = none) (t : Array Value) : yielded (l ++ [nopOf o]).toArray t = yielded (l ++ [o]).toArray t := by
  funext j
  unfold yielded
  rw [nop_dst hd]
theorem nop_ready (ls : Array Bool) : Region.ready md (l ++ [nopOf o]).toArray ls = Region.ready md (l ++ [o]).toArray ls := by
  have hm : ∀ (ops : Array Oper) (i : Nat), ((ops[i]?).map fun x => x.after.all fun e => !Region.binds md e || ls.getD e.on false) = ((ops[i]?).map (·.after)).map fun x => x.all fun e => !Region.binds md e || ls.getD e.on false := by
    intro ops i; cases ops[i]? <;> rfl
  unfold Region.ready
  have hs : (l ++ [nopOf o]).toArray.size = (l ++ [o]).toArray.size := by simp
  rw [hs]
  congr 1
  funext i
  rw [hm, hm, nop_after]

/-- Whatever binds an operation stands before it. -/
def ordered (md : Region.Mode) (ops : Array Oper) : Bool := (List.range ops.size).all fun j => match ops[j]? with
  | some o => o.after.all fun e => !(Region.binds md e) || decide (e.on < j)
  | none => true
theorem ordered_at {ops : Array Oper} (h : ordered md ops = true) {j : Nat} {o : Oper} (ho : ops[j]? = some o) : ∀ e ∈ o.after, Region.binds md e = true → e.on < j := by
  intro e he hb
  have h1 := List.all_eq_true.1 h j (List.mem_range.2 (Array.getElem?_eq_some_iff.1 ho).1)
  rw [ho] at h1
  have h2 := Array.all_eq_true'.1 h1 e he
  rw [hb] at h2
  simpa using h2
theorem goes_on {ops : Array Oper} (h : ordered md ops = true) {ls : Array Bool} : ∀ (n j : Nat), j < n → j < ops.size → ls.getD j true = false → Region.ready md ops ls ≠ []
  | 0, _, hn, _, _ => by omega
  | n + 1, j, hn, hj, hl => by
    have ho : ops[j]? = some ops[j] := Array.getElem?_eq_getElem hj
    by_cases c : ∀ e ∈ (ops[j]).after, Region.binds md e = true → ls.getD e.on false = true
    · intro e
      have : j ∈ Region.ready md ops ls := mem_ready.2 ⟨hl, _, ho, c⟩
      rw [e] at this
      cases this
    · have ⟨e, hc⟩ := Classical.not_forall.1 c
      have ⟨he, hc2⟩ := Classical.not_imp.1 hc
      have ⟨hb, hc3⟩ := Classical.not_imp.1 hc2
      have hlt := ordered_at h ho e he hb
      have hjl : j < ls.size := by
        rcases Nat.lt_or_ge j ls.size with g | g
        · exact g
        · simp [Array.getElem?_eq_none g] at hl
      refine goes_on h n e.on (by omega) (by omega) ?_
      have hel : e.on < ls.size := by omega
      simp [hel] at hc3 ⊢
      exact hc3

theorem any_of_last {C : World → Prop} (hd : o.dst = none) (hord : ordered md (l ++ [o]).toArray = true) (hall : ∀ i, i < l.length → needs md (l ++ [o]).toArray i (l ++ [o]).toArray.size l.length = true) :
    ∀ (n : Nat) (ls : Array Bool) (a : Act) (w : World), Closed md (l ++ [o]).toArray ls → ls.size = l.length + 1 → ls.getD l.length true = false → C w →
      wpAnyQ P md (l ++ [nopOf o]).toArray C (fun a' => ∀ W, C W → wpList P (l ++ [o]).toArray Q [o] a' W) n ls a → wpAny P md (l ++ [o]).toArray Q n ls a w := by
  have hsz : (l ++ [o]).toArray.size = l.length + 1 := by simp
  intro n
  induction n with
  | zero =>
    intro ls a w _ _ hl _ h
    have := goes_on hord (ls := ls) (l.length + 1) l.length (by omega) (by omega) hl
    exact absurd ((nop_ready (l := l) (o := o) ls) ▸ h.1) this
  | succ n ih =>
    intro ls a w hcl hls hl hC h
    refine ⟨fun e => absurd e (goes_on hord (ls := ls) (l.length + 1) l.length (by omega) (by omega) hl), fun j hj => ?_⟩
    have hq := h.2 j ((nop_ready (l := l) (o := o) ls).symm ▸ hj)
    by_cases e : j = l.length
    · subst e
      obtain ⟨_, o2, ho2, hdone⟩ := mem_ready.1 hj
      rw [nop_last] at ho2
      cases ho2
      have hnone : Region.ready md (l ++ [o]).toArray (ls.setIfInBounds l.length true) = [] := by
        apply List.eq_nil_iff_forall_not_mem.2
        intro k hk
        obtain ⟨hk0, ok, hok, _⟩ := mem_ready.1 hk
        have hkn : k ≠ l.length := fun e => by
          subst e
          simp [hls] at hk0
        have hkl : k < l.length := by
          have := (Array.getElem?_eq_some_iff.1 hok).1
          omega
        have hd2 := needs_done hcl (l ++ [o]).toArray.size l.length o (nop_last o) hdone (hall k hkl)
        rw [getD_set_ne true (Ne.symm hkn)] at hk0
        have hks : k < ls.size := by omega
        simp [hks] at hk0 hd2
        rw [hk0] at hd2; cases hd2
      have hfin : ∀ W, C W → wpList P (l ++ [o]).toArray Q [o] a W := by
        have hK : ∀ v, wpAnyQ P md (l ++ [nopOf o]).toArray C (fun a' => ∀ W, C W → wpList P (l ++ [o]).toArray Q [o] a' W) n (ls.setIfInBounds l.length true) (a.put (nopOf o).dst v) → ∀ W, C W → wpList P (l ++ [o]).toArray Q [o] a W := by
          intro v hv
          have hr2 : Region.ready md (l ++ [nopOf o]).toArray (ls.setIfInBounds l.length true) = [] := by rw [nop_ready]; exact hnone
          cases n with
          | zero => exact hv.2
          | succ n => exact hv.1 hr2
        obtain ⟨v, _, hv⟩ := yieldsIn_of_qOp (nop_last (l := l) (nopOf o)) hq
        exact hK v hv
      have hw := hfin w hC
      unfold wpList at hw
      unfold wpOp
      rw [nop_last]
      simp only
      have hdone2 : ∀ a' W, wpList P (l ++ [o]).toArray Q [] a' W → wpAny P md (l ++ [o]).toArray Q n (ls.setIfInBounds l.length true) a' W := fun a' W hq2 => wpAny_done hnone hq2 n
      split
      · rename_i hwant
        rw [if_pos hwant] at hw
        rcases hw with hw | hw
        · exact .inl (Oper.wp_mono hdone2 hw)
        · exact .inr hw
      · rename_i hwant
        rw [if_neg hwant] at hw
        exact hdone2 _ _ hw
    · refine wpOp_of_qOp (C := C) (K := wpAnyQ P md (l ++ [nopOf o]).toArray C (fun a' => ∀ W, C W → wpList P (l ++ [o]).toArray Q [o] a' W) n (ls.setIfInBounds j true)) hC (fun a' W hW hk => ih _ a' W (hcl.set hj) (by simpa using hls) (by rw [getD_set_ne true e]; exact hl) hW hk) ?_
      unfold qOp at hq ⊢
      rw [nop_at e, nop_yielded hd] at hq
      exact hq

theorem wpQuiet_app {C : World → Prop} {ops : Array Oper} {Q' : Act → Prop} (m : List Oper) : ∀ (l : List Oper) (a : Act), wpQuiet P ops C (wpQuiet P ops C Q' m) l a → wpQuiet P ops C Q' (l ++ m) a
  | [], _, h => h
  | o :: l, a, h => by
    refine wpQuiet_step fun K hK => ?_
    have h2 : if Region.wanted o (yielded ops a.tmps) then o.quiet P a C (wpQuiet P ops C (wpQuiet P ops C Q' m) l) else wpQuiet P ops C (wpQuiet P ops C Q' m) l (a.put o.dst undef) := h
    split
    · rename_i hw
      rw [if_pos hw] at h2
      exact Oper.quiet_mono (fun a' x => hK a' (wpQuiet_app m l a' x)) h2
    · rename_i hw
      rw [if_neg hw] at h2
      exact hK _ (wpQuiet_app m l _ h2)
theorem closed_none (ops : Array Oper) (n : Nat) : Closed md ops (Array.replicate n false) := by
  intro j o _ h
  simp [Array.getD_eq_getD_getElem?, Array.getElem?_replicate] at h
  split at h <;> simp at h

/-- The region with its last operation behind all others. -/
theorem wp_region_last {id : Nat} {a : Act} {w : World} (l : List Oper) (o : Oper) (hm : P.follows .mixedOrders = true) (hB : Region.lexB .any (l ++ [nopOf o]).toArray = true) (hord : ordered .any (l ++ [o]).toArray = true)
    (hall : ((List.range l.length).all fun i => needs .any (l ++ [o]).toArray i (l ++ [o]).toArray.size l.length) = true) (hd : o.dst = none) (hg : o.guard = none)
    (h : wpQuiet P (l ++ [nopOf o]).toArray (Grew w) (fun a' => ∀ n : Grown w, wpList P (l ++ [o]).toArray Q [o] a' n.W) l a) : (Code.region id (l ++ [o]).toArray true).wp P Q a w := by
  refine wp_region_any hm ?_
  have hs : (l ++ [o]).toArray.size = (l ++ [nopOf o]).toArray.size := by simp
  refine any_of_last (C := Grew w) hd hord (fun i hi => List.all_eq_true.1 hall i (List.mem_range.2 hi)) _ _ _ _ (closed_none _ _) (by simp) (by simp) ⟨⟨w.drew, (w_refl w).drew⟩, rfl⟩ ?_
  simp only [Region.lexB, Bool.and_eq_true] at hB
  rw [hs]
  have hl : (l ++ [nopOf o]).toArray.size = (l ++ [nopOf o]).length := by simp
  rw [hl]
  refine wpAnyQ_lex hB.1 (l ++ [nopOf o]) 0 _ a (by simp) (by simpa using hB.2) ?_
  refine wpQuiet_app _ _ _ ?_
  have e : (fun a' => ∀ n : Grown w, wpList P (l ++ [o]).toArray Q [o] a' n.W) = (fun a' => ∀ W, Grew w W → wpList P (l ++ [o]).toArray Q [o] a' W) := by
    funext a'
    apply propext
    constructor
    · rintro h w' ⟨n, rfl⟩; exact h n
    · intro h n; exact h n.W ⟨n, rfl⟩
  rw [e] at h
  have hm2 : ∀ (l2 : List Oper) (a : Act), wpQuiet P (l ++ [nopOf o]).toArray (Grew w) (fun a' => ∀ W, Grew w W → wpList P (l ++ [o]).toArray Q [o] a' W) l2 a → wpQuiet P (l ++ [nopOf o]).toArray (Grew w) (wpQuiet P (l ++ [nopOf o]).toArray (Grew w) (fun a' => ∀ W, Grew w W → wpList P (l ++ [o]).toArray Q [o] a' W) [nopOf o]) l2 a := by
    intro l2
    induction l2 with
    | nil =>
      intro a h
      show wpQuiet P _ _ _ [nopOf o] a
      refine wpQuiet_step fun K hK => ?_
      rw [if_pos (by unfold Region.wanted; rw [show (nopOf o).guard = none from hg])]
      exact BigFrame.quiet_assign _ rfl (hK _ h)
    | cons x l2 ih =>
      intro a h
      refine wpQuiet_step fun K hK => ?_
      have h2 : if Region.wanted x (yielded (l ++ [nopOf o]).toArray a.tmps) then x.quiet P a (Grew w) (wpQuiet P (l ++ [nopOf o]).toArray (Grew w) (fun a' => ∀ W, Grew w W → wpList P (l ++ [o]).toArray Q [o] a' W) l2) else wpQuiet P (l ++ [nopOf o]).toArray (Grew w) (fun a' => ∀ W, Grew w W → wpList P (l ++ [o]).toArray Q [o] a' W) l2 (a.put x.dst undef) := h
      split
      · rename_i hw
        rw [if_pos hw] at h2
        exact Oper.quiet_mono (fun a' y => hK a' (ih a' y)) h2
      · rename_i hw
        rw [if_neg hw] at h2
        exact hK _ (ih _ h2)
  exact hm2 l a h
theorem quiet_same {C : World → Prop} {ops ops' : Array Oper} (hy : ∀ t, yielded ops' t = yielded ops t) {Q' : Act → Prop} : ∀ (l : List Oper) (a : Act), wpQuiet P ops C Q' l a → wpQuiet P ops' C Q' l a
  | [], _, h => h
  | x :: l, a, h => by
    refine wpQuiet_step fun K hK => ?_
    have h2 : if Region.wanted x (yielded ops a.tmps) then x.quiet P a C (wpQuiet P ops C Q' l) else wpQuiet P ops C Q' l (a.put x.dst undef) := h
    rw [hy]
    split
    · rename_i hw
      rw [if_pos hw] at h2
      exact Oper.quiet_mono (fun a' y => hK a' (quiet_same hy l a' y)) h2
    · rename_i hw
      rw [if_neg hw] at h2
      exact hK _ (quiet_same hy l _ h2)
/-- The same for a region whose operations are written out. -/
theorem wp_region_last_lit {id : Nat} {a : Act} {w : World} {L : List Oper} (hne : L ≠ []) (hm : P.follows .mixedOrders = true) (hB : Region.lexB .any (L.dropLast ++ [nopOf (L.getLast hne)]).toArray = true) (hord : ordered .any L.toArray = true)
    (hall : ((List.range L.dropLast.length).all fun i => needs .any L.toArray i L.toArray.size L.dropLast.length) = true) (hd : (L.getLast hne).dst = none) (hg : (L.getLast hne).guard = none)
    (h : wpQuiet P L.toArray (Grew w) (fun a' => ∀ n : Grown w, wpList P L.toArray Q [L.getLast hne] a' n.W) L.dropLast a) : (Code.region id L.toArray true).wp P Q a w := by
  have e : L.dropLast ++ [L.getLast hne] = L := List.dropLast_concat_getLast hne
  have := wp_region_last (P := P) (Q := Q) (id := id) (a := a) (w := w) L.dropLast (L.getLast hne) hm hB (by rw [e]; exact hord) (by rw [e]; exact hall) hd hg (quiet_same (ops := L.toArray) (fun t => by rw [nop_yielded hd, e]) _ _ (by rw [e]; exact h))
  rwa [e] at this
end

end Go.Proofs.Ythokapebcplmkaa
