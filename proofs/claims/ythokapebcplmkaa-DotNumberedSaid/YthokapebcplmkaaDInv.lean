/- A region that draws its order, by an invariant over the operations that are done: each operation is looked at once, whatever order is drawn. -/
import Derived.Test.YthokapebcplmkaaQGrow
import Derived.Test.YthokapebcplmkaaDMea
namespace Go.Proofs.Ythokapebcplmkaa
open Go.RowKit

section
variable {P : Program} {ops : Array Oper} {Q : Exit → Act → World → Prop} {F : Nat → Value → World → Prop} {a0 : Act} {w0 : World}

def dstOf (ops : Array Oper) (i : Nat) : Option Nat := (ops[i]?).bind (·.dst)
/-- What holds where these operations are done. -/
structure RInv (ops : Array Oper) (F : Nat → Value → World → Prop) (a0 : Act) (w0 : World) (ls : Array Bool) (a : Act) (w : World) : Prop where
  size : a.tmps.size = a0.tmps.size
  defs : a.defers = a0.defers
  lsz : ls.size = ops.size
  rest : ∀ d, (∀ i, ls.getD i false = true → dstOf ops i ≠ some d) → a.tmps[d]? = a0.tmps[d]?
  fact : ∀ i d, ls.getD i false = true → dstOf ops i = some d → F i (a.tmps.getD d undef) w
  grew : Below w0.heap.size w0 w
def StepAt (P : Program) (ops : Array Oper) (Q : Exit → Act → World → Prop) (F : Nat → Value → World → Prop) (a0 : Act) (w0 : World) (j : Nat) : Prop :=
  ∀ o, ops[j]? = some o → ∀ ls a w, RInv ops F a0 w0 ls a w → (∀ e ∈ o.after, Region.binds .any e = true → ls.getD e.on false = true) →
    Region.wanted o (yielded ops a.tmps) = true ∧ o.wp P a w (fun a' w' => ∃ v, a' = a.put o.dst v ∧ F j v w' ∧ Below w.heap.size w w') Q
theorem getD_set (ls : Array Bool) (i j : Nat) (hj : j < ls.size) : (ls.setIfInBounds j true).getD i false = if i = j then true else ls.getD i false := by
  by_cases e : i = j
  · subst e; simp [hj]
  · rw [if_neg e]; simp [Ne.symm e]
theorem RInv.put {ls : Array Bool} {a : Act} {w w' : World} {j d : Nat} {v : Value} (h : RInv ops F a0 w0 ls a w) (hmono : ∀ i v w w', F i v w → Below w.heap.size w w' → F i v w') (hdd : ∀ i k d, dstOf ops i = some d → dstOf ops k = some d → i = k)
    (hj : j < ops.size) (hd : dstOf ops j = some d) (hds : d < a0.tmps.size) (hl : ls.getD j false = false) (hF : F j v w') (hB : Below w.heap.size w w') : RInv ops F a0 w0 (ls.setIfInBounds j true) (a.put (some d) v) w' := by
  have hjl : j < ls.size := by rw [h.lsz]; exact hj
  have hda : d < a.tmps.size := by rw [h.size]; exact hds
  refine ⟨by simp [Act.put, h.size], by simp [Act.put, h.defs], by simp [h.lsz], fun x hx => ?_, fun i x hi hx => ?_, w_below h.grew hB⟩
  · have hne : d ≠ x := fun e => hx j (by rw [getD_set _ _ _ hjl, if_pos rfl]) (e ▸ hd)
    have := h.rest x (fun i hi => hx i (by
      rw [getD_set _ _ _ hjl]
      split
      · rfl
      · exact hi))
    simp only [Act.put, Array.getElem?_setIfInBounds, if_neg hne]
    exact this
  · by_cases e : i = j
    · subst e
      obtain rfl : d = x := by rw [hd] at hx; exact Option.some.inj hx
      have : (a.put (some d) v).tmps.getD d undef = v := by simp [Act.put, hda]
      rw [this]; exact hF
    · rw [getD_set _ _ _ hjl, if_neg e] at hi
      have hne : d ≠ x := fun e2 => e (hdd i j x hx (e2 ▸ hd))
      have : (a.put (some d) v).tmps.getD x undef = a.tmps.getD x undef := by simp [Act.put, Array.getD_eq_getD_getElem?, hne]
      rw [this]
      exact hmono _ _ _ _ (h.fact i x hi hx) hB
theorem any_inv (hord : ordered .any ops = true) (hmono : ∀ i v w w', F i v w → Below w.heap.size w w' → F i v w') (hdd : ∀ i k d, dstOf ops i = some d → dstOf ops k = some d → i = k)
    (hall : ∀ i, i < ops.size → ∃ d, dstOf ops i = some d ∧ d < a0.tmps.size) (steps : ∀ j, j < ops.size → StepAt P ops Q F a0 w0 j)
    (fin : ∀ ls a w, RInv ops F a0 w0 ls a w → (∀ i, i < ops.size → ls.getD i false = true) → Q .normal a w) :
    ∀ (n : Nat) (ls : Array Bool) (a : Act) (w : World) (l : List Nat), l.length ≤ n → (∀ j, j < ops.size → ls.getD j false = false → j ∈ l) → RInv ops F a0 w0 ls a w → wpAny P .any ops Q n ls a w := by
  have key : ∀ (ls : Array Bool) (j : Nat), ls.size = ops.size → ls.getD j true = false → j < ops.size ∧ ls.getD j false = false := by
    intro ls j hs hj
    have hlt : j < ls.size := by
      rcases Nat.lt_or_ge j ls.size with g | g
      · exact g
      · simp [Array.getElem?_eq_none g] at hj
    refine ⟨by omega, ?_⟩
    simp [hlt] at hj ⊢
    exact hj
  have key2 : ∀ (ls : Array Bool) (j : Nat), ls.size = ops.size → j < ops.size → ¬ ls.getD j false = true → ls.getD j true = false := by
    intro ls j hs hj h
    have hlt : j < ls.size := by omega
    simp [hlt] at h ⊢
    exact h
  have done : ∀ ls a w, RInv ops F a0 w0 ls a w → Region.ready .any ops ls = [] → Q .normal a w := by
    intro ls a w h hr
    refine fin ls a w h fun i hi => Classical.byContradiction fun hn => ?_
    exact goes_on hord (i + 1) i (by omega) hi (key2 ls i h.lsz hi hn) hr
  intro n
  induction n with
  | zero =>
    intro ls a w l hl hc h
    have hl0 : l = [] := List.eq_nil_of_length_eq_zero (by omega)
    have hr : Region.ready .any ops ls = [] := by
      apply List.eq_nil_iff_forall_not_mem.2
      intro j hj
      obtain ⟨h1, _⟩ := mem_ready.1 hj
      obtain ⟨k1, k2⟩ := key ls j h.lsz h1
      have := hc j k1 k2
      rw [hl0] at this
      cases this
    exact ⟨hr, done ls a w h hr⟩
  | succ n ih =>
    intro ls a w l hl hc h
    refine ⟨done ls a w h, fun j hj => ?_⟩
    obtain ⟨h1, o, ho, hdeps⟩ := mem_ready.1 hj
    obtain ⟨k1, k2⟩ := key ls j h.lsz h1
    obtain ⟨hw, hwp⟩ := steps j k1 o ho ls a w h hdeps
    obtain ⟨d, hd, hds⟩ := hall j k1
    unfold wpOp
    rw [ho]
    simp only
    rw [if_pos hw]
    refine .inl (Oper.wp_mono ?_ hwp)
    rintro a' w' ⟨v, rfl, hF, hB⟩
    have hod : o.dst = some d := by
      unfold dstOf at hd; rw [ho] at hd; exact hd
    rw [hod]
    refine ih _ _ _ (l.filter (· ≠ j)) ?_ (fun i hi hn => ?_) (h.put hmono hdd k1 hd hds k2 hF hB)
    · have hlt := List.length_filter_lt_length_iff_exists (p := fun x => decide (x ≠ j)) (l := l) |>.2 ⟨j, hc j k1 k2, by simp⟩
      omega
    · rw [getD_set _ _ _ (by rw [h.lsz]; exact k1)] at hn
      by_cases e : i = j
      · rw [if_pos e] at hn; cases hn
      · rw [if_neg e] at hn
        exact List.mem_filter.2 ⟨hc i hi hn, by simpa using e⟩

/-- The frame where all operations are done. -/
def putAll : List Oper → (Nat → Value) → Nat → Act → Act
  | [], _, _, a => a
  | o :: t, f, i, a => putAll t f (i + 1) (a.put o.dst (f i))
theorem putAll_size : ∀ (L : List Oper) (f : Nat → Value) (k : Nat) (a : Act), (putAll L f k a).tmps.size = a.tmps.size ∧ (putAll L f k a).defers = a.defers
  | [], _, _, _ => ⟨rfl, rfl⟩
  | o :: t, f, k, a => by
    have := putAll_size t f (k + 1) (a.put o.dst (f k))
    have h2 : (a.put o.dst (f k)).tmps.size = a.tmps.size ∧ (a.put o.dst (f k)).defers = a.defers := by
      cases o.dst with
      | none => exact ⟨rfl, rfl⟩
      | some d => exact ⟨by simp [Act.put], rfl⟩
    exact ⟨this.1.trans h2.1, this.2.trans h2.2⟩
theorem putAll_out : ∀ (L : List Oper) (f : Nat → Value) (k : Nat) (a : Act) (d : Nat), (∀ o ∈ L, o.dst ≠ some d) → (putAll L f k a).tmps[d]? = a.tmps[d]?
  | [], _, _, _, _, _ => rfl
  | o :: t, f, k, a, d, h => by
    rw [show putAll (o :: t) f k a = putAll t f (k + 1) (a.put o.dst (f k)) from rfl, putAll_out t f (k + 1) _ d (fun x hx => h x (List.mem_cons_of_mem _ hx))]
    have hne := h o (List.mem_cons_self ..)
    cases hd : o.dst with
    | none => rfl
    | some e =>
      have : e ≠ d := fun x => hne (by rw [hd, x])
      simp [Act.put, this]
theorem putAll_in : ∀ (L : List Oper) (f : Nat → Value) (k i : Nat) (a : Act) (o : Oper) (d : Nat), L[i]? = some o → o.dst = some d → d < a.tmps.size → (∀ (x y : Nat) (o1 o2 : Oper), L[x]? = some o1 → L[y]? = some o2 → o1.dst = some d → o2.dst = some d → x = y) → (putAll L f k a).tmps[d]? = some (f (k + i))
  | [], _, _, _, _, _, _, h, _, _, _ => by simp at h
  | o :: t, f, k, 0, a, o', d, h, hd, hs, hu => by
    simp at h; subst h
    rw [show putAll (o :: t) f k a = putAll t f (k + 1) (a.put o.dst (f k)) from rfl, putAll_out t f (k + 1) _ d (fun x hx hxd => ?_)]
    · rw [hd]; simp [Act.put, hs]
    · obtain ⟨m, hm, e⟩ := List.getElem_of_mem hx
      have := hu 0 (m + 1) o x rfl (by rw [List.getElem?_cons_succ, List.getElem?_eq_getElem hm, e]) hd hxd
      omega
  | o :: t, f, k, i + 1, a, o', d, h, hd, hs, hu => by
    have hsz : (a.put o.dst (f k)).tmps.size = a.tmps.size := by
      cases o.dst with
      | none => rfl
      | some d => simp [Act.put]
    have := putAll_in t f (k + 1) i (a.put o.dst (f k)) o' d (by simpa using h) hd (by rw [hsz]; exact hs) (fun x y o1 o2 h1 h2 k1 k2 => by have := hu (x + 1) (y + 1) o1 o2 (by simpa using h1) (by simpa using h2) k1 k2; omega)
    rw [show putAll (o :: t) f k a = putAll t f (k + 1) (a.put o.dst (f k)) from rfl, this]
    congr 2; omega
/-- The checks of the region's own text. -/
def invB (ops : Array Oper) (size : Nat) : Bool := ordered .any ops && ((List.range ops.size).all fun i => (dstOf ops i).elim false fun d => decide (d < size)) && ((List.range ops.size).all fun i => (List.range ops.size).all fun j => i == j || dstOf ops i != dstOf ops j)
theorem region_inv {id : Nat} (F : Nat → Value → World → Prop) (hm : P.follows .mixedOrders = true) (hB : invB ops a0.tmps.size = true) (hmono : ∀ i v w w', F i v w → Below w.heap.size w w' → F i v w')
    (steps : ∀ j, j < ops.size → StepAt P ops Q F a0 w0 j) (fin : ∀ (f : Nat → Value) (w : World), (∀ i, i < ops.size → F i (f i) w) → Below w0.heap.size w0 w → Q .normal (putAll ops.toList f 0 a0) w) :
    (Code.region id ops true).wp P Q a0 w0 := by
  simp only [invB, Bool.and_eq_true] at hB
  obtain ⟨⟨hord, hds⟩, hdd⟩ := hB
  have hall : ∀ i, i < ops.size → ∃ d, dstOf ops i = some d ∧ d < a0.tmps.size := by
    intro i hi
    have := List.all_eq_true.1 hds i (List.mem_range.2 hi)
    cases hd : dstOf ops i with
    | none => rw [hd] at this; cases this
    | some d => rw [hd] at this; exact ⟨d, rfl, by simpa using this⟩
  have hlt : ∀ i d, dstOf ops i = some d → i < ops.size := by
    intro i d h
    unfold dstOf at h
    cases ho : ops[i]? with
    | none => rw [ho] at h; cases h
    | some o => exact (Array.getElem?_eq_some_iff.1 ho).1
  have hdd2 : ∀ i k d, dstOf ops i = some d → dstOf ops k = some d → i = k := by
    intro i k d hi hk
    have h1 := List.all_eq_true.1 hdd i (List.mem_range.2 (hlt i d hi))
    have h2 := List.all_eq_true.1 h1 k (List.mem_range.2 (hlt k d hk))
    rw [hi, hk] at h2
    simpa using h2
  refine wp_region_any hm ?_
  refine any_inv (F := F) (a0 := a0) (w0 := w0) hord hmono hdd2 hall steps (fun ls a w h hl => ?_) ops.size _ _ _ (List.range ops.size) (by simp) (fun j hj _ => List.mem_range.2 hj) ⟨rfl, rfl, by simp, fun _ _ => rfl, fun i d hi _ => ?_, (w_refl w0).drew⟩
  · have e : a = putAll ops.toList (fun i => a.tmps.getD ((dstOf ops i).getD 0) undef) 0 a0 := by
      obtain ⟨tm, df⟩ := a
      have hs := putAll_size ops.toList (fun i => tm.getD ((dstOf ops i).getD 0) undef) 0 a0
      have h1 := h.size
      have h2 := h.defs
      simp only at h1 h2
      have ht : tm = (putAll ops.toList (fun i => tm.getD ((dstOf ops i).getD 0) undef) 0 a0).tmps := by
        apply Array.ext_getElem?
        intro d
        by_cases c : ∃ i, dstOf ops i = some d
        · obtain ⟨i, hi⟩ := c
          have hil := hlt i d hi
          obtain ⟨d', hd', hds'⟩ := hall i hil
          obtain rfl : d' = d := by rw [hi] at hd'; exact (Option.some.inj hd').symm
          have ho : ops.toList[i]? = some ops[i] := by rw [Array.getElem?_toList]; exact Array.getElem?_eq_getElem hil
          have hod : (ops[i]).dst = some d' := by
            unfold dstOf at hi; rw [Array.getElem?_eq_getElem hil] at hi; exact hi
          rw [putAll_in ops.toList _ 0 i a0 ops[i] d' ho hod hds' (fun x y o1 o2 e1 e2 k1 k2 => hdd2 x y d' (by unfold dstOf; rw [← Array.getElem?_toList, e1]; exact k1) (by unfold dstOf; rw [← Array.getElem?_toList, e2]; exact k2)), Nat.zero_add, hi]
          have : d' < tm.size := by rw [h1]; exact hds'
          simp [this]
        · rw [putAll_out ops.toList _ 0 a0 d (fun o ho hod => ?_)]
          · exact h.rest d (fun i _ hi => c ⟨i, hi⟩)
          · obtain ⟨m, hm, e⟩ := List.getElem_of_mem ho
            refine c ⟨m, ?_⟩
            unfold dstOf
            rw [← Array.getElem?_toList, List.getElem?_eq_getElem hm, e]
            exact hod
      have hdf : df = (putAll ops.toList (fun i => tm.getD ((dstOf ops i).getD 0) undef) 0 a0).defers := h2.trans hs.2.symm
      show Act.mk tm df = putAll ops.toList (fun i => tm.getD ((dstOf ops i).getD 0) undef) 0 a0
      generalize putAll ops.toList (fun i => tm.getD ((dstOf ops i).getD 0) undef) 0 a0 = b at *
      obtain ⟨bt, bd⟩ := b
      simp only at ht hdf
      rw [ht, hdf]
    rw [e]
    refine fin _ w (fun i hi => ?_) h.grew
    obtain ⟨d, hd, _⟩ := hall i hi
    have := h.fact i d (hl i hi) hd
    simpa [hd] using this
  · simp [Array.getD_eq_getD_getElem?, Array.getElem?_replicate] at hi
    split at hi <;> simp at hi
end


theorem RInv.old {ops : Array Oper} {F : Nat → Value → World → Prop} {a0 : Act} {w0 : World} {ls : Array Bool} {a : Act} {w : World} (h : RInv ops F a0 w0 ls a w) {d : Nat} {v : Value} (hn : ((List.range ops.size).all fun i => dstOf ops i != some d) = true) (hv : a0.tmps[d]? = some v) : a.eval (.tmp d) = v := by
  have := h.rest d (fun i _ hi => by
    have hlt : i < ops.size := by
      unfold dstOf at hi
      cases ho : ops[i]? with
      | none => rw [ho] at hi; cases hi
      | some o => exact (Array.getElem?_eq_some_iff.1 ho).1
    have := List.all_eq_true.1 hn i (List.mem_range.2 hlt)
    rw [hi] at this
    simp at this)
  show a.tmps.getD d undef = v
  rw [Array.getD_eq_getD_getElem?, this, hv]; rfl

/-! ### Facts about values, and steps -/
inductive Fk
  | val (u : Value)
  | sg (l : List Sg)
  | il (zs : List Int)
  | ll (L : List (List Int))
def Fk.holds : Fk → Value → World → Prop
  | .val u, v, _ => v = u
  | .sg l, v, w => ∃ p, v = .slice p l.length l.length ∧ SlP w 17 p l.length l.length (flatG l)
  | .il zs, v, w => IntV w v zs
  | .ll L, v, w => LstV w v L
theorem Fk.later (k : Fk) {v : Value} {w w' : World} (h : k.holds v w) (b : Below w.heap.size w w') : k.holds v w' := by
  cases k with
  | val u => exact h
  | sg l => obtain ⟨p, e, hs⟩ := h; exact ⟨p, e, hs.later b⟩
  | il zs => exact IntV.later h b
  | ll L => exact LstV.later h b
def tabF (T : List Fk) (i : Nat) : Value → World → Prop := (T.getD i (.val undef)).holds
section
variable {ops : Array Oper} {Q : Exit → Act → World → Prop} {a0 : Act} {w0 : World} {o : Oper} {a : Act} {w : World} {G : Value → World → Prop}
theorem wanted_g {g d : Nat} (hg : o.guard = some (g, true)) (hd : dstOf ops g = some d) (hv : a.tmps.getD d undef = .bool true) : Region.wanted o (yielded ops a.tmps) = true := by
  unfold Region.wanted
  rw [hg]
  show (yielded ops a.tmps g == some true) = true
  have hd2 : (ops[g]?).bind (·.dst) = some d := hd
  unfold yielded
  rw [hd2]
  have : a.tmps[d]? = some (.bool true) := by
    rw [Array.getD_eq_getD_getElem?] at hv
    cases h : a.tmps[d]? with
    | none => rw [h] at hv; cases hv
    | some x => rw [h] at hv; exact congrArg some hv
  simp [this]
theorem wanted_n (hg : o.guard = none) : Region.wanted o (yielded ops a.tmps) = true := by unfold Region.wanted; rw [hg]
theorem st_call (f : FuncId) (xs : Array Operand) (ats : Array TypeId) (ho : o.op = .call { callee := .value (.func f), args := xs, argTypes := ats }) (us : Array Value) (hx : xs.map a.eval = us) (hcf : ∀ us w, (callFunc f us).run Try.prog w = .ok (.enter f us) w)
    (h : Calls Try.prog f us w fun e w' => ∃ v, e = .returned v ∧ G v w' ∧ Below w.heap.size w w') : o.wp Try.prog a w (fun a' w' => ∃ v, a' = a.put o.dst v ∧ G v w' ∧ Below w.heap.size w w') Q := by
  have hrun : (execOp a.eval o).run Try.prog w = .ok (.enter f us) w := by
    subst hx
    unfold execOp
    simp [ho, go_sem, Act.eval, hcf]
  unfold Oper.wp
  rw [hrun, Oper.upon_enter]
  refine h.mono fun e w' hh => ?_
  obtain ⟨v, rfl, hG, hB⟩ := hh
  exact ⟨v, rfl, hG, hB⟩
theorem st_value (v : Value) (w' : World) (hrun : (execOp a.eval o).run Try.prog w = .ok (.value v) w') (hG : G v w') (hB : Below w.heap.size w w') : o.wp Try.prog a w (fun a' w' => ∃ v, a' = a.put o.dst v ∧ G v w' ∧ Below w.heap.size w w') Q := by
  unfold Oper.wp
  rw [hrun, Oper.upon_value]
  exact ⟨v, rfl, hG, hB⟩
theorem st_lit (t : TypeId) (n : Nat) (parts : Array (Nat × Operand)) (vs : Array (Nat × Value)) (v : Value) (w' : World) (ho : o.op = .buildSlice t n parts) (hv : (parts.map fun (i, x) => (i, a.eval x)) = vs) (hr : (Instr.buildSlice t n vs).run Try.prog w = .ok v w') (hG : G v w') (hB : Below w.heap.size w w') :
    o.wp Try.prog a w (fun a' w' => ∃ v, a' = a.put o.dst v ∧ G v w' ∧ Below w.heap.size w w') Q := by
  refine st_value v w' ?_ hG hB
  unfold execOp
  simp only [ho, Sem.run_bind, Sem.run_pure]
  rw [hv, hr]
  rfl
theorem run_int1 (x : Int) (w : World) : (Instr.buildSlice 32 1 #[(0, .int .i64 x)]).run Try.prog w = .ok (.slice (some ⟨w.heap.size, 0, none⟩) 1 1) (w.alloc (.cells (ints [x]).toArray 3)) := by
  simp [Instr.buildSlice, newRow, go_sem]
theorem run_int2 (x y : Int) (w : World) : (Instr.buildSlice 32 2 #[(0, .int .i64 x), (1, .int .i64 y)]).run Try.prog w = .ok (.slice (some ⟨w.heap.size, 0, none⟩) 2 2) (w.alloc (.cells (ints [x, y]).toArray 3)) := by
  simp [Instr.buildSlice, newRow, go_sem]
theorem run_lst1 (p : Option Addr) (n c : Nat) (w : World) : (Instr.buildSlice 27 1 #[(0, .slice p n c)]).run Try.prog w = .ok (.slice (some ⟨w.heap.size, 0, none⟩) 1 1) (w.alloc (.cells [.slice p n c].toArray 32)) := by
  simp [Instr.buildSlice, newRow, go_sem]
/-- A list of ints, as a literal. -/
theorem st_il1 (x : Int) (y : Operand) (hy : a.eval y = .int .i64 x) (ho : o.op = .buildSlice 32 1 #[(0, y)]) : o.wp Try.prog a w (fun a' w' => ∃ v, a' = a.put o.dst v ∧ (Fk.il [x]).holds v w' ∧ Below w.heap.size w w') Q :=
  st_lit _ 1 _ #[(0, .int .i64 x)] _ _ ho (by simp [hy]) (run_int1 x w) ⟨_, _, rfl, lit_in w [x] (by simp)⟩ (w_alloc (w_refl w) _)
theorem st_ll1 (zs : List Int) (y : Operand) (hy : IntV w (a.eval y) zs) (ho : o.op = .buildSlice 27 1 #[(0, y)]) : o.wp Try.prog a w (fun a' w' => ∃ v, a' = a.put o.dst v ∧ (Fk.ll [zs]).holds v w' ∧ Below w.heap.size w w') Q := by
  obtain ⟨p, c, e, hs⟩ := hy
  refine st_lit _ 1 _ #[(0, .slice p zs.length c)] _ _ ho (by simp [e]) (run_lst1 p zs.length c w) ⟨_, _, _, rfl, lit_ll w [.slice p zs.length c] [zs] (by simp) rfl (fun k z hz => ?_)⟩ (w_alloc (w_refl w) _)
  match k, hz with
  | 0, hz => simp at hz; subst hz; exact ⟨_, rfl, p, c, rfl, hs⟩
  | k + 1, hz => simp at hz
theorem st_sg2 (s t : Sg) (x y : Operand) (hx : a.eval x = sgv s) (hy : a.eval y = sgv t) (ho : o.op = .buildSlice 24 2 #[(0, x), (1, y)]) : o.wp Try.prog a w (fun a' w' => ∃ v, a' = a.put o.dst v ∧ (Fk.sg [s, t]).holds v w' ∧ Below w.heap.size w w') Q :=
  st_lit _ 2 _ #[(0, sgv s), (1, sgv t)] _ _ ho (by simp [hx, hy]) (run_lit2 s t w) ⟨_, rfl, lit_sl w [s, t] (by simp)⟩ (w_alloc (w_refl w) _)
theorem st_sg3 (s t u : Sg) (x y z : Operand) (hx : a.eval x = sgv s) (hy : a.eval y = sgv t) (hz : a.eval z = sgv u) (ho : o.op = .buildSlice 24 3 #[(0, x), (1, y), (2, z)]) : o.wp Try.prog a w (fun a' w' => ∃ v, a' = a.put o.dst v ∧ (Fk.sg [s, t, u]).holds v w' ∧ Below w.heap.size w w') Q :=
  st_lit _ 3 _ #[(0, sgv s), (1, sgv t), (2, sgv u)] _ _ ho (by simp [hx, hy, hz]) (run_lit3 s t u w) ⟨_, rfl, lit_sl w [s, t, u] (by simp)⟩ (w_alloc (w_refl w) _)
theorem st_run (l : List Sg) (x : Operand) (ats : Array TypeId) (hx : (Fk.sg l).holds (a.eval x) w) (ho : o.op = .call { callee := .value (.func 32), args := #[x], argTypes := ats }) : o.wp Try.prog a w (fun a' w' => ∃ v, a' = a.put o.dst v ∧ (Fk.sg l).holds v w' ∧ Below w.heap.size w w') Q :=
  st_call _ _ _ ho #[a.eval x] (by simp) (fun _ _ => by rfl) ((run_any (a.eval x) w).mono fun _ _ ⟨h1, h2⟩ => ⟨_, h1, h2 ▸ hx, h2 ▸ w_refl w⟩)
theorem st_means (q : Q4) (l : List Sg) (hl : l.length ≤ 1000) (L : List (List Int)) (R : List Int) (hc : chkD q l = 0) (hM : mnD q l = L) (hR : ruD q l = R) (x y z u : Operand) (ats : Array TypeId) (hx : a.eval x = mv q) (hy : (Fk.sg l).holds (a.eval y) w) (hz : LstV w (a.eval z) L) (hu : IntV w (a.eval u) R)
    (ho : o.op = .call { callee := .value (.func 30), args := #[x, y, z, u], argTypes := ats }) : o.wp Try.prog a w (fun a' w' => ∃ v, a' = a.put o.dst v ∧ (Fk.val (.bool true)).holds v w' ∧ Below w.heap.size w w') Q := by
  obtain ⟨p, e1, hs⟩ := hy
  obtain ⟨pl, cl, us, e2, hL⟩ := hz
  obtain ⟨pr, cr, e3, hr⟩ := hu
  exact st_call _ _ _ ho #[mv q, .slice p l.length l.length, .slice pl L.length cl, .slice pr R.length cr] (by simp [hx, e1, e2, e3]) (fun _ _ => by rfl) ((lmeans_any q l hl L R hc hM hR p pl pr _ cl cr us w hs hL hr).mono fun _ _ ⟨h1, h2⟩ => ⟨_, h1, rfl, h2⟩)
theorem st_move (x : Operand) (u : Value) (hx : a.eval x = u) (ho : o.op = .move x) : o.wp Try.prog a w (fun a' w' => ∃ v, a' = a.put o.dst v ∧ (Fk.val u).holds v w' ∧ Below w.heap.size w w') Q :=
  st_value u w (by unfold execOp; simp only [ho, hx]; rfl) rfl (w_refl w)
theorem st_assign (x : Operand) (u : Value) (hx : a.eval x = u) (ho : o.op = .assign x) : o.wp Try.prog a w (fun a' w' => ∃ v, a' = a.put o.dst v ∧ (Fk.val u).holds v w' ∧ Below w.heap.size w w') Q :=
  st_value u w (by unfold execOp; simp only [ho, hx]; rfl) rfl (w_refl w)
theorem st_pick (c x y : Operand) (u : Value) (hc : a.eval c = .bool true) (hx : a.eval x = u) (ho : o.op = .pick c x y) : o.wp Try.prog a w (fun a' w' => ∃ v, a' = a.put o.dst v ∧ (Fk.val u).holds v w' ∧ Below w.heap.size w w') Q :=
  st_value u w (by unfold execOp; simp only [ho, hc, hx]; rfl) rfl (w_refl w)
theorem st_load (x : Operand) (b : Nat) (s : Sg) (hx : a.eval x = .pointer (some ⟨b, 0, none⟩)) (hs : SgAt w b 0 s) (ho : o.op = .load 51 x) : o.wp Try.prog a w (fun a' w' => ∃ v, a' = a.put o.dst v ∧ (Fk.val (sgv s)).holds v w' ∧ Below w.heap.size w w') Q :=
  st_value (sgv s) w (by unfold execOp; simp only [ho, hx, Sem.run_bind, sg_loadAt hs, Result.andThen_ok]; rfl) rfl (w_refl w)
end

end Go.Proofs.Ythokapebcplmkaa
