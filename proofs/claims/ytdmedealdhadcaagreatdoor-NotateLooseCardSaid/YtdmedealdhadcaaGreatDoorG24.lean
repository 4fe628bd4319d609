/- 'for line := range strings.SplitSeq(text, a line feed)': the loop's law, over an invariant from line to line. The program's count: how many lines have a word or a fault: a number, for every text. A list of rows that a call builds: where its words lie, and how it lasts. -/
import Derived.Test.YtdmedealdhadcaaGreatDoorG23
import Derived.Scope

namespace Go.Proofs.YtdmedealdhadcaaGreatDoor
open Go.RowKit Go.Shelf
/-- What the loop and its iterator may turn between two rounds: the iterator's first cell, block B; what is no cells, from n₀ on; new blocks. -/
structure Turn (n₀ B : Nat) (A C : World) : Prop where
  os : C.os = A.os
  tape : C.tape = A.tape
  output : C.output = A.output
  size : A.heap.size ≤ C.heap.size
  low : ∀ k, k < n₀ → k ≠ B → C.heap[k]? = A.heap[k]?
  cells : ∀ (k : Nat) (o : Obj), A.heap[k]? = some o → o.isCells = true → k ≠ B → C.heap[k]? = some o
theorem Turn.alloc (n₀ B : Nat) (A : World) (h : n₀ ≤ A.heap.size) (o : Obj) : Turn n₀ B A (A.alloc o) :=
  ⟨rfl, rfl, rfl, by simp, fun k hk _ => Below.heap_alloc A o k (by omega), fun k x hx _ _ => (Below.heap_alloc A o k (Array.getElem?_eq_some_iff.1 hx).1).trans hx⟩
theorem Turn.put {n₀ B : Nat} {A : World} {l : Nat} {o : Obj} (o' : Obj) (h : n₀ ≤ l) (hl : A.heap[l]? = some o) (ho : o.isCells = false) : Turn n₀ B A (A.putObj l o') :=
  ⟨rfl, rfl, rfl, by simp, fun k hk _ => World.putObj_heap_other (by omega), fun k x hx hc _ => (World.putObj_heap_other (fun e => by subst e; rw [hl] at hx; cases hx; rw [ho] at hc; cases hc)).trans hx⟩
theorem Turn.set (n₀ B : Nat) (A : World) (v : Value) : Turn n₀ B A (A.setCell ⟨B, 0, none⟩ v) :=
  ⟨rfl, rfl, rfl, by simp, fun k _ hB => Below.heap_setCell A _ v k hB, fun k x hx _ hB => (Below.heap_setCell A _ v k hB).trans hx⟩
theorem Turn.cell {n₀ B : Nat} {A C : World} (h : Turn n₀ B A C) {a : Addr} {v : Value} (ha : A.cell? a = some v) (hB : a.block ≠ B) : C.cell? a = some v := by
  obtain ⟨o, ho, hc⟩ := cells_of_cell ha
  exact (World.cell?_of_block ((h.cells _ o ho hc hB).trans ho.symm)).trans ha
theorem Turn.frozen {n₀ B : Nat} {A C : World} (h : Turn n₀ B A C) {a : Addr} {v : Value} (ha : A.cell? a = some v) (hB : a.block ≠ B) : C.frozen? a = A.frozen? a := by
  obtain ⟨o, ho, hc⟩ := cells_of_cell ha
  exact World.frozen?_of_block ((h.cells _ o ho hc hB).trans ho.symm)
theorem Turn.below {n₀ B m : Nat} {w A C : World} (hb : Below m w A) (h : Turn n₀ B A C) (h1 : m ≤ n₀) (h2 : m ≤ B) : Below m w C :=
  ⟨h.os.trans hb.os, h.tape.trans hb.tape, h.output.trans hb.output, Nat.le_trans hb.size h.size, fun k hk => (h.low k (by omega) (by omega)).trans (hb.block k hk)⟩
theorem Turn.own {n₀ B m size : Nat} {e : TypeId} {v : Value} {n : Nat} {xs : List Value} {A C : World} (ho : A.ownsRow m e size v n xs) (h : Turn n₀ B A C) (hB : v.ownBlock ≠ some B) : C.ownsRow m e size v n xs := by
  refine ⟨ho.1, ?_⟩
  rcases ho.2 with x | ⟨g, cap, cur, hv, hg, hc, rest⟩
  · exact .inl x
  · refine .inr ⟨g, cap, cur, hv, hg, h.cells g _ hc rfl ?_, rest⟩
    intro eq
    apply hB
    rw [hv, eq]; rfl
/-- The iterator's cells lie on where block B's cell does. -/
theorem Turn.cells3 {n₀ B p : Nat} {T : ByteArray} {A C : World} (hc : Cells3 T B p A) (h : Turn n₀ B A C) (hs : C.heap[B]? = A.heap[B]?) : Cells3 T B p C :=
  ⟨(World.cell?_of_block (w := A) (a := ⟨B, 0, none⟩) hs).trans hc.s, (World.frozen?_of_block (w := A) (a := ⟨B, 0, none⟩) hs).trans hc.free, h.cell hc.sep (by simp), h.cell hc.save (by simp; omega)⟩
/-- How the body of a round may be left: it goes on; it returns. -/
def bodyEnd (n₀ B : Nat) (T : ByteArray) (p t : Nat) (I : Nat → World → Prop) (Ix : World → Prop) (W : World) : Exit → Act → World → Prop
  | .normal, _, W' => KeepsFrom n₀ W W' ∧ Cells3 T B p W' ∧ I (t + 1) W'
  | .ret, _, W' => KeepsFrom n₀ W W' ∧ Ix W'
  | _, _, _ => False
set_option maxHeartbeats 1000000 in
theorem wpIn_split {T : ByteArray} {B n : Nat} {g : Operand} {ps : Array Tmp} {assign body : Code} {Q : Exit → Act → World → Prop} {a : Act} {w : World} (hT : T.size ≤ 1000000) (hn : 2 ≤ n)
    (hg : a.eval g = .func (.func 155) #[] #[.pointer (some ⟨B + 1, 0, none⟩), .pointer (some ⟨B, 0, none⟩), .pointer (some ⟨B + 1 + 1, 0, none⟩)])
    (hps : ps.size = 1) (hBw : B + 1 + 1 < w.heap.size) (hc0 : Cells3 T B 0 w)
    (I : Nat → World → Prop) (Ix : World → Prop) (hI : ∀ p A C, I p A → Turn w.heap.size B A C → I p C) (hIx : ∀ A C, Ix A → Turn w.heap.size B A C → Ix C) (h0 : I 0 w) (a₁ : ByteArray → Act)
    (hassign : ∀ (l : Nat) (x : ByteArray) (W : World) (K : Act → World → Prop), K (a₁ x) W →
      assign.wpIn (Fence.wide.inRound l) (n - 1 - 1) Tryz.prog (Exit.then K (fun _ _ _ => False)) { tmps := (ps.zip #[.string x]).foldl (fun t (p, v) => t.setIfInBounds p v) a.tmps, defers := [] } W)
    (hbody : ∀ (l p t : Nat) (W : World), LineAt T p t → I p W → Cells3 T B p W → w.heap.size ≤ W.heap.size → body.wpIn (Fence.wide.inRound l) (n - 1 - 1) Tryz.prog (bodyEnd w.heap.size B T p t I Ix W) (a₁ (T.extract p t)) W)
    (hdone : ∀ (D : Nat) (W : World), w.heap.size ≤ D → I (T.size + 1) W → W.heap[D]? = some (.deferred (some [])) → Q .normal { a with defers := { target := .collected D, args := #[] } :: a.defers } W)
    (hstop : ∀ (D : Nat) (W : World), w.heap.size ≤ D → Ix W → W.heap[D]? = some (.deferred (some [])) → Code.ret.wpIn Fence.wide n Tryz.prog Q { a with defers := { target := .collected D, args := #[] } :: a.defers } W) :
    (Code.rangeFunc g ps assign body).wpIn Fence.wide n Tryz.prog Q a w := by
  refine wpIn_rangeFunc ?_
  intro fn hfn
  obtain ⟨rec, hrec⟩ : ∃ rec : LoopState → Option Code → Loop, rec = fun st pe => { state := st, pending := pe, fn, tmps := a.tmps, params := ps, assign, body, defers := w.heap.size } := ⟨_, rfl⟩
  obtain ⟨W1, hW1⟩ : ∃ W1, (w.alloc (.deferred (some []))).alloc (.loop (rec .ready none)) = W1 := ⟨_, rfl⟩
  have t1 : Turn w.heap.size B w (w.alloc (.deferred (some []))) := Turn.alloc _ _ _ (Nat.le_refl _) _
  have t2 : Turn w.heap.size B (w.alloc (.deferred (some []))) W1 := by rw [← hW1]; exact Turn.alloc _ _ _ (by simp) _
  have b2 : W1.heap[B]? = w.heap[B]? := by
    rw [← hW1]; exact (Below.heap_alloc _ _ _ (by simp; omega)).trans (Below.heap_alloc _ _ _ (by omega))
  have hL1 : W1.heap[w.heap.size + 1]? = some (.loop (rec .ready none)) := by
    rw [← hW1]; have := World.alloc_heap_new (w.alloc (.deferred (some []))) (.loop (rec .ready none)); rwa [World.size_alloc] at this
  have hK1 : W1.heap[w.heap.size]? = some (.deferred (some [])) := by
    rw [← hW1]; exact (Below.heap_alloc _ _ _ (by simp)).trans (World.alloc_heap_new w _)
  refine ⟨w.heap.size + 1, [{ target := .collected w.heap.size, args := #[] }], W1, { target := .fn (.func 155) #[.pointer (some ⟨B + 1, 0, none⟩), .pointer (some ⟨B, 0, none⟩), .pointer (some ⟨B + 1 + 1, 0, none⟩)], args := #[.func (.yield (w.heap.size + 1)) #[] #[]] }, W1, 155,
    #[.func (.yield (w.heap.size + 1)) #[] #[]] ++ #[.pointer (some ⟨B + 1, 0, none⟩), .pointer (some ⟨B, 0, none⟩), .pointer (some ⟨B + 1 + 1, 0, none⟩)], W1, ?_, ?_, ?_, ?_, fun _ => by omega, ?_⟩
  · rw [← hW1, hrec]; exact run_enterLoop_outer _ _ _ _ _
  · simp only [resolve, hg]
    simp [go_sem]
  · intro f' _; exact trivial
  · have eg : ∀ args w, (callFunc 155 args).run Tryz.prog w = .ok (.enter 155 args) w := enters_of Tryz.func155 (by kernel_rfl) rfl
    simp [invoke, go_sem, eg]
  · refine (split_iter T (n - 1) (w.heap.size + 1) B (by omega) hT
      (fun p W => I p W ∧ Cells3 T B p W ∧ w.heap.size ≤ W.heap.size ∧ W.heap[w.heap.size + 1]? = some (.loop (rec .ready none)) ∧ W.heap[w.heap.size]? = some (.deferred (some [])))
      (fun p t W => I (t + 1) W ∧ Cells3 T B p W ∧ w.heap.size ≤ W.heap.size ∧ W.heap[w.heap.size + 1]? = some (.loop (rec .ready none)) ∧ W.heap[w.heap.size]? = some (.deferred (some [])))
      (fun W => Ix W ∧ w.heap.size ≤ W.heap.size ∧ W.heap[w.heap.size + 1]? = some (.loop (rec .done (some .ret))) ∧ W.heap[w.heap.size]? = some (.deferred (some [])))
      (fun _ _ h => h.2.1) (fun _ _ _ h => h.2.1) ?_ ?_ W1 ⟨hI _ _ _ (hI _ _ _ h0 t1) t2, t2.cells3 (t1.cells3 hc0 (Below.heap_alloc _ _ _ (by omega))) (by rw [b2]; exact (Below.heap_alloc _ _ _ (by omega)).symm), Nat.le_trans t1.size t2.size, hL1, hK1⟩).mono ?_
    · -- the iterator's own store
      rintro p t W hlt ⟨hi, hc, hs, hl, hd⟩
      have ts := Turn.set w.heap.size B W (.string (T.extract (t + 1) T.size))
      have other : ∀ k, k ≠ B → (W.setCell ⟨B, 0, none⟩ (.string (T.extract (t + 1) T.size))).heap[k]? = W.heap[k]? := fun k hk => Below.heap_setCell W _ _ k hk
      exact ⟨hI _ _ _ hi ts, ⟨World.cell?_setCell_same' _ _ _ (by rw [hc.s]; rfl), by rw [World.frozen?_setCell]; exact hc.free, ts.cell hc.sep (by simp), ts.cell hc.save (by simp; omega)⟩, Nat.le_trans hs ts.size, (other _ (by omega)).trans hl, (other _ (by omega)).trans hd⟩
    · -- a round
      rintro p t W hline ⟨hi, hc, hs, hl, hd⟩
      have hlt : w.heap.size + 1 < W.heap.size := (Array.getElem?_eq_some_iff.1 hl).1
      have hy := run_yield (P := Tryz.prog) (args := #[.string (T.extract p t)]) hl (by rw [hrec]; simp [hps])
      rw [hrec] at hy
      refine ⟨fn, _, assign, body, hy, roundIn_of_wpIn hfn (hassign _ (T.extract p t) W _ ⟨_, run_beginRound hl (by rw [hrec]), ?_⟩)⟩
      obtain ⟨W2, hW2⟩ : ∃ W2, W.putObj (w.heap.size + 1) (.loop { rec .ready none with state := .busy }) = W2 := ⟨_, rfl⟩
      have tb : Turn w.heap.size B W W2 := by rw [← hW2]; exact Turn.put _ (by omega) hl rfl
      have hl2 : W2.heap[w.heap.size + 1]? = some (.loop { rec .ready none with state := .busy }) := by rw [← hW2]; exact World.putObj_heap_same hlt
      have hd2 : W2.heap[w.heap.size]? = some (.deferred (some [])) := by rw [← hW2]; exact (World.putObj_heap_other (by omega)).trans hd
      have hb2 : W2.heap[B]? = W.heap[B]? := by rw [← hW2]; exact World.putObj_heap_other (by omega)
      rw [hW2]
      refine wpIn_mono (hbody _ p t W2 hline (hI _ _ _ hi tb) (tb.cells3 hc hb2) (Nat.le_trans hs tb.size)) ?_
      rintro e a3 W3 hp
      have fin : ∀ jump : Option Code, KeepsFrom w.heap.size W2 W3 →
          (Instr.endRound (w.heap.size + 1) jump).run Tryz.prog W3 = .ok (.bool jump.isNone) (W3.putObj (w.heap.size + 1) (.loop (rec (if jump.isNone then .ready else .done) jump))) ∧
          Turn w.heap.size B W3 (W3.putObj (w.heap.size + 1) (.loop (rec (if jump.isNone then .ready else .done) jump))) ∧ W3.heap[w.heap.size + 1]? = some (.loop { rec .ready none with state := .busy }) ∧ W3.heap[w.heap.size]? = some (.deferred (some [])) ∧ w.heap.size ≤ W3.heap.size := fun jump hk => by
        have hl3 := hk.same _ _ (by omega) hl2 rfl
        have hd3 := hk.same _ _ (Nat.le_refl _) hd2 rfl
        have := run_endRound (P := Tryz.prog) jump hl3
        refine ⟨?_, Turn.put _ (by omega) hl3 rfl, hl3, hd3, by have := (Array.getElem?_eq_some_iff.1 hd3).1; omega⟩
        rw [hrec] at this ⊢; exact this
      cases e with
      | normal =>
        obtain ⟨hk, hc3, hi3⟩ := hp
        obtain ⟨hr, ht, hl3, hd3, hs3⟩ := fin none hk
        have hlt3 := (Array.getElem?_eq_some_iff.1 hl3).1
        exact ⟨_, _, hr, .inl ⟨rfl, hI _ _ _ hi3 ht, ht.cells3 hc3 (World.putObj_heap_other (by omega)), Nat.le_trans hs3 ht.size, World.putObj_heap_same hlt3, (World.putObj_heap_other (by omega)).trans hd3⟩⟩
      | ret =>
        obtain ⟨hk, hi3⟩ := hp
        obtain ⟨hr, ht, hl3, hd3, hs3⟩ := fin (some .ret) hk
        have hlt3 := (Array.getElem?_eq_some_iff.1 hl3).1
        exact ⟨_, _, hr, .inr ⟨rfl, hIx _ _ hi3 ht, Nat.le_trans hs3 ht.size, World.putObj_heap_same hlt3, (World.putObj_heap_other (by omega)).trans hd3⟩⟩
      | exit id => exact hp.elim
      | goto l => exact hp.elim
      | panic ch => exact hp.elim
      | outgrown => exact hp.elim
    · -- behind the iterator
      rintro e W2 ⟨⟨v, rfl⟩, (⟨p, hi, hc, hs, hl, hd⟩ | ⟨hi, hs, hl, hd⟩)⟩
      · have := run_endLoop (P := Tryz.prog) hl (by rw [hrec]; simp)
        refine ⟨none, _, by rw [hrec] at this; exact this, hdone _ _ (Nat.le_refl _) (hI _ _ _ hi (Turn.put _ (by omega) hl rfl)) ((World.putObj_heap_other (by omega)).trans hd)⟩
      · have := run_endLoop (P := Tryz.prog) hl (by rw [hrec]; simp)
        refine ⟨some .ret, _, by rw [hrec] at this; exact this, hstop _ _ (Nat.le_refl _) (hIx _ _ hi (Turn.put _ (by omega) hl rfl)) ((World.putObj_heap_other (by omega)).trans hd)⟩
end Go.Proofs.YtdmedealdhadcaaGreatDoor

namespace Go.Proofs.YtdmedealdhadcaaGreatDoor
open Go.RowKit Go.Shelf
attribute [local go_sem] Oper.semAt_some
/-! A scope through which the run goes without a goto, inside a fence. -/
section
variable {P : Program} {F : Fence} {n : Nat} {b : Frame} {a : Act} {k : List Item} {cs : List Frame} {w : World} {Q : Exit → Act → World → Prop} {c : Code}
theorem stepR_scope : step P (lone (b.atR a (.code (.scope c) :: k)) cs w) = .next (lone (b.atR a (.code c :: .inScope c :: k)) cs w) := step_lone_go (by simp [stepG, stepG.exec, Frame.atR])
theorem stepR_inScope : step P (lone (b.atR a (.inScope c :: k)) cs w) = .next (lone (b.atR a k) cs w) := step_lone_go (by simp [stepG, stepG.exec, Frame.atR])
theorem wpIn_scope (h : c.wpIn F n P (Exit.noGoto Q) a w) : (Code.scope c).wpIn F n P Q a w := by
  intro b k cs hro hb hr
  have first : (lone (b.atR a (.code (.scope c) :: k)) cs w).fenced P F := fenced_calm hb hr rfl
  obtain ⟨e, a₁, w₁, hq, harr⟩ := h b (.inScope c :: k) cs hro hb hr
  have out : ∀ id, exitTo id (.inScope c :: k) = exitTo id k := fun id => by simp [exitTo]
  cases e with
  | normal => exact ⟨.normal, a₁, w₁, hq, .head first stepR_scope (StepsIn.trans harr (.one (fenced_calm hb hr rfl) stepR_inScope))⟩
  | exit id =>
    refine ⟨.exit id, a₁, w₁, hq, fun k' hk => .head first stepR_scope (harr.1 k' (by rw [out]; exact hk)), fun hr' hk => ?_⟩
    obtain ⟨k₁, h1, h2⟩ := harr.2 hr' (by rw [out]; exact hk)
    exact ⟨k₁, h1, .head first stepR_scope h2⟩
  | goto l => exact hq.elim
  | ret => exact ⟨.ret, a₁, w₁, hq, .of_steps (.one first stepR_scope) harr⟩
  | panic ch => exact ⟨.panic ch, a₁, w₁, hq, .of_steps (.one first stepR_scope) harr⟩
  | outgrown => exact ⟨.outgrown, a₁, w₁, hq, .of_steps (.one first stepR_scope) harr⟩
end
theorem Cells3.other {T : ByteArray} {B p b j : Nat} {W : World} (h : Cells3 T B p W) (v : Value) (h0 : b ≠ B) (h1 : b ≠ B + 1) (h2 : b ≠ B + 1 + 1) : Cells3 T B p (W.setCell ⟨b, j, none⟩ v) := by
  have o : ∀ q, q ≠ b → (W.setCell ⟨b, j, none⟩ v).heap[q]? = W.heap[q]? := fun q hq => Below.heap_setCell W _ v q hq
  exact ⟨(World.cell?_of_block (w := W) (a := ⟨B, 0, none⟩) (o B h0.symm)).trans h.s, (World.frozen?_of_block (w := W) (a := ⟨B, 0, none⟩) (o B h0.symm)).trans h.free,
    (World.cell?_of_block (w := W) (a := ⟨B + 1, 0, none⟩) (o (B + 1) h1.symm)).trans h.sep, (World.cell?_of_block (w := W) (a := ⟨B + 1 + 1, 0, none⟩) (o (B + 1 + 1) h2.symm)).trans h.save⟩
/-- The count so far. -/
structure CountI (w : World) (p : Nat) (W : World) : Prop where
  num : ∃ k : Nat, W.cell? ⟨w.heap.size, 0, none⟩ = some (.int .i64 k) ∧ k ≤ p
  free : W.frozen? ⟨w.heap.size, 0, none⟩ = false
  bel : Below w.heap.size w W
set_option maxRecDepth 100000 in
set_option maxHeartbeats 2000000 in
theorem wcount_any (T : ByteArray) (w : World) (hT : T.size ≤ 1000000) : Calls Tryz.prog 57 #[.string T] w fun e w' => (∃ n : Nat, e = .returned (.int .i64 n) ∧ n ≤ T.size + 1) ∧ Below w.heap.size w w' := by
  have S := Lib.hid (fun W => (callsIn_wide (n := 5)).2 (wsplitseq_any T ⟨#[10]⟩ W))
  refine (callsIn_wide (n := 6)).1 ?_
  refine callsIn_of_wp_marks Tryz.func57 rfl trivial ?_ rfl
  simp only [Tryz.ntmps57, List.size_toArray, List.length_cons, List.length_nil, Nat.reduceAdd, Nat.reduceSub, Array.replicate_succ, Array.replicate_zero, List.push_toArray, List.append_toArray, List.nil_append, List.cons_append]
  gi_wp2
  refine wpIn_scope ?_
  gi_wp2
  refine wpIn_label ?_
  gi_wp2_with (refine ⟨trivial, ?_⟩; gi_at_call 58; refine (S.out _).mono ?_; rintro e w1 ⟨rfl, rfl⟩)
  have hcells := Cells3.made T (w.alloc (.cells #[.int .i64 0] 3))
  rw [World.size_alloc] at hcells
  have hstart : CountI w 0 ((((w.alloc (.cells #[.int .i64 0] 3)).alloc (.cells #[.string T] 9)).alloc (.cells #[.string ⟨#[10]⟩] 9)).alloc (.cells #[.int .i64 0] 3)) :=
    ⟨⟨0, by go_simp, Nat.le_refl _⟩, by go_simp, w_alloc (w_alloc (w_alloc (w_alloc (w_refl w) _) _) _) _⟩
  refine wpIn_split (T := T) (B := w.heap.size + 1) hT (by omega) rfl rfl (by simp) hcells (fun p W => CountI w p W) (fun _ => False) ?hI (fun _ _ h _ => h) hstart
    (fun x => { tmps := #[.string T, undef, .int .i64 0, .pointer (some ⟨w.heap.size, 0, none⟩), .string x, undef, .string T, .func (.func 155) #[] #[.pointer (some ⟨w.heap.size + 1 + 1, 0, none⟩), .pointer (some ⟨w.heap.size + 1, 0, none⟩), .pointer (some ⟨w.heap.size + 1 + 1 + 1, 0, none⟩)], .string x, undef, undef, undef, undef, undef, undef, undef, undef, undef, undef, undef, undef, undef, undef, undef, undef, undef], defers := [] }) ?assign ?body ?done ?stop
  case hI =>
    rintro p A C ⟨⟨k, hk, hkp⟩, hf, hb⟩ ht
    exact ⟨⟨k, ht.cell hk (by simp), hkp⟩, (ht.frozen hk (by simp)).trans hf, ht.below hb (by simp; omega) (by omega)⟩
  case assign =>
    intro l x W K hK
    gi_wp2
    exact hK
  case body =>
    rintro l p t W hline ⟨⟨k, hk, hkp⟩, hf, hb⟩ hc hsz
    have hle := hline.le
    have hfit := hline.fits
    obtain ⟨x, hx⟩ : ∃ x, T.extract p t = x := ⟨_, rfl⟩
    have hxs : x.size ≤ 1000000 := by rw [← hx, ByteArray.size_extract]; omega
    rw [hx]
    clear hx
    have hgo := Lib.hid (show KeepsFrom (w.heap.size + 1 + 1 + 1 + 1) W W ∧ Cells3 T (w.heap.size + 1) p W ∧ CountI w (t + 1) W from ⟨KeepsFrom.refl _ _, hc, ⟨⟨k, hk, by omega⟩, hf, hb⟩⟩)
    have hmore := Lib.hid (show KeepsFrom (w.heap.size + 1 + 1 + 1 + 1) W (W.setCell ⟨w.heap.size, 0, none⟩ (.int .i64 ((k + 1 : Nat) : Int))) ∧ Cells3 T (w.heap.size + 1) p (W.setCell ⟨w.heap.size, 0, none⟩ (.int .i64 ((k + 1 : Nat) : Int))) ∧ CountI w (t + 1) (W.setCell ⟨w.heap.size, 0, none⟩ (.int .i64 ((k + 1 : Nat) : Int))) from
      ⟨(KeepsOthers.setCell _ _ _).from _, hc.other _ (by omega) (by omega) (by omega), ⟨⟨k + 1, World.cell?_setCell_same' _ _ _ (by rw [hk]; rfl), by omega⟩, by rw [World.frozen?_setCell]; exact hf, w_set hb (Nat.le_refl _) _⟩⟩)
    have hk1 : k ≤ 1000000 := by omega
    clear hc hb
    gi_wp2
    gi_loop [11] (fun i => ∃ q : Nat, q ≤ x.size ∧ i = .int .i64 q) (fun i => x.size - (intOf i).toNat)
    case atStart => exact ⟨0, by omega, rfl⟩
    case round =>
      obtain ⟨q, hq, rfl⟩ := hrel
      by_cases hlt : q < x.size
      · have hcl := cls_lit x[q].toNat x[q].toNat_lt x[q].toNat_lt
        have h256 : (x[q].toNat : Int) < 256 := by have := x[q].toNat_lt; omega
        cases e32 : (clsI (x[q].toNat : Int) == 32) with
        | true =>
          gi_wp2
          exact ⟨⟨q + 1, by omega, by go_num⟩, by simp [intOf]; omega⟩
        | false =>
          cases e59 : (clsI (x[q].toNat : Int) == 59) with
          | true =>
            gi_wp2
            exact hgo.out
          | false =>
            gi_wp2
            exact hmore.out
      · obtain rfl : q = x.size := by omega
        gi_wp2
        exact hgo.out
  case done =>
    rintro D W hD ⟨⟨k, hk, hkp⟩, hf, hb⟩ hK
    gi_wp2
    refine ⟨by simp, .inl ⟨_, _, rfl, run_takeDeferred hK, ?_⟩⟩
    exact ⟨_, results_tmp rfl _ _ _, ⟨k, rfl, hkp⟩, hb.trans (belowK_b (w := w) (Nat.le_refl _) W D _ _ (by simp at hD; omega) hK rfl rfl)⟩
  case stop =>
    rintro D W hD h hK
    exact h.elim
end Go.Proofs.YtdmedealdhadcaaGreatDoor

namespace Go.Proofs.YtdmedealdhadcaaGreatDoor
open Go.RowKit
/-- The rows' words lie where the rows say, each list of them in a block that is ok. -/
def AllP (W : World) (ok : Nat → Prop) : List (Int × Value) → List Rw → Prop
  | [], [] => True
  | x :: xs, r :: rs => (x.1 = r.at_ ∧ WordsV W x.2 r.words ∧ (0 < r.words.length → ∃ b, x.2.ownBlock = some b ∧ ok b)) ∧ AllP W ok xs rs
  | _, _ => False
theorem AllP.mono {W W1 : World} {ok ok' : Nat → Prop} (hp : ∀ v ws, WordsV W v ws → (0 < ws.length → ∃ b, v.ownBlock = some b ∧ ok b) → WordsV W1 v ws ∧ (0 < ws.length → ∃ b, v.ownBlock = some b ∧ ok' b)) :
    ∀ {vs rs}, AllP W ok vs rs → AllP W1 ok' vs rs
  | [], [], _ => trivial
  | x :: xs, r :: rs, h => by
    obtain ⟨⟨h1, h2, h3⟩, h4⟩ := h
    obtain ⟨k1, k2⟩ := hp _ _ h2 h3
    exact ⟨⟨h1, k1, k2⟩, AllP.mono hp h4⟩
  | [], _ :: _, h => h.elim
  | _ :: _, [], h => h.elim
theorem AllP.app {W : World} {ok : Nat → Prop} {x : Int × Value} {r : Rw} (hx : x.1 = r.at_ ∧ WordsV W x.2 r.words ∧ (0 < r.words.length → ∃ b, x.2.ownBlock = some b ∧ ok b)) :
    ∀ {vs rs}, AllP W ok vs rs → AllP W ok (vs ++ [x]) (rs ++ [r])
  | [], [], _ => ⟨hx, trivial⟩
  | _ :: _, _ :: _, h => ⟨h.1, AllP.app hx h.2⟩
  | [], _ :: _, h => h.elim
  | _ :: _, [], h => h.elim
theorem AllP.all {W : World} {ok : Nat → Prop} : ∀ {vs rs}, AllP W ok vs rs → AllR W none vs rs
  | [], [], _ => trivial
  | x :: xs, r :: rs, h => ⟨⟨h.1.1, h.1.2.1, fun h0 => by obtain ⟨b, e, _⟩ := h.1.2.2 h0; rw [e]; simp⟩, AllP.all h.2⟩
  | [], _ :: _, h => h.elim
  | _ :: _, [], h => h.elim
theorem WordsV.turn {n₀ B : Nat} {W W1 : World} {v : Value} {ws : List Wd} (h : WordsV W v ws) (ht : Turn n₀ B W W1) (hb : 0 < ws.length → v.ownBlock ≠ some B) : WordsV W1 v ws := by
  obtain ⟨p, cap, rfl, hs⟩ := h
  refine ⟨p, cap, rfl, hs.fit, hs.max, hs.nil, hs.len, fun h0 => ?_⟩
  obtain ⟨b, off, rfl, hbl, hc⟩ := hs.at_ h0
  have hne : b ≠ B := fun e => hb h0 (by rw [e]; rfl)
  exact ⟨b, off, rfl, Nat.lt_of_lt_of_le hbl ht.size, fun j u hu => ht.cell (hc j u hu) hne⟩
/-- A list of rows of the call's own: its row from block base on, its words from block m on. -/
def RowsK (W : World) (base m : Nat) (v : Value) (rs : List Rw) : Prop :=
  ∃ vs, W.ownsRow base 62 2 v rs.length (flatR vs) ∧ AllP W (fun b => m ≤ b ∧ v.ownBlock ≠ some b) vs rs
theorem RowsK.turn {n₀ B base m : Nat} {W W1 : World} {v : Value} {rs : List Rw} (h : RowsK W base m v rs) (ht : Turn n₀ B W W1) (hv : v.ownBlock ≠ some B) (hm : B < m) : RowsK W1 base m v rs := by
  obtain ⟨vs, ho, ha⟩ := h
  exact ⟨vs, ht.own ho hv, ha.mono fun _ _ a b => ⟨a.turn ht fun h0 e => by obtain ⟨q, e1, e2, _⟩ := b h0; rw [e1] at e; simp only [Option.some.injEq] at e; omega, b⟩⟩
theorem RowsK.grown {base m r : Nat} {W W1 : World} {v : Value} {rs : List Rw} (h : RowsK W base m v rs) (hg : W.grownBy W1 (some r)) (hv : v.ownBlock ≠ some r) (hm : r < m) : RowsK W1 base m v rs := by
  obtain ⟨vs, ho, ha⟩ := h
  exact ⟨vs, ho.kept hg (.inr hv), ha.mono fun _ _ a b => ⟨a.grown hg fun h0 e => by obtain ⟨q, e1, e2, _⟩ := b h0; rw [e1] at e; simp only [Option.some.injEq] at e; omega, b⟩⟩
theorem RowsK.later {base m : Nat} {W W1 : World} {v : Value} {rs : List Rw} (h : RowsK W base m v rs) (k : Below W.heap.size W W1) : RowsK W1 base m v rs := by
  obtain ⟨vs, ho, ha⟩ := h
  exact ⟨vs, w_own ho k (Nat.le_refl _), ha.mono fun _ _ a b => ⟨a.later k, b⟩⟩
theorem RowsK.lt {base m : Nat} {W : World} {v : Value} {rs : List Rw} (h : RowsK W base m v rs) : ∀ k, v.ownBlock = some k → base ≤ k ∧ k < W.heap.size := by
  obtain ⟨vs, ho, ha⟩ := h; exact ho.lt
theorem RowsK.val {base m : Nat} {W : World} {v : Value} {rs : List Rw} (h : RowsK W base m v rs) : RowsV W v rs := by
  obtain ⟨vs, ho, ha⟩ := h
  obtain ⟨p, cap, e, hs⟩ := slice_of_own ho
  exact ⟨p, cap, vs, none, e, hs, ha.all⟩
/-- One row more. -/
theorem RowsK.more {base m : Nat} {W2 W3 : World} {v v' vw : Value} {rs : List Rw} {a : Int} {ws : List Wd} {vs : List (Int × Value)} (ha : AllP W2 (fun b => m ≤ b ∧ v.ownBlock ≠ some b) vs rs)
    (hw : WordsV W2 vw ws) (hb : 0 < ws.length → ∃ b, vw.ownBlock = some b ∧ m ≤ b ∧ b < W2.heap.size ∧ v.ownBlock ≠ some b)
    (hown : W3.ownsRow base 62 2 v' (rs.length + 1) (flatR vs ++ flatR [(a, vw)])) (hg : W2.grownBy W3 v.ownBlock) (hat : v'.ownBlock = v.ownBlock ∨ v'.ownBlock = some W2.heap.size) : RowsK W3 base m v' (rs ++ [⟨a, ws⟩]) := by
  refine ⟨vs ++ [(a, vw)], by rw [flatR_app, List.length_append]; exact hown, ?_⟩
  have h2 : AllP W2 (fun b => m ≤ b ∧ v.ownBlock ≠ some b) (vs ++ [(a, vw)]) (rs ++ [⟨a, ws⟩]) :=
    ha.app ⟨rfl, hw, fun h0 => by obtain ⟨b, e1, e2, _, e4⟩ := hb h0; exact ⟨b, e1, e2, e4⟩⟩
  refine h2.mono fun vv ww x y => ⟨x.grown hg fun h0 e => ?_, fun h0 => ?_⟩
  · obtain ⟨b, e1, _, e3⟩ := y h0
    rw [e1] at e; exact e3 e.symm
  · obtain ⟨b, e1, e2, e3⟩ := y h0
    refine ⟨b, e1, e2, ?_⟩
    rcases hat with e | e
    · rw [e]; exact e3
    · rw [e]
      obtain ⟨b', f1, f2⟩ := x.block h0
      rw [e1] at f1
      simp only [Option.some.injEq] at f1
      simp only [ne_eq, Option.some.injEq]; omega
theorem keeps_below {W W1 : World} (h : Below W.heap.size W W1) : KeepsOthers W W1 := ⟨h.size, fun k _ hk _ => (h.block k (Array.getElem?_eq_some_iff.1 hk).1).trans hk⟩
end Go.Proofs.YtdmedealdhadcaaGreatDoor
