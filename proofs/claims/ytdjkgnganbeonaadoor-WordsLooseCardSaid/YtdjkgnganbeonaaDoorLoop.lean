/- 'for line := range strings.SplitSeq(text, a line feed)': the loop's law, over an invariant from line to line. -/
import Derived.Test.YtdjkgnganbeonaaDoorSplit
namespace Go.Proofs.YtdjkgnganbeonaaDoor
open Go.RowKit Go.Shelf

/-- What the loop and its iterator may turn between two rounds: the iterator's first cell, block B; what is no cells, from n₀ on; new blocks. -/
structure Turn (n₀ B : Nat) (A C : World) : Prop where
  os : C.os = A.os
  tape : C.tape = A.tape
  output : C.output = A.output
  size : A.heap.size ≤ C.heap.size
  low : ∀ k, k < n₀ → k ≠ B → C.heap[k]? = A.heap[k]?
  cells : ∀ (k : Nat) (o : Obj), A.heap[k]? = some o → o.isCells = true → k ≠ B → C.heap[k]? = some o

theorem Turn.alloc (n₀ B : Nat) (A : World) (h : n₀ ≤ A.heap.size) (o : Obj) : Turn n₀ B A (A.alloc o) :=
  ⟨rfl, rfl, rfl, by simp, fun k hk _ => Below.heap_alloc A o k (by omega), fun k x hx _ _ => (Below.heap_alloc A o k (Array.getElem?_eq_some_iff.1 hx).1).trans hx⟩
theorem Turn.put {n₀ B : Nat} {A : World} {l : Nat} {o : Obj} (o' : Obj) (h : n₀ ≤ l) (hl : A.heap[l]? = some o) (ho : o.isCells = false) : Turn n₀ B A (A.putObj l o') :=
  ⟨rfl, rfl, rfl, by simp, fun k hk _ => World.putObj_heap_other (by omega), fun k x hx hc _ => (World.putObj_heap_other (fun e => by subst e; rw [hl] at hx; cases hx; rw [ho] at hc; cases hc)).trans hx⟩
theorem Turn.set (n₀ B : Nat) (A : World) (v : Value) : Turn n₀ B A (A.setCell ⟨B, 0, none⟩ v) :=
  ⟨rfl, rfl, rfl, by simp, fun k _ hB => Below.heap_setCell A _ v k hB, fun k x hx _ hB => (Below.heap_setCell A _ v k hB).trans hx⟩
theorem Turn.cell {n₀ B : Nat} {A C : World} (h : Turn n₀ B A C) {a : Addr} {v : Value} (ha : A.cell? a = some v) (hB : a.block ≠ B) : C.cell? a = some v := by
  obtain ⟨o, ho, hc⟩ := cells_of_cell ha
  exact (World.cell?_of_block ((h.cells _ o ho hc hB).trans ho.symm)).trans ha
theorem Turn.frozen {n₀ B : Nat} {A C : World} (h : Turn n₀ B A C) {a : Addr} {v : Value} (ha : A.cell? a = some v) (hB : a.block ≠ B) : C.frozen? a = A.frozen? a := by
  obtain ⟨o, ho, hc⟩ := cells_of_cell ha
  exact World.frozen?_of_block ((h.cells _ o ho hc hB).trans ho.symm)
theorem Turn.below {n₀ B m : Nat} {w A C : World} (hb : Below m w A) (h : Turn n₀ B A C) (h1 : m ≤ n₀) (h2 : m ≤ B) : Below m w C :=
  ⟨h.os.trans hb.os, h.tape.trans hb.tape, h.output.trans hb.output, Nat.le_trans hb.size h.size, fun k hk => (h.low k (by omega) (by omega)).trans (hb.block k hk)⟩
theorem Turn.own {n₀ B m size : Nat} {e : TypeId} {v : Value} {n : Nat} {xs : List Value} {A C : World} (ho : A.ownsRow m e size v n xs) (h : Turn n₀ B A C) (hB : v.ownBlock ≠ some B) : C.ownsRow m e size v n xs := by
  refine ⟨ho.1, ?_⟩
  rcases ho.2 with x | ⟨g, cap, cur, hv, hg, hc, rest⟩
  · exact .inl x
  · refine .inr ⟨g, cap, cur, hv, hg, h.cells g _ hc rfl ?_, rest⟩
    intro eq
    apply hB
    rw [hv, eq]; rfl
/-- The iterator's cells lie on where block B's cell does. -/
theorem Turn.cells3 {n₀ B p : Nat} {T : ByteArray} {A C : World} (hc : Cells3 T B p A) (h : Turn n₀ B A C) (hs : C.heap[B]? = A.heap[B]?) : Cells3 T B p C :=
  ⟨(World.cell?_of_block (w := A) (a := ⟨B, 0, none⟩) hs).trans hc.s, (World.frozen?_of_block (w := A) (a := ⟨B, 0, none⟩) hs).trans hc.free, h.cell hc.sep (by simp), h.cell hc.save (by simp; omega)⟩

/-- How the body of a round may be left: it goes on; it returns. -/
def bodyEnd (n₀ B : Nat) (T : ByteArray) (p t : Nat) (I : Nat → World → Prop) (Ix : World → Prop) (W : World) : Exit → Act → World → Prop
  | .normal, _, W' => KeepsFrom n₀ W W' ∧ Cells3 T B p W' ∧ I (t + 1) W'
  | .ret, _, W' => KeepsFrom n₀ W W' ∧ Ix W'
  | _, _, _ => False

set_option maxHeartbeats 1000000 in
theorem wpIn_split {T : ByteArray} {B n : Nat} {g : Operand} {ps : Array Tmp} {assign body : Code} {Q : Exit → Act → World → Prop} {a : Act} {w : World} (hT : T.size ≤ 1000000) (hn : 2 ≤ n)
    (hg : a.eval g = .func (.func 61) #[] #[.pointer (some ⟨B + 1, 0, none⟩), .pointer (some ⟨B, 0, none⟩), .pointer (some ⟨B + 1 + 1, 0, none⟩)])
    (hps : ps.size = 1) (hBw : B + 1 + 1 < w.heap.size) (hc0 : Cells3 T B 0 w)
    (I : Nat → World → Prop) (Ix : World → Prop) (hI : ∀ p A C, I p A → Turn w.heap.size B A C → I p C) (hIx : ∀ A C, Ix A → Turn w.heap.size B A C → Ix C) (h0 : I 0 w) (a₁ : ByteArray → Act)
    (hassign : ∀ (l : Nat) (x : ByteArray) (W : World) (K : Act → World → Prop), K (a₁ x) W →
      assign.wpIn (Fence.wide.inRound l) (n - 1 - 1) Tryd.prog (Exit.then K (fun _ _ _ => False)) { tmps := (ps.zip #[.string x]).foldl (fun t (p, v) => t.setIfInBounds p v) a.tmps, defers := [] } W)
    (hbody : ∀ (l p t : Nat) (W : World), LineAt T p t → I p W → Cells3 T B p W → w.heap.size ≤ W.heap.size → body.wpIn (Fence.wide.inRound l) (n - 1 - 1) Tryd.prog (bodyEnd w.heap.size B T p t I Ix W) (a₁ (T.extract p t)) W)
    (hdone : ∀ (D : Nat) (W : World), w.heap.size ≤ D → I (T.size + 1) W → W.heap[D]? = some (.deferred (some [])) → Q .normal { a with defers := { target := .collected D, args := #[] } :: a.defers } W)
    (hstop : ∀ (D : Nat) (W : World), w.heap.size ≤ D → Ix W → W.heap[D]? = some (.deferred (some [])) → Code.ret.wpIn Fence.wide n Tryd.prog Q { a with defers := { target := .collected D, args := #[] } :: a.defers } W) :
    (Code.rangeFunc g ps assign body).wpIn Fence.wide n Tryd.prog Q a w := by
  refine wpIn_rangeFunc ?_
  intro fn hfn
  obtain ⟨rec, hrec⟩ : ∃ rec : LoopState → Option Code → Loop, rec = fun st pe => { state := st, pending := pe, fn, tmps := a.tmps, params := ps, assign, body, defers := w.heap.size } := ⟨_, rfl⟩
  obtain ⟨W1, hW1⟩ : ∃ W1, (w.alloc (.deferred (some []))).alloc (.loop (rec .ready none)) = W1 := ⟨_, rfl⟩
  have t1 : Turn w.heap.size B w (w.alloc (.deferred (some []))) := Turn.alloc _ _ _ (Nat.le_refl _) _
  have t2 : Turn w.heap.size B (w.alloc (.deferred (some []))) W1 := by rw [← hW1]; exact Turn.alloc _ _ _ (by simp) _
  have b2 : W1.heap[B]? = w.heap[B]? := by
    rw [← hW1]; exact (Below.heap_alloc _ _ _ (by simp; omega)).trans (Below.heap_alloc _ _ _ (by omega))
  have hL1 : W1.heap[w.heap.size + 1]? = some (.loop (rec .ready none)) := by
    rw [← hW1]; have := World.alloc_heap_new (w.alloc (.deferred (some []))) (.loop (rec .ready none)); rwa [World.size_alloc] at this
  have hK1 : W1.heap[w.heap.size]? = some (.deferred (some [])) := by
    rw [← hW1]; exact (Below.heap_alloc _ _ _ (by simp)).trans (World.alloc_heap_new w _)
  refine ⟨w.heap.size + 1, [{ target := .collected w.heap.size, args := #[] }], W1, { target := .fn (.func 61) #[.pointer (some ⟨B + 1, 0, none⟩), .pointer (some ⟨B, 0, none⟩), .pointer (some ⟨B + 1 + 1, 0, none⟩)], args := #[.func (.yield (w.heap.size + 1)) #[] #[]] }, W1, 61,
    #[.func (.yield (w.heap.size + 1)) #[] #[]] ++ #[.pointer (some ⟨B + 1, 0, none⟩), .pointer (some ⟨B, 0, none⟩), .pointer (some ⟨B + 1 + 1, 0, none⟩)], W1, ?_, ?_, ?_, ?_, fun _ => by omega, ?_⟩
  · rw [← hW1, hrec]; exact run_enterLoop_outer _ _ _ _ _
  · simp only [resolve, hg]
    simp [go_sem]
  · intro f' _; exact trivial
  · have eg : ∀ args w, (callFunc 61 args).run Tryd.prog w = .ok (.enter 61 args) w := enters_of Tryd.func61 (by kernel_rfl) rfl
    simp [invoke, go_sem, eg]
  · refine (split_iter T (n - 1) (w.heap.size + 1) B (by omega) hT
      (fun p W => I p W ∧ Cells3 T B p W ∧ w.heap.size ≤ W.heap.size ∧ W.heap[w.heap.size + 1]? = some (.loop (rec .ready none)) ∧ W.heap[w.heap.size]? = some (.deferred (some [])))
      (fun p t W => I (t + 1) W ∧ Cells3 T B p W ∧ w.heap.size ≤ W.heap.size ∧ W.heap[w.heap.size + 1]? = some (.loop (rec .ready none)) ∧ W.heap[w.heap.size]? = some (.deferred (some [])))
      (fun W => Ix W ∧ w.heap.size ≤ W.heap.size ∧ W.heap[w.heap.size + 1]? = some (.loop (rec .done (some .ret))) ∧ W.heap[w.heap.size]? = some (.deferred (some [])))
      (fun _ _ h => h.2.1) (fun _ _ _ h => h.2.1) ?_ ?_ W1 ⟨hI _ _ _ (hI _ _ _ h0 t1) t2, t2.cells3 (t1.cells3 hc0 (Below.heap_alloc _ _ _ (by omega))) (by rw [b2]; exact (Below.heap_alloc _ _ _ (by omega)).symm), Nat.le_trans t1.size t2.size, hL1, hK1⟩).mono ?_
    · -- the iterator's own store
      rintro p t W hlt ⟨hi, hc, hs, hl, hd⟩
      have ts := Turn.set w.heap.size B W (.string (T.extract (t + 1) T.size))
      have other : ∀ k, k ≠ B → (W.setCell ⟨B, 0, none⟩ (.string (T.extract (t + 1) T.size))).heap[k]? = W.heap[k]? := fun k hk => Below.heap_setCell W _ _ k hk
      exact ⟨hI _ _ _ hi ts, ⟨World.cell?_setCell_same' _ _ _ (by rw [hc.s]; rfl), by rw [World.frozen?_setCell]; exact hc.free, ts.cell hc.sep (by simp), ts.cell hc.save (by simp; omega)⟩, Nat.le_trans hs ts.size, (other _ (by omega)).trans hl, (other _ (by omega)).trans hd⟩
    · -- a round
      rintro p t W hline ⟨hi, hc, hs, hl, hd⟩
      have hlt : w.heap.size + 1 < W.heap.size := (Array.getElem?_eq_some_iff.1 hl).1
      have hy := run_yield (P := Tryd.prog) (args := #[.string (T.extract p t)]) hl (by rw [hrec]; simp [hps])
      rw [hrec] at hy
      refine ⟨fn, _, assign, body, hy, roundIn_of_wpIn hfn (hassign _ (T.extract p t) W _ ⟨_, run_beginRound hl (by rw [hrec]), ?_⟩)⟩
      obtain ⟨W2, hW2⟩ : ∃ W2, W.putObj (w.heap.size + 1) (.loop { rec .ready none with state := .busy }) = W2 := ⟨_, rfl⟩
      have tb : Turn w.heap.size B W W2 := by rw [← hW2]; exact Turn.put _ (by omega) hl rfl
      have hl2 : W2.heap[w.heap.size + 1]? = some (.loop { rec .ready none with state := .busy }) := by rw [← hW2]; exact World.putObj_heap_same hlt
      have hd2 : W2.heap[w.heap.size]? = some (.deferred (some [])) := by rw [← hW2]; exact (World.putObj_heap_other (by omega)).trans hd
      have hb2 : W2.heap[B]? = W.heap[B]? := by rw [← hW2]; exact World.putObj_heap_other (by omega)
      rw [hW2]
      refine wpIn_mono (hbody _ p t W2 hline (hI _ _ _ hi tb) (tb.cells3 hc hb2) (Nat.le_trans hs tb.size)) ?_
      rintro e a3 W3 hp
      have fin : ∀ jump : Option Code, KeepsFrom w.heap.size W2 W3 →
          (Instr.endRound (w.heap.size + 1) jump).run Tryd.prog W3 = .ok (.bool jump.isNone) (W3.putObj (w.heap.size + 1) (.loop (rec (if jump.isNone then .ready else .done) jump))) ∧
          Turn w.heap.size B W3 (W3.putObj (w.heap.size + 1) (.loop (rec (if jump.isNone then .ready else .done) jump))) ∧ W3.heap[w.heap.size + 1]? = some (.loop { rec .ready none with state := .busy }) ∧ W3.heap[w.heap.size]? = some (.deferred (some [])) ∧ w.heap.size ≤ W3.heap.size := fun jump hk => by
        have hl3 := hk.same _ _ (by omega) hl2 rfl
        have hd3 := hk.same _ _ (Nat.le_refl _) hd2 rfl
        have := run_endRound (P := Tryd.prog) jump hl3
        refine ⟨?_, Turn.put _ (by omega) hl3 rfl, hl3, hd3, by have := (Array.getElem?_eq_some_iff.1 hd3).1; omega⟩
        rw [hrec] at this ⊢; exact this
      cases e with
      | normal =>
        obtain ⟨hk, hc3, hi3⟩ := hp
        obtain ⟨hr, ht, hl3, hd3, hs3⟩ := fin none hk
        have hlt3 := (Array.getElem?_eq_some_iff.1 hl3).1
        exact ⟨_, _, hr, .inl ⟨rfl, hI _ _ _ hi3 ht, ht.cells3 hc3 (World.putObj_heap_other (by omega)), Nat.le_trans hs3 ht.size, World.putObj_heap_same hlt3, (World.putObj_heap_other (by omega)).trans hd3⟩⟩
      | ret =>
        obtain ⟨hk, hi3⟩ := hp
        obtain ⟨hr, ht, hl3, hd3, hs3⟩ := fin (some .ret) hk
        have hlt3 := (Array.getElem?_eq_some_iff.1 hl3).1
        exact ⟨_, _, hr, .inr ⟨rfl, hIx _ _ hi3 ht, Nat.le_trans hs3 ht.size, World.putObj_heap_same hlt3, (World.putObj_heap_other (by omega)).trans hd3⟩⟩
      | exit id => exact hp.elim
      | goto l => exact hp.elim
      | panic ch => exact hp.elim
      | outgrown => exact hp.elim
    · -- behind the iterator
      rintro e W2 ⟨⟨v, rfl⟩, (⟨p, hi, hc, hs, hl, hd⟩ | ⟨hi, hs, hl, hd⟩)⟩
      · have := run_endLoop (P := Tryd.prog) hl (by rw [hrec]; simp)
        refine ⟨none, _, by rw [hrec] at this; exact this, hdone _ _ (Nat.le_refl _) (hI _ _ _ hi (Turn.put _ (by omega) hl rfl)) ((World.putObj_heap_other (by omega)).trans hd)⟩
      · have := run_endLoop (P := Tryd.prog) hl (by rw [hrec]; simp)
        refine ⟨some .ret, _, by rw [hrec] at this; exact this, hstop _ _ (Nat.le_refl _) (hIx _ _ hi (Turn.put _ (by omega) hl rfl)) ((World.putObj_heap_other (by omega)).trans hd)⟩

end Go.Proofs.YtdjkgnganbeonaaDoor
