/- 'for x := range seq': an iterator's contract that says which elements come, in this order; and the loop's law over it. -/
import Derived.RangeFuncNested
import Derived.RangeFuncBound
import Derived.RangeFuncCalls
import Derived.RangeFuncLeaves
import Derived.RangeFuncBox
import Derived.Shelf.Abstract
import Derived.Shelf.RegionOpen
import Derived.OwnWalkIn
import Derived.TacticsInMore
import Derived.LoopNIn
import Derived.LoopIn
import Derived.Test.YthokapebcplmkaaMMem
namespace Go.Proofs.Ythokapebcplmkaa
open Go.RowKit Go.Shelf
attribute [local go_sem] Oper.semAt_some

/-- A block that no list of numbers lies in. -/
def plainO : Obj → Bool
  | .cells _ t _ => decide (t ≠ 3)
  | _ => true
/-- What was made since block n came is as it was, lists of numbers aside. -/
structure Mid (n : Nat) (A B : World) : Prop where
  size : A.heap.size ≤ B.heap.size
  same : ∀ k o, n ≤ k → A.heap[k]? = some o → plainO o = true → B.heap[k]? = some o
theorem Mid.refl (n : Nat) (A : World) : Mid n A A := ⟨Nat.le_refl _, fun _ _ _ h _ => h⟩
theorem Mid.trans {n : Nat} {A B C : World} (h : Mid n A B) (k : Mid n B C) : Mid n A C :=
  ⟨Nat.le_trans h.size k.size, fun i o hi hl hp => k.same i o hi (h.same i o hi hl hp) hp⟩
theorem Mid.mono {n n' : Nat} {A B : World} (h : Mid n A B) (k : n ≤ n') : Mid n' A B := ⟨h.size, fun i o hi hl hp => h.same i o (Nat.le_trans k hi) hl hp⟩
theorem Mid.bel (n : Nat) {A B : World} (b : Below A.heap.size A B) : Mid n A B := ⟨b.size, fun k _ _ hl _ => (b.block k (Array.getElem?_eq_some_iff.1 hl).1).trans hl⟩
theorem Mid.at_ {n k : Nat} {A B : World} {o : Obj} (h : Mid n A B) (hk : n ≤ k) (ho : A.heap[k]? = some o) (hp : plainO o = true) : B.heap[k]? = some o := h.same k o hk ho hp
theorem Mid.set (n : Nat) (A : World) {c : Nat} (hc : c < n) (j : Nat) (u : Value) : Mid n A (A.setCell ⟨c, j, none⟩ u) :=
  ⟨by simp, fun k _ hk h _ => (Below.heap_setCell _ _ _ _ (by simp only; omega)).trans h⟩
theorem Mid.putObj (n : Nat) (A : World) {l : Nat} (hc : l < n) (o : Obj) : Mid n A (A.putObj l o) :=
  ⟨by simp, fun k _ hk h _ => (World.putObj_heap_other (by omega)).trans h⟩
theorem Mid.row (n : Nat) {A B : World} {row : Option Nat} (hg : A.grownBy B row) (hr : ∀ r, row = some r → ∃ o : Obj, A.heap[r]? = some o ∧ plainO o = false) : Mid n A B :=
  ⟨hg.size, fun k o _ h hp => (hg.block k (Array.getElem?_eq_some_iff.1 h).1 (fun e => by
    obtain ⟨o', ho, hf⟩ := hr k e.symm
    rw [h] at ho; cases ho; rw [hp] at hf; cases hf)).trans h⟩

/-- The iterator g, which has captured lb, gives just the elements xs; it reads what C says of the world. -/
def Gives {α : Type} (g : Nat) (lb : Array Value) (enc : α → Value) (xs : List α) (C : World → Prop) : Prop :=
  ∀ (n l : Nat) (J : List α → World → Prop) (Jx : World → Prop) (W : World),
    (∀ pre A, J pre A → C A) → OwnFrom W.heap.size J → OwnFrom W.heap.size (fun (_ : Unit) A => Jx A) →
    (∀ (m : Nat) pre x post A, xs = pre ++ x :: post → J pre A → YieldAt Fence.wide m Try.prog l #[enc x] A fun e B => (e = .returned (.bool true) ∧ J (pre ++ [x]) B ∧ Mid W.heap.size A B) ∨ (e = .returned (.bool false) ∧ Jx B ∧ Mid W.heap.size A B)) →
    J [] W →
    CallsIn Fence.wide n Try.prog g (#[.func (.yield l) #[] #[]] ++ lb) W fun e B => (∃ v, e = .returned v) ∧ (J xs B ∨ Jx B)

/-- How the body of a round may be left: it goes on; it returns. -/
def roundEnd {α : Type} (B : Nat) (I : List α → World → Prop) (Ix : World → Prop) (xs : List α) (W : World) : Exit → Act → World → Prop
  | .normal, _, W' => Mid B W W' ∧ I xs W'
  | .ret, _, W' => Mid B W W' ∧ Ix W'
  | _, _, _ => False

set_option maxHeartbeats 1000000 in
theorem wpIn_gives {α : Type} {gf : Nat} {lb : Array Value} {enc : α → Value} {xs : List α} {C : World → Prop} (hseq : Gives gf lb enc xs C)
    {n : Nat} {g : Operand} {ps : Array Tmp} {assign body : Code} {Q : Exit → Act → World → Prop} {a : Act} {w : World}
    (hg : a.eval g = .func (.func gf) #[] lb) (eg : ∀ args w, (callFunc gf args).run Try.prog w = .ok (.enter gf args) w) (hps : ps.size = 1)
    (I : List α → World → Prop) (Ix : World → Prop) (hC : ∀ pre A, I pre A → C A) (hI : OwnFrom w.heap.size I) (hIx : OwnFrom w.heap.size (fun (_ : Unit) A => Ix A)) (h0 : I [] w)
    (Ax : α → Act → World → Prop) (hAx : ∀ x a', OwnFrom w.heap.size (fun (_ : Unit) A => Ax x a' A))
    (hassign : ∀ (m l : Nat) (pre : List α) (x : α) (W : World) (K : Act → World → Prop), w.heap.size ≤ W.heap.size → I pre W → (∀ a' W', Mid w.heap.size W W' → I pre W' → Ax x a' W' → K a' W') →
      assign.wpIn (Fence.wide.inRound l) m Try.prog (Exit.then K (fun _ _ _ => False)) { tmps := (ps.zip #[enc x]).foldl (fun t (p, v) => t.setIfInBounds p v) a.tmps, defers := [] } W)
    (hbody : ∀ (m l : Nat) (pre : List α) (x : α) (post : List α) (a' : Act) (W : World), xs = pre ++ x :: post → w.heap.size ≤ W.heap.size → I pre W → Ax x a' W → body.wpIn (Fence.wide.inRound l) m Try.prog (roundEnd w.heap.size I Ix (pre ++ [x]) W) a' W)
    (hdone : ∀ (D : Nat) (W : World), w.heap.size ≤ D → I xs W → W.heap[D]? = some (.deferred (some [])) → Q .normal { a with defers := { target := .collected D, args := #[] } :: a.defers } W)
    (hstop : ∀ (D : Nat) (W : World), w.heap.size ≤ D → Ix W → W.heap[D]? = some (.deferred (some [])) → Code.ret.wpIn Fence.wide n Try.prog Q { a with defers := { target := .collected D, args := #[] } :: a.defers } W) :
    (Code.rangeFunc g ps assign body).wpIn Fence.wide n Try.prog Q a w := by
  refine wpIn_rangeFunc ?_
  intro fn hfn
  obtain ⟨rec, hrec⟩ : ∃ rec : LoopState → Option Code → Loop, rec = fun st pe => { state := st, pending := pe, fn, tmps := a.tmps, params := ps, assign, body, defers := w.heap.size } := ⟨_, rfl⟩
  obtain ⟨W1, hW1⟩ : ∃ W1, (w.alloc (.deferred (some []))).alloc (.loop (rec .ready none)) = W1 := ⟨_, rfl⟩
  have hL1 : W1.heap[w.heap.size + 1]? = some (.loop (rec .ready none)) := by
    rw [← hW1]; have := World.alloc_heap_new (w.alloc (.deferred (some []))) (.loop (rec .ready none)); rwa [World.size_alloc] at this
  have hK1 : W1.heap[w.heap.size]? = some (.deferred (some [])) := by
    rw [← hW1]; exact (Below.heap_alloc _ _ _ (by simp)).trans (World.alloc_heap_new w _)
  have hS1 : W1.heap.size = w.heap.size + 2 := by rw [← hW1]; simp
  have hI1 : I [] W1 := by rw [← hW1]; exact hI.alloc _ (hI.alloc _ h0)
  refine ⟨w.heap.size + 1, [{ target := .collected w.heap.size, args := #[] }], W1, { target := .fn (.func gf) lb, args := #[.func (.yield (w.heap.size + 1)) #[] #[]] }, W1, gf,
    #[.func (.yield (w.heap.size + 1)) #[] #[]] ++ lb, W1, ?_, ?_, ?_, ?_, (fun h => by cases h), ?_⟩
  · rw [← hW1, hrec]; exact run_enterLoop_outer _ _ _ _ _
  · simp only [resolve, hg]
    simp [go_sem]
  · intro f' _; exact trivial
  · simp [invoke, go_sem, eg]
  · have keep : ∀ {k : Nat} {o : Obj} {A B : World} {row : Option Nat}, k < w.heap.size + 2 → A.grownBy B row → (∀ r, row = some r → W1.heap.size ≤ r ∧ ∃ o : Obj, A.heap[r]? = some o ∧ o.isCells = false) → A.heap[k]? = some o → B.heap[k]? = some o := by
      intro k o A B row hk hg hr h
      refine (hg.block k (Array.getElem?_eq_some_iff.1 h).1 (fun e => ?_)).trans h
      have := (hr k e.symm).1
      omega
    have low : ∀ {A : World} {row : Option Nat}, (∀ r, row = some r → W1.heap.size ≤ r ∧ ∃ o : Obj, A.heap[r]? = some o ∧ o.isCells = false) → (∀ r, row = some r → w.heap.size ≤ r ∧ ∃ o : Obj, A.heap[r]? = some o ∧ o.isCells = false) :=
      fun hr r e => ⟨by have := (hr r e).1; omega, (hr r e).2⟩
    refine (hseq (n - 1) (w.heap.size + 1)
      (fun pre W => I pre W ∧ W.heap[w.heap.size + 1]? = some (.loop (rec .ready none)) ∧ W.heap[w.heap.size]? = some (.deferred (some [])))
      (fun W => Ix W ∧ W.heap[w.heap.size + 1]? = some (.loop (rec .done (some .ret))) ∧ W.heap[w.heap.size]? = some (.deferred (some [])))
      W1 (fun pre A h => hC pre A h.1)
      (fun s A B row hs hg' hr => ⟨hI s A B row hs.1 hg' (low hr), keep (by omega) hg' hr hs.2.1, keep (by omega) hg' hr hs.2.2⟩)
      (fun s A B row hs hg' hr => ⟨hIx s A B row hs.1 hg' (low hr), keep (by omega) hg' hr hs.2.1, keep (by omega) hg' hr hs.2.2⟩)
      ?_ ⟨hI1, hL1, hK1⟩).mono ?_
    · -- a round
      rintro m pre x post W hx ⟨hi, hl, hd⟩
      have hlt : w.heap.size + 1 < W.heap.size := (Array.getElem?_eq_some_iff.1 hl).1
      have hy := run_yield (P := Try.prog) (args := #[enc x]) hl (by rw [hrec]; simp [hps])
      rw [hrec] at hy
      refine ⟨fn, _, assign, body, hy, roundIn_of_wpIn hfn (hassign m _ pre x W _ (by omega) hi ?_)⟩
      intro a' Wa hka hia hax
      have hla := hka.at_ (by omega) hl rfl
      have hda := hka.at_ (Nat.le_refl _) hd rfl
      have hlta : w.heap.size + 1 < Wa.heap.size := (Array.getElem?_eq_some_iff.1 hla).1
      refine ⟨_, run_beginRound hla (by rw [hrec]), ?_⟩
      obtain ⟨W2, hW2⟩ : ∃ W2, Wa.putObj (w.heap.size + 1) (.loop { rec .ready none with state := .busy }) = W2 := ⟨_, rfl⟩
      have hl2 : W2.heap[w.heap.size + 1]? = some (.loop { rec .ready none with state := .busy }) := by rw [← hW2]; exact World.putObj_heap_same hlta
      have hd2 : W2.heap[w.heap.size]? = some (.deferred (some [])) := by rw [← hW2]; exact (World.putObj_heap_other (by omega)).trans hda
      have hs2 : W2.heap.size = Wa.heap.size := by rw [← hW2]; simp
      have hi2 : I pre W2 := by rw [← hW2]; exact hI.putObj _ hia (by omega) hla rfl
      have hx2 : Ax x a' W2 := by rw [← hW2]; exact (hAx x a').putObj (s := ()) _ hax (by omega) hla rfl
      rw [hW2]
      refine wpIn_mono (hbody m _ pre x post a' W2 hx (by omega) hi2 hx2) ?_
      rintro e a3 W3 hp
      have mid : ∀ o : Obj, Mid w.heap.size W2 W3 → Mid W1.heap.size W (W3.putObj (w.heap.size + 1) o) := fun o hk =>
        ((hka.mono (by omega)).trans (by rw [← hW2]; exact Mid.putObj _ _ (by omega) _)).trans ((hk.mono (by omega)).trans (Mid.putObj _ _ (by omega) _))
      have fin : ∀ jump : Option Code, Mid w.heap.size W2 W3 →
          (Instr.endRound (w.heap.size + 1) jump).run Try.prog W3 = .ok (.bool jump.isNone) (W3.putObj (w.heap.size + 1) (.loop (rec (if jump.isNone then .ready else .done) jump))) ∧
          W3.heap[w.heap.size + 1]? = some (.loop { rec .ready none with state := .busy }) ∧ W3.heap[w.heap.size]? = some (.deferred (some [])) := fun jump hk => by
        have hl3 := hk.at_ (by omega) hl2 rfl
        have hd3 := hk.at_ (Nat.le_refl _) hd2 rfl
        have := run_endRound (P := Try.prog) jump hl3
        refine ⟨?_, hl3, hd3⟩
        rw [hrec] at this ⊢; exact this
      cases e with
      | normal =>
        obtain ⟨hk, hi3⟩ := hp
        obtain ⟨hr, hl3, hd3⟩ := fin none hk
        have hlt3 := (Array.getElem?_eq_some_iff.1 hl3).1
        exact ⟨_, _, hr, .inl ⟨rfl, ⟨hI.putObj _ hi3 (by omega) hl3 rfl, World.putObj_heap_same hlt3, (World.putObj_heap_other (by omega)).trans hd3⟩, mid _ hk⟩⟩
      | ret =>
        obtain ⟨hk, hi3⟩ := hp
        obtain ⟨hr, hl3, hd3⟩ := fin (some .ret) hk
        have hlt3 := (Array.getElem?_eq_some_iff.1 hl3).1
        exact ⟨_, _, hr, .inr ⟨rfl, ⟨hIx.putObj (s := ()) _ hi3 (by omega) hl3 rfl, World.putObj_heap_same hlt3, (World.putObj_heap_other (by omega)).trans hd3⟩, mid _ hk⟩⟩
      | exit id => exact hp.elim
      | goto l => exact hp.elim
      | panic ch => exact hp.elim
      | outgrown => exact hp.elim
    · -- behind the iterator
      rintro e W2 ⟨⟨v, rfl⟩, (⟨hi, hl, hd⟩ | ⟨hi, hl, hd⟩)⟩
      · have := run_endLoop (P := Try.prog) hl (by rw [hrec]; simp)
        refine ⟨none, _, by rw [hrec] at this; exact this, hdone _ _ (Nat.le_refl _) (hI.putObj _ hi (by omega) hl rfl) ((World.putObj_heap_other (by omega)).trans hd)⟩
      · have := run_endLoop (P := Try.prog) hl (by rw [hrec]; simp)
        refine ⟨some .ret, _, by rw [hrec] at this; exact this, hstop _ _ (Nat.le_refl _) (hIx.putObj (s := ()) _ hi (by omega) hl rfl) ((World.putObj_heap_other (by omega)).trans hd)⟩

end Go.Proofs.Ythokapebcplmkaa
