/- An iterator over ligatures that it keeps in memory of its own: its contract, and the loop's law over it. -/
import Derived.Test.YtedkcnphplpacaaCSeq
import Derived.Test.YtedkcnphplpacaaLgLst
namespace Go.Proofs.Ytedkcnphplpacaa
open Go.RowKit Go.Shelf
attribute [local go_sem] Oper.semAt_some

/-- All as it was but the K blocks from n on. -/
structure Off (n K : Nat) (A B : World) : Prop where
  os : B.os = A.os
  tape : B.tape = A.tape
  output : B.output = A.output
  size : A.heap.size ≤ B.heap.size
  same : ∀ k, k < A.heap.size → (k < n ∨ n + K ≤ k) → B.heap[k]? = A.heap[k]?
theorem Off.bel {n K : Nat} {A B : World} (b : Below A.heap.size A B) : Off n K A B := ⟨b.os, b.tape, b.output, b.size, fun k hk _ => b.block k hk⟩
theorem Off.trans {n K : Nat} {A B C : World} (h : Off n K A B) (k : Off n K B C) : Off n K A C :=
  ⟨k.os.trans h.os, k.tape.trans h.tape, k.output.trans h.output, Nat.le_trans h.size k.size, fun i hi ho => (k.same i (Nat.lt_of_lt_of_le hi h.size) ho).trans (h.same i hi ho)⟩
theorem Off.set {n K : Nat} (A : World) {c : Nat} (h1 : n ≤ c) (h2 : c < n + K) (j : Nat) (u : Value) : Off n K A (A.setCell ⟨c, j, none⟩ u) :=
  ⟨rfl, rfl, rfl, by simp, fun k hk ho => Below.heap_setCell _ _ _ _ (by simp only; omega)⟩
theorem Off.sets {n K : Nat} (c : Nat) (h1 : n ≤ c) (h2 : c < n + K) : ∀ (vs : List Value) (o : Nat) (A : World), Off n K A (A.setCells c o vs)
  | [], _, _ => ⟨rfl, rfl, rfl, Nat.le_refl _, fun _ _ _ => rfl⟩
  | v :: t, o, A => (Off.set A h1 h2 o v).trans (Off.sets c h1 h2 t (o + 1) _)
theorem Off.keep {n K k : Nat} {A B : World} {o : Obj} (h : Off n K A B) (hk : k < n) (ho : A.heap[k]? = some o) : B.heap[k]? = some o :=
  (h.same k (Array.getElem?_eq_some_iff.1 ho).1 (.inl hk)).trans ho
theorem Off.keepB {n K k : Nat} {A B : World} {t : TypeId} {cs : Array Value} (h : Off n K A B) (hk : k < n ∨ n + K ≤ k) (ho : HoldsB A k t cs) : HoldsB B k t cs := (h.same k ho.lt hk).trans ho
theorem Off.below {n K : Nat} {w A B : World} (h : Off n K A B) (hw : w.heap.size ≤ n) (b : Below w.heap.size w A) : Below w.heap.size w B :=
  ⟨h.os.trans b.os, h.tape.trans b.tape, h.output.trans b.output, Nat.le_trans b.size h.size, fun k hk => (h.same k (Nat.lt_of_lt_of_le hk b.size) (.inl (by omega))).trans (b.block k hk)⟩
theorem Off.ownK {n K base : Nat} {A B : World} {e : TypeId} {k : Nat} {v : Value} {m : Nat} {xs : List Value} (h : Off n K A B) (hb : n + K ≤ base) (ho : A.ownsRow base e k v m xs) : B.ownsRow base e k v m xs := by
  refine ⟨ho.1, ?_⟩
  rcases ho.2 with h2 | ⟨g, cap, cur, hv, hg, hh, r⟩
  · exact .inl h2
  · exact .inr ⟨g, cap, cur, hv, hg, (h.same g (Array.getElem?_eq_some_iff.1 hh).1 (.inr (by omega))).trans hh, r⟩
/-- A slice that lies below n. -/
def LowS (n : Nat) (A : World) (k : Nat) (p : Option Addr) (m cap : Nat) (cs : List Value) : Prop := SlP A k p m cap cs ∧ ∀ a, p = some a → a.block < n
theorem LowS.off {n K : Nat} {A B : World} {k : Nat} {p : Option Addr} {m cap : Nat} {cs : List Value} (h : LowS n A k p m cap cs) (o : Off n K A B) : LowS n B k p m cap cs := by
  obtain ⟨h, hl⟩ := h
  refine ⟨⟨h.len, h.fit, h.max, h.nil, h.one, fun h0 => ?_⟩, hl⟩
  obtain ⟨b, off, e, hb, hu⟩ := h.at_ h0
  have hbn := hl _ e
  exact ⟨b, off, e, Nat.lt_of_lt_of_le hb o.size, fun j u hj => (World.cell?_of_block (w := A) (w' := B) (o.same b hb (.inl hbn))).trans (hu j u hj)⟩

/-- The value v is a ligature, which may be read. -/
def SgR (n : Nat) (A : World) (v : Value) (x : List Sg) : Prop := ∃ q cap, n ≤ q ∧ v = .slice (some ⟨q, 0, none⟩) x.length cap ∧ SlP A 17 (some ⟨q, 0, none⟩) x.length cap (flatG x) ∧ 0 < x.length ∧ ∃ cs, HoldsB A q 30 cs
theorem sl_of_block {A B : World} {k q : Nat} {m cap : Nat} {cs : List Value} (h : SlP A k (some ⟨q, 0, none⟩) m cap cs) (e : B.heap[q]? = A.heap[q]?) (hs : A.heap.size ≤ B.heap.size) : SlP B k (some ⟨q, 0, none⟩) m cap cs := by
  refine ⟨h.len, h.fit, h.max, h.nil, h.one, fun h0 => ?_⟩
  obtain ⟨b, off, e1, hb, hu⟩ := h.at_ h0
  injection e1 with e1
  injection e1 with e1 e2 _
  subst e1 e2
  exact ⟨q, 0, rfl, Nat.lt_of_lt_of_le hb hs, fun j u hj => (World.cell?_of_block (w := A) (w' := B) e).trans (hu j u hj)⟩
theorem SgR.block {n : Nat} {A B : World} {v : Value} {x : List Sg} (h : SgR n A v x) (k : ∀ q cs, n ≤ q → HoldsB A q 30 cs → HoldsB B q 30 cs) (hs : A.heap.size ≤ B.heap.size) : SgR n B v x := by
  obtain ⟨q, cap, hn, e, hsl, h0, cs, hc⟩ := h
  have hc' := k q cs hn hc
  exact ⟨q, cap, hn, e, sl_of_block hsl (hc'.trans hc.symm) hs, h0, cs, hc'⟩
theorem SgR.later {n : Nat} {A B : World} {v : Value} {x : List Sg} (h : SgR n A v x) (b : Below A.heap.size A B) : SgR n B v x := h.block (fun _ _ _ hc => hc.later b) b.size
theorem SgR.mid {n n' : Nat} {A B : World} {v : Value} {x : List Sg} (h : SgR n A v x) (hm : Mid n' A B) (hn : n' ≤ n) : SgR n B v x :=
  h.block (fun q _ hq hc => hm.same q _ (Nat.le_trans hn hq) hc rfl) hm.size
theorem sgR_put {n : Nat} {A : World} {v : Value} {x : List Sg} {l : Nat} (o : Obj) (h : SgR n A v x) {o1 : Obj} (hl : A.heap[l]? = some o1) (hc : o1.isCells = false) : SgR n (A.putObj l o) v x :=
  h.block (fun q cs _ hq => by
    refine (World.putObj_heap_other (fun e => ?_)).trans hq
    have h2 : A.heap[l]? = some (.cells cs 30 (0, 0)) := by first | (rw [e]; exact hq) | (rw [← e]; exact hq)
    rw [h2] at hl
    cases hl; cases hc) (by simp)

/-- The iterator g, which has captured lb, gives just the ligatures xs, each in memory that the next one may use again; its own are K blocks from its call's heap on; it reads what C says of the world. -/
def GivesS (g : Nat) (lb : Array Value) (K : Nat) (xs : List (List Sg)) (C : World → Prop) : Prop :=
  ∀ (l : Nat) (J : List (List Sg) → World → Prop) (Jx : World → Prop) (W : World),
    (∀ pre A, J pre A → C A) → (∀ pre A B, J pre A → Off W.heap.size K A B → J pre B) → (∀ A B, Jx A → Off W.heap.size K A B → Jx B) →
    (∀ (m : Nat) pre x post A v, xs = pre ++ x :: post → J pre A → W.heap.size + K ≤ A.heap.size → SgR W.heap.size A v x → YieldAt Fence.wide m Try.prog l #[v] A fun e B => (e = .returned (.bool true) ∧ J (pre ++ [x]) B ∧ Mid W.heap.size A B) ∨ (e = .returned (.bool false) ∧ Jx B ∧ Mid W.heap.size A B)) →
    J [] W →
    Calls Try.prog g (#[.func (.yield l) #[] #[]] ++ lb) W fun e B => (∃ v, e = .returned v) ∧ (J xs B ∨ Jx B)

set_option maxHeartbeats 1000000 in
theorem wpIn_givesS {gf : Nat} {lb : Array Value} {Kn : Nat} {xs : List (List Sg)} {C : World → Prop} (hseq : GivesS gf lb Kn xs C)
    {n : Nat} {g : Operand} {ps : Array Tmp} {assign body : Code} {Q : Exit → Act → World → Prop} {a : Act} {w : World}
    (hg : a.eval g = .func (.func gf) #[] lb) (eg : ∀ args w, (callFunc gf args).run Try.prog w = .ok (.enter gf args) w) (hps : ps.size = 1)
    (I : List (List Sg) → World → Prop) (Ix : World → Prop) (hC : ∀ pre A, I pre A → C A) (hI : OwnFrom w.heap.size I) (hIo : ∀ pre A B, I pre A → Off (w.heap.size + 2) Kn A B → I pre B) (hIxo : ∀ A B, Ix A → Off (w.heap.size + 2) Kn A B → Ix B) (hIx : OwnFrom w.heap.size (fun (_ : Unit) A => Ix A)) (h0 : I [] w)
    (Ax : Value → List Sg → Act → World → Prop) (hAx : ∀ v x a', OwnFrom w.heap.size (fun (_ : Unit) A => Ax v x a' A))
    (hassign : ∀ (m l : Nat) (pre : List (List Sg)) (v : Value) (x : List Sg) (W : World) (K : Act → World → Prop), w.heap.size + 2 + Kn ≤ W.heap.size → SgR (w.heap.size + 2) W v x → I pre W → (∀ a' W', Mid w.heap.size W W' → I pre W' → Ax v x a' W' → K a' W') →
      assign.wpIn (Fence.wide.inRound l) m Try.prog (Exit.then K (fun _ _ _ => False)) { tmps := (ps.zip #[v]).foldl (fun t (p, v) => t.setIfInBounds p v) a.tmps, defers := [] } W)
    (hbody : ∀ (m l : Nat) (pre : List (List Sg)) (v : Value) (x : List Sg) (post : List (List Sg)) (a' : Act) (W : World), xs = pre ++ x :: post → w.heap.size + 2 + Kn ≤ W.heap.size → SgR (w.heap.size + 2) W v x → I pre W → Ax v x a' W → body.wpIn (Fence.wide.inRound l) m Try.prog (roundEnd w.heap.size I Ix (pre ++ [x]) W) a' W)
    (hdone : ∀ (D : Nat) (W : World), w.heap.size ≤ D → I xs W → W.heap[D]? = some (.deferred (some [])) → Q .normal { a with defers := { target := .collected D, args := #[] } :: a.defers } W)
    (hstop : ∀ (D : Nat) (W : World), w.heap.size ≤ D → Ix W → W.heap[D]? = some (.deferred (some [])) → Code.ret.wpIn Fence.wide n Try.prog Q { a with defers := { target := .collected D, args := #[] } :: a.defers } W) :
    (Code.rangeFunc g ps assign body).wpIn Fence.wide n Try.prog Q a w := by
  refine wpIn_rangeFunc ?_
  intro fn hfn
  obtain ⟨rec, hrec⟩ : ∃ rec : LoopState → Option Code → Loop, rec = fun st pe => { state := st, pending := pe, fn, tmps := a.tmps, params := ps, assign, body, defers := w.heap.size } := ⟨_, rfl⟩
  obtain ⟨W1, hW1⟩ : ∃ W1, (w.alloc (.deferred (some []))).alloc (.loop (rec .ready none)) = W1 := ⟨_, rfl⟩
  have hL1 : W1.heap[w.heap.size + 1]? = some (.loop (rec .ready none)) := by
    rw [← hW1]; have := World.alloc_heap_new (w.alloc (.deferred (some []))) (.loop (rec .ready none)); rwa [World.size_alloc] at this
  have hK1 : W1.heap[w.heap.size]? = some (.deferred (some [])) := by
    rw [← hW1]; exact (Below.heap_alloc _ _ _ (by simp)).trans (World.alloc_heap_new w _)
  have hS1 : W1.heap.size = w.heap.size + 2 := by rw [← hW1]; simp
  have hI1 : I [] W1 := by rw [← hW1]; exact hI.alloc _ (hI.alloc _ h0)
  refine ⟨w.heap.size + 1, [{ target := .collected w.heap.size, args := #[] }], W1, { target := .fn (.func gf) lb, args := #[.func (.yield (w.heap.size + 1)) #[] #[]] }, W1, gf,
    #[.func (.yield (w.heap.size + 1)) #[] #[]] ++ lb, W1, ?_, ?_, ?_, ?_, (fun h => by cases h), ?_⟩
  · rw [← hW1, hrec]; exact run_enterLoop_outer _ _ _ _ _
  · simp only [resolve, hg]
    simp [go_sem]
  · intro f' _; exact trivial
  · simp [invoke, go_sem, eg]
  · refine (callsIn_wide.2 (hseq (w.heap.size + 1)
      (fun pre W => I pre W ∧ W.heap[w.heap.size + 1]? = some (.loop (rec .ready none)) ∧ W.heap[w.heap.size]? = some (.deferred (some [])))
      (fun W => Ix W ∧ W.heap[w.heap.size + 1]? = some (.loop (rec .done (some .ret))) ∧ W.heap[w.heap.size]? = some (.deferred (some [])))
      W1 (fun pre A h => hC pre A h.1)
      (fun pre A B hs ho => ⟨hIo pre A B hs.1 (hS1 ▸ ho), ho.keep (by omega) hs.2.1, ho.keep (by omega) hs.2.2⟩)
      (fun A B hs ho => ⟨hIxo A B hs.1 (hS1 ▸ ho), ho.keep (by omega) hs.2.1, ho.keep (by omega) hs.2.2⟩)
      ?_ ⟨hI1, hL1, hK1⟩)).mono ?_
    · -- a round
      rintro m pre x post W v hx ⟨hi, hl, hd⟩ hsz hr
      have hlt : w.heap.size + 1 < W.heap.size := (Array.getElem?_eq_some_iff.1 hl).1
      have hy := run_yield (P := Try.prog) (args := #[v]) hl (by rw [hrec]; simp [hps])
      rw [hrec] at hy
      refine ⟨fn, _, assign, body, hy, roundIn_of_wpIn hfn (hassign m _ pre v x W _ (by omega) (hS1 ▸ hr) hi ?_)⟩
      intro a' Wa hka hia hax
      have hla := hka.at_ (by omega) hl rfl
      have hda := hka.at_ (Nat.le_refl _) hd rfl
      have hlta : w.heap.size + 1 < Wa.heap.size := (Array.getElem?_eq_some_iff.1 hla).1
      refine ⟨_, run_beginRound hla (by rw [hrec]), ?_⟩
      obtain ⟨W2, hW2⟩ : ∃ W2, Wa.putObj (w.heap.size + 1) (.loop { rec .ready none with state := .busy }) = W2 := ⟨_, rfl⟩
      have hl2 : W2.heap[w.heap.size + 1]? = some (.loop { rec .ready none with state := .busy }) := by rw [← hW2]; exact World.putObj_heap_same hlta
      have hd2 : W2.heap[w.heap.size]? = some (.deferred (some [])) := by rw [← hW2]; exact (World.putObj_heap_other (by omega)).trans hda
      have hs2 : W2.heap.size = Wa.heap.size := by rw [← hW2]; simp
      have hi2 : I pre W2 := by rw [← hW2]; exact hI.putObj _ hia (by omega) hla rfl
      have hx2 : Ax v x a' W2 := by rw [← hW2]; exact (hAx v x a').putObj (s := ()) _ hax (by omega) hla rfl
      rw [hW2]
      refine wpIn_mono (hbody m _ pre v x post a' W2 hx (by have := hka.size; omega) (hW2 ▸ sgR_put _ (SgR.mid (hS1 ▸ hr) hka (by omega)) hla rfl) hi2 hx2) ?_
      rintro e a3 W3 hp
      have mid : ∀ o : Obj, Mid w.heap.size W2 W3 → Mid W1.heap.size W (W3.putObj (w.heap.size + 1) o) := fun o hk =>
        ((hka.mono (by omega)).trans (by rw [← hW2]; exact Mid.putObj _ _ (by omega) _)).trans ((hk.mono (by omega)).trans (Mid.putObj _ _ (by omega) _))
      have fin : ∀ jump : Option Code, Mid w.heap.size W2 W3 →
          (Instr.endRound (w.heap.size + 1) jump).run Try.prog W3 = .ok (.bool jump.isNone) (W3.putObj (w.heap.size + 1) (.loop (rec (if jump.isNone then .ready else .done) jump))) ∧
          W3.heap[w.heap.size + 1]? = some (.loop { rec .ready none with state := .busy }) ∧ W3.heap[w.heap.size]? = some (.deferred (some [])) := fun jump hk => by
        have hl3 := hk.at_ (by omega) hl2 rfl
        have hd3 := hk.at_ (Nat.le_refl _) hd2 rfl
        have := run_endRound (P := Try.prog) jump hl3
        refine ⟨?_, hl3, hd3⟩
        rw [hrec] at this ⊢; exact this
      cases e with
      | normal =>
        obtain ⟨hk, hi3⟩ := hp
        obtain ⟨hr, hl3, hd3⟩ := fin none hk
        have hlt3 := (Array.getElem?_eq_some_iff.1 hl3).1
        exact ⟨_, _, hr, .inl ⟨rfl, ⟨hI.putObj _ hi3 (by omega) hl3 rfl, World.putObj_heap_same hlt3, (World.putObj_heap_other (by omega)).trans hd3⟩, mid _ hk⟩⟩
      | ret =>
        obtain ⟨hk, hi3⟩ := hp
        obtain ⟨hr, hl3, hd3⟩ := fin (some .ret) hk
        have hlt3 := (Array.getElem?_eq_some_iff.1 hl3).1
        exact ⟨_, _, hr, .inr ⟨rfl, ⟨hIx.putObj (s := ()) _ hi3 (by omega) hl3 rfl, World.putObj_heap_same hlt3, (World.putObj_heap_other (by omega)).trans hd3⟩, mid _ hk⟩⟩
      | exit id => exact hp.elim
      | goto l => exact hp.elim
      | panic ch => exact hp.elim
      | outgrown => exact hp.elim
    · -- behind the iterator
      rintro e W2 ⟨⟨v, rfl⟩, (⟨hi, hl, hd⟩ | ⟨hi, hl, hd⟩)⟩
      · have := run_endLoop (P := Try.prog) hl (by rw [hrec]; simp)
        refine ⟨none, _, by rw [hrec] at this; exact this, hdone _ _ (Nat.le_refl _) (hI.putObj _ hi (by omega) hl rfl) ((World.putObj_heap_other (by omega)).trans hd)⟩
      · have := run_endLoop (P := Try.prog) hl (by rw [hrec]; simp)
        refine ⟨some .ret, _, by rw [hrec] at this; exact this, hstop _ _ (Nat.le_refl _) (hIx.putObj (s := ()) _ hi (by omega) hl rfl) ((World.putObj_heap_other (by omega)).trans hd)⟩

end Go.Proofs.Ytedkcnphplpacaa
