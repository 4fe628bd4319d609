/- The tables of the reference's search in memory. -/
import Derived.Test.YtaldbjhalpgkeaaDoorGMem
import Derived.Test.YtaldbjhalpgkeaaDoorGDp
import Derived.Deep.OwnRows
import Derived.Deep.Onto
namespace Go.Proofs.YtaldbjhalpgkeaaDoor
open Go.RowKit

abbrev ints (zs : List Int) : List Value := zs.map (Value.int .i64)
abbrev ptL (l : List Pi3) (q : Nat) : Pi3 := l.getD q (0, 0, 0)
/-- What stands for the places from c on. -/
structure Tb (w0 w : World) (l : List Pi3) (cA c : Nat) (fA fB fC : Nat → Value) : Prop where
  bel : Below w0.heap.size w0 w
  rA : w.rowIs w0.heap.size 29 l.length fA
  rB : w.rowIs (w0.heap.size + 1) 43 l.length fB
  rC : w.rowIs (w0.heap.size + 2) 43 l.length fC
  uA : ∀ q, cA ≤ q → q < l.length → w.ownsRow (w0.heap.size + 3) 25 2 (fA q) (waysL (ptL l q)).length (flatS (waysL (ptL l q)))
  uB : ∀ q, c ≤ q → q < l.length → w.ownsRow (w0.heap.size + 3) 3 1 (fB q) (waysL (ptL l q)).length (ints (manyL l q))
  uC : ∀ q, c ≤ q → q < l.length → w.ownsRow (w0.heap.size + 3) 3 1 (fC q) (waysL (ptL l q)).length (ints (roughL l q))
  lo : ∀ q, q < c → fB q = .slice none 0 0 ∧ fC q = .slice none 0 0

theorem Tb.later {w0 w w1 : World} {l : List Pi3} {cA c : Nat} {fA fB fC : Nat → Value} (h : Tb w0 w l cA c fA fB fC) (b : Below w.heap.size w w1) : Tb w0 w1 l cA c fA fB fC :=
  ⟨w_below h.bel b, h.rA.of_block (b.block _ h.rA.lt), h.rB.of_block (b.block _ h.rB.lt), h.rC.of_block (b.block _ h.rC.lt),
    fun q h1 h2 => own_keep (h.uA q h1 h2) b (Nat.le_refl _), fun q h1 h2 => own_keep (h.uB q h1 h2) b (Nat.le_refl _), fun q h1 h2 => own_keep (h.uC q h1 h2) b (Nat.le_refl _), h.lo⟩

/-- A list that is owned and whose block is as it was. -/
theorem own_block {w w1 : World} {base size : Nat} {e : TypeId} {v : Value} {n : Nat} {xs : List Value} (h : w.ownsRow base e size v n xs)
    (k : ∀ b, base ≤ b → b < w.heap.size → w1.heap[b]? = w.heap[b]?) : w1.ownsRow base e size v n xs := by
  refine ⟨h.1, ?_⟩
  rcases h.2 with hn | ⟨g, cap, cur, hv, hb, hg, rest⟩
  · exact .inl hn
  · exact .inr ⟨g, cap, cur, hv, hb, by rw [k g hb (Array.getElem?_eq_some_iff.1 hg).1]; exact hg, rest⟩
theorem own_lift {w : World} {base base' size : Nat} {e : TypeId} {v : Value} {n : Nat} {xs : List Value} (h : w.ownsRow base e size v n xs) (hb : base' ≤ base) : w.ownsRow base' e size v n xs := h.mono hb

/-- While the rows of one place are filled: xB, xC are the rows as they grow, vB, vC what the tables hold for the place. -/
structure Zz (w0 Wi w : World) (n i : Nat) (fB fC : Nat → Value) (vB vC xB xC : Value) (nB nC : Nat) (csB csC : List Value) : Prop where
  low : w0.heap.size + 3 ≤ Wi.heap.size
  bel : Below w0.heap.size w0 w
  sz : Wi.heap.size ≤ w.heap.size
  fr : ∀ b, b < Wi.heap.size → b ≠ w0.heap.size + 1 → b ≠ w0.heap.size + 2 → w.heap[b]? = Wi.heap[b]?
  rB : w.rowIs (w0.heap.size + 1) 43 n (fun q => if q = i then vB else fB q)
  rC : w.rowIs (w0.heap.size + 2) 43 n (fun q => if q = i then vC else fC q)
  oB : w.ownsRow Wi.heap.size 3 1 xB nB csB
  oC : w.ownsRow Wi.heap.size 3 1 xC nC csC
  sep : ∀ b, xB.ownBlock = some b → xC.ownBlock ≠ some b

section
variable {w0 Wi w w1 wa w2 : World} {n i : Nat} {fB fC : Nat → Value} {vB vC xB xC x' : Value} {nB nC m : Nat} {csB csC news : List Value}

theorem Zz.later (h : Zz w0 Wi w n i fB fC vB vC xB xC nB nC csB csC) (b : Below w.heap.size w w1) : Zz w0 Wi w1 n i fB fC vB vC xB xC nB nC csB csC :=
  ⟨h.low, w_below h.bel b, Nat.le_trans h.sz b.size, fun k h1 h2 h3 => (b.block k (Nat.lt_of_lt_of_le h1 h.sz)).trans (h.fr k h1 h2 h3),
    h.rB.of_block (b.block _ h.rB.lt), h.rC.of_block (b.block _ h.rC.lt), own_keep h.oB b (Nat.le_refl _), own_keep h.oC b (Nat.le_refl _), h.sep⟩

theorem Zz.grow {x : Value} (h : Zz w0 Wi w n i fB fC vB vC xB xC nB nC csB csC) (hx : ∀ b, x.ownBlock = some b → Wi.heap.size ≤ b) (hg : w.grownBy w2 x.ownBlock) :
    Below w0.heap.size w0 w2 ∧ Wi.heap.size ≤ w2.heap.size ∧ (∀ b, b < Wi.heap.size → b ≠ w0.heap.size + 1 → b ≠ w0.heap.size + 2 → w2.heap[b]? = Wi.heap[b]?) ∧
    w2.rowIs (w0.heap.size + 1) 43 n (fun q => if q = i then vB else fB q) ∧ w2.rowIs (w0.heap.size + 2) 43 n (fun q => if q = i then vC else fC q) := by
  have hl := h.low
  have hs := h.sz
  have hb : ∀ b, b < Wi.heap.size → w2.heap[b]? = w.heap[b]? := fun b hb => hg.block b (by omega) (fun e => by have := hx b e.symm; omega)
  exact ⟨h.bel.grown hg h.bel.size (fun k e => by have := hx k e; omega), Nat.le_trans h.sz hg.size, fun b h1 h2 h3 => (hb b h1).trans (h.fr b h1 h2 h3),
    h.rB.of_block (hb _ (by omega)), h.rC.of_block (hb _ (by omega))⟩

/-- An append to the row of many. -/
theorem Zz.appB (h : Zz w0 Wi w n i fB fC vB vC xB xC nB nC csB csC) (hown : w2.ownsRow Wi.heap.size 3 1 x' m (csB ++ news)) (hg : w.grownBy w2 xB.ownBlock)
    (hat : x'.ownBlock = xB.ownBlock ∨ x'.ownBlock = some w.heap.size) : Zz w0 Wi w2 n i fB fC vB vC x' xC m nC (csB ++ news) csC := by
  obtain ⟨h1, h2, h3, h4, h5⟩ := h.grow (fun b e => (h.oB.lt b e).1) hg
  refine ⟨h.low, h1, h2, h3, h4, h5, hown, h.oC.kept hg ?_, fun b hb hc => ?_⟩
  · cases e : xC.ownBlock with
    | none => exact .inl rfl
    | some b => exact .inr fun e2 => h.sep b e2.symm e
  · rcases hat with k | k
    · rw [k] at hb; exact h.sep b hb hc
    · rw [k] at hb
      simp only [Option.some.injEq] at hb
      have := (h.oC.lt b hc).2
      omega
/-- An append to the row of rough. -/
theorem Zz.appC (h : Zz w0 Wi w n i fB fC vB vC xB xC nB nC csB csC) (hown : w2.ownsRow Wi.heap.size 3 1 x' m (csC ++ news)) (hg : w.grownBy w2 xC.ownBlock)
    (hat : x'.ownBlock = xC.ownBlock ∨ x'.ownBlock = some w.heap.size) : Zz w0 Wi w2 n i fB fC vB vC xB x' nB m csB (csC ++ news) := by
  obtain ⟨h1, h2, h3, h4, h5⟩ := h.grow (fun b e => (h.oC.lt b e).1) hg
  refine ⟨h.low, h1, h2, h3, h4, h5, h.oB.kept hg ?_, hown, fun b hb hc => ?_⟩
  · cases e : xB.ownBlock with
    | none => exact .inl rfl
    | some b => exact .inr fun e2 => h.sep b e e2.symm
  · rcases hat with k | k
    · rw [k] at hc; exact h.sep b hb hc
    · rw [k] at hc
      simp only [Option.some.injEq] at hc
      have := (h.oB.lt b hb).2
      omega
/-- The rows are put into the tables. -/
theorem Zz.putB (h : Zz w0 Wi w n i fB fC vB vC xB xC nB nC csB csC) : Zz w0 Wi (w.setCell ⟨w0.heap.size + 1, i, none⟩ xB) n i fB fC xB vC xB xC nB nC csB csC := by
  have hl := h.low
  have hs := h.sz
  have hb : ∀ b, b ≠ w0.heap.size + 1 → (w.setCell ⟨w0.heap.size + 1, i, none⟩ xB).heap[b]? = w.heap[b]? := fun b hb => Deep.blk_setCell_other _ _ _ _ hb
  refine ⟨h.low, w_set h.bel (by show w0.heap.size ≤ w0.heap.size + 1; omega) _, by simpa using h.sz, fun b h1 h2 h3 => (hb b h2).trans (h.fr b h1 h2 h3), (h.rB.set i xB).congr fun j _ => ?_, h.rC.of_block (hb _ (by omega)),
    own_block h.oB fun b h1 h2 => hb b (by omega), own_block h.oC fun b h1 h2 => hb b (by omega), h.sep⟩
  by_cases e : j = i
  · rw [if_pos e, if_pos e]
  · rw [if_neg e, if_neg e, if_neg e]
theorem Zz.putC (h : Zz w0 Wi w n i fB fC vB vC xB xC nB nC csB csC) : Zz w0 Wi (w.setCell ⟨w0.heap.size + 2, i, none⟩ xC) n i fB fC vB xC xB xC nB nC csB csC := by
  have hl := h.low
  have hs := h.sz
  have hb : ∀ b, b ≠ w0.heap.size + 2 → (w.setCell ⟨w0.heap.size + 2, i, none⟩ xC).heap[b]? = w.heap[b]? := fun b hb => Deep.blk_setCell_other _ _ _ _ hb
  refine ⟨h.low, w_set h.bel (by show w0.heap.size ≤ w0.heap.size + 2; omega) _, by simpa using h.sz, fun b h1 h2 h3 => (hb b h3).trans (h.fr b h1 h2 h3), h.rB.of_block (hb _ (by omega)), (h.rC.set i xC).congr fun j _ => ?_,
    own_block h.oB fun b h1 h2 => hb b (by omega), own_block h.oC fun b h1 h2 => hb b (by omega), h.sep⟩
  by_cases e : j = i
  · rw [if_pos e, if_pos e]
  · rw [if_neg e, if_neg e, if_neg e]
end

/-- The ways of a place are put into their table. -/
theorem Tb.putA {w0 w : World} {l : List Pi3} {i : Nat} {fA fB fC : Nat → Value} {v : Value} (h : Tb w0 w l (i + 1) (i + 1) fA fB fC)
    (hv : w.ownsRow (w0.heap.size + 3) 25 2 v (waysL (ptL l i)).length (flatS (waysL (ptL l i)))) :
    Tb w0 (w.setCell ⟨w0.heap.size, i, none⟩ v) l i (i + 1) (fun q => if q = i then v else fA q) fB fC := by
  have hb : ∀ b, b ≠ w0.heap.size → (w.setCell ⟨w0.heap.size, i, none⟩ v).heap[b]? = w.heap[b]? := fun b hb => Deep.blk_setCell_other _ _ _ _ hb
  refine ⟨w_set h.bel (Nat.le_refl w0.heap.size) _, h.rA.set i v, h.rB.of_block (hb _ (by omega)), h.rC.of_block (hb _ (by omega)), fun q h1 h2 => ?_, fun q h1 h2 => own_block (h.uB q h1 h2) fun b k1 k2 => hb b (by omega), fun q h1 h2 => own_block (h.uC q h1 h2) fun b k1 k2 => hb b (by omega), h.lo⟩
  by_cases e : q = i
  · subst e
    rw [if_pos rfl]
    exact own_block hv fun b k1 k2 => hb b (by omega)
  · rw [if_neg e]
    exact own_block (h.uA q (by omega) h2) fun b k1 k2 => hb b (by omega)
/-- The rows of a place begin empty. -/
theorem Zz.start {w0 w : World} {l : List Pi3} {i : Nat} {fA fB fC : Nat → Value} (h : Tb w0 w l i (i + 1) fA fB fC) :
    Zz w0 w w l.length i fB fC (.slice none 0 0) (.slice none 0 0) (.slice none 0 0) (.slice none 0 0) 0 0 [] [] := by
  have hl := h.rC.lt
  refine ⟨by omega, h.bel, Nat.le_refl _, fun _ _ _ _ => rfl, h.rB.congr fun q _ => ?_, h.rC.congr fun q _ => ?_, World.ownsRow_nil _ _ _ _, World.ownsRow_nil _ _ _ _, fun b hb => by cases hb⟩
  · by_cases e : q = i
    · rw [if_pos e, e]; exact (h.lo i (by omega)).1
    · rw [if_neg e]
  · by_cases e : q = i
    · rw [if_pos e, e]; exact (h.lo i (by omega)).2
    · rw [if_neg e]
/-- What stood when the rows were begun stands still. -/
theorem Zz.keepA {w0 Wi w : World} {n i : Nat} {fB fC : Nat → Value} {vB vC xB xC : Value} {nB nC : Nat} {csB csC : List Value} (h : Zz w0 Wi w n i fB fC vB vC xB xC nB nC csB csC) {m : Nat} {f : Nat → Value}
    (hA : Wi.rowIs w0.heap.size 29 m f) : w.rowIs w0.heap.size 29 m f := hA.of_block (h.fr _ hA.lt (by omega) (by omega))
theorem Zz.keepO {w0 Wi w : World} {n i : Nat} {fB fC : Nat → Value} {vB vC xB xC : Value} {nB nC : Nat} {csB csC : List Value} (h : Zz w0 Wi w n i fB fC vB vC xB xC nB nC csB csC) {e : TypeId} {size k : Nat} {v : Value} {xs : List Value}
    (ho : Wi.ownsRow (w0.heap.size + 3) e size v k xs) : w.ownsRow (w0.heap.size + 3) e size v k xs := own_block ho fun b h1 h2 => h.fr b h2 (by omega) (by omega)
/-- The rows of a place are full. -/
theorem Zz.full {w0 Wi w : World} {l : List Pi3} {i : Nat} {fA fB fC : Nat → Value} {vB vC : Value} {nB nC : Nat} {csB csC : List Value} (hi : i < l.length) (hT : Tb w0 Wi l i (i + 1) fA fB fC)
    (h : Zz w0 Wi w l.length i fB fC vB vC vB vC nB nC csB csC) (eB : nB = (waysL (ptL l i)).length) (eC : nC = (waysL (ptL l i)).length) (cB : csB = ints (manyL l i)) (cC : csC = ints (roughL l i)) :
    Tb w0 w l i i fA (fun q => if q = i then vB else fB q) (fun q => if q = i then vC else fC q) := by
  subst eB eC cB cC
  refine ⟨h.bel, h.keepA hT.rA, h.rB, h.rC, fun q h1 h2 => h.keepO (hT.uA q h1 h2), fun q h1 h2 => ?_, fun q h1 h2 => ?_, fun q hq => ?_⟩
  · by_cases e : q = i
    · subst e; rw [if_pos rfl]; exact own_lift h.oB h.low
    · rw [if_neg e]; exact h.keepO (hT.uB q (by omega) h2)
  · by_cases e : q = i
    · subst e; rw [if_pos rfl]; exact own_lift h.oC h.low
    · rw [if_neg e]; exact h.keepO (hT.uC q (by omega) h2)
  · have e : q ≠ i := by omega
    rw [if_neg e, if_neg e]
    exact hT.lo q (by omega)
/-- A list that is owned is a slice. -/
theorem own_val {w : World} {base : Nat} {e : TypeId} {k : Nat} {v : Value} {n : Nat} {cs : List Value} (h : w.ownsRow base e k v n cs) : ∃ q c, v = .slice q n c := by
  rcases h.2 with ⟨rfl, rfl⟩ | ⟨g, c, _, rfl, _⟩
  · exact ⟨none, 0, rfl⟩
  · exact ⟨_, c, rfl⟩

theorem Zz.cells {w0 Wi w : World} {n i : Nat} {fB fC : Nat → Value} {vB vC xB xC : Value} {nB nC : Nat} {csB csC : List Value} (h : Zz w0 Wi w n i fB fC vB vC xB xC nB nC csB csC) (hi : i < n) :
    w.cell? ⟨w0.heap.size + 1, i, none⟩ = some vB ∧ w.cell? ⟨w0.heap.size + 1 + 1, i, none⟩ = some vC := by
  have h1 := h.rB.cell hi
  have h2 := h.rC.cell hi
  rw [if_pos rfl] at h1 h2
  exact ⟨h1, h2⟩
/-- A literal of one number, as it stands beside the rows. -/
def Lit1 (w : World) (b : Nat) (v : Value) (xB xC : Value) : Prop := w.cell? ⟨b, 0, none⟩ = some v ∧ b < w.heap.size ∧ xB.ownBlock ≠ some b ∧ xC.ownBlock ≠ some b
theorem Zz.lit {w0 Wi w : World} {n i : Nat} {fB fC : Nat → Value} {vB vC xB xC : Value} {nB nC : Nat} {csB csC : List Value} (h : Zz w0 Wi w n i fB fC vB vC xB xC nB nC csB csC) (v : Value) (t : TypeId) :
    Lit1 (w.alloc (.cells #[v] t)) w.heap.size v xB xC := by
  refine ⟨?_, by simp, fun e => ?_, fun e => ?_⟩
  · have := lit_new w #[v] t 0 v rfl
    exact this
  · have := (h.oB.lt _ e).2; omega
  · have := (h.oC.lt _ e).2; omega
theorem Lit1.later {w w1 : World} {b : Nat} {v xB xC : Value} (h : Lit1 w b v xB xC) (k : Below w.heap.size w w1) : Lit1 w1 b v xB xC := ⟨cell_later k h.1, Nat.lt_of_lt_of_le h.2.1 k.size, h.2.2⟩
theorem one_new {w : World} {b : Nat} {v : Value} (h : w.cell? ⟨b, 0, none⟩ = some v) : ∀ j u, [v][j]? = some u → w.cell? ((⟨b, 0, none⟩ : Addr).add j) = some u := by
  intro j u hu
  cases j with
  | zero => simp at hu; subst hu; exact h
  | succ j => simp at hu
theorem one_int (z : Int) : ∀ u ∈ [Value.int .i64 z], u.oneCell' = true := by
  intro u hu
  rw [List.mem_singleton] at hu; subst hu; rfl
theorem many_take {l : List Pi3} {i k : Nat} {a : Sy} (h : (waysL (ptL l i))[k]? = some a) : ints ((manyL l i).take (k + 1)) = ints ((manyL l i).take k) ++ [.int .i64 ((restC (l.drop (i + 1)) a).1 : Int)] ∧
    ints ((roughL l i).take (k + 1)) = ints ((roughL l i).take k) ++ [.int .i64 ((restC (l.drop (i + 1)) a).2 : Int)] := by
  unfold manyL roughL
  constructor
  · rw [List.take_add_one, List.getElem?_map, h]; exact List.map_append
  · rw [List.take_add_one, List.getElem?_map, h]; exact List.map_append

theorem SlP.own {w : World} {base : Nat} {e : TypeId} {k : Nat} {q : Option Addr} {n c : Nat} {cs : List Value} (h : w.ownsRow base e k (.slice q n c) n cs) (hl : cs.length = n * k) (ho : ∀ u ∈ cs, u.oneCell' = true) : SlP w k q n c cs := by
  obtain ⟨p, cap, e1, h1⟩ := SlP.of_own h hl ho
  simp only [Value.slice.injEq, true_and] at e1
  obtain ⟨rfl, rfl⟩ := e1
  exact h1
theorem ints_len (zs : List Int) : (ints zs).length = zs.length * 1 := by simp
theorem ints_one (zs : List Int) : ∀ u ∈ ints zs, u.oneCell' = true := by
  intro u hu
  rw [List.mem_map] at hu
  obtain ⟨z, _, rfl⟩ := hu
  rfl
theorem many_at {l : List Pi3} {q j : Nat} {b : Sy} (h : (waysL (ptL l q))[j]? = some b) : (ints (manyL l q))[j]? = some (.int .i64 ((restC (l.drop (q + 1)) b).1 : Int)) ∧ (ints (roughL l q))[j]? = some (.int .i64 ((restC (l.drop (q + 1)) b).2 : Int)) := by
  unfold manyL roughL
  rw [List.getElem?_map, List.getElem?_map, List.getElem?_map, List.getElem?_map, h]
  exact ⟨rfl, rfl⟩
theorem rest_next {l : List Pi3} {i : Nat} {q : Pi3} (h : l[i + 1]? = some q) (a : Sy) : restC (l.drop (i + 1)) a = minC (fun b => addC (costS a b) (restC (l.drop (i + 1 + 1)) b)) (waysL q) := by
  obtain ⟨hlt, e⟩ := List.getElem?_eq_some_iff.1 h
  rw [List.drop_eq_getElem_cons hlt, e, rest_cons]

/-- Two lists that are made side by side. -/
theorem OwnL.beside {w0 w w2 : World} {e e' : TypeId} {k k' n m : Nat} {v u : Value} {cs ds : List Value} (h : OwnL w0 w e k v n cs) (h9 : OwnL w0 w e' k' u m ds)
    (sep : ∀ b, v.ownBlock = some b → u.ownBlock ≠ some b) (hg : w.grownBy w2 v.ownBlock) : OwnL w0 w2 e' k' u m ds := by
  refine ⟨h.far (w_refl w) hg, h9.row.kept hg ?_⟩
  cases eq : u.ownBlock with
  | none => exact .inl rfl
  | some b => exact .inr fun e2 => sep b e2.symm eq
theorem sep_app {w0 w : World} {e' : TypeId} {k' m : Nat} {v v' u : Value} {ds : List Value} (h9 : OwnL w0 w e' k' u m ds) (sep : ∀ b, v.ownBlock = some b → u.ownBlock ≠ some b)
    (hat : v'.ownBlock = v.ownBlock ∨ v'.ownBlock = some w.heap.size) : ∀ b, v'.ownBlock = some b → u.ownBlock ≠ some b := by
  intro b hb hc
  rcases hat with x | x
  · rw [x] at hb; exact sep b hb hc
  · rw [x] at hb
    simp only [Option.some.injEq] at hb
    have := (h9.row.lt b hc).2
    omega

end Go.Proofs.YtaldbjhalpgkeaaDoor
