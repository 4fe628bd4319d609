/- Lists and blocks in memory, of any type: what every walk needs. -/
import Derived.Test.YthokapebcplmkaaPMem
import Derived.RangeFuncBox
import Derived.RangeFuncNested
import Derived.RangeFuncCalls
import Derived.Deep.DeepCutAuto
import Derived.Deep.AppendLies
import Derived.Maps.AppendAt
namespace Go.Proofs.Ythokapebcplmkaa
open Go.RowKit

theorem cell_later {w w1 : World} {p : Addr} {v : Value} (k : Below w.heap.size w w1) (h : w.cell? p = some v) : w1.cell? p = some v := (k.cell (World.block_lt_of_cell? w p h)).trans h

/-! ### Slices -/
/-- A slice that may be read: k cells an element, 'cs' the cells of its n elements. -/
structure SlP (w : World) (k : Nat) (p : Option Addr) (n cap : Nat) (cs : List Value) : Prop where
  len : cs.length = n * k
  fit : n ≤ cap
  max : cap ≤ 9223372036854775807
  nil : p = none → cap = 0
  one : ∀ u ∈ cs, u.oneCell' = true
  at_ : 0 < n → ∃ b off, p = some ⟨b, off, none⟩ ∧ b < w.heap.size ∧ ∀ j u, cs[j]? = some u → w.cell? ⟨b, off + j, none⟩ = some u
theorem SlP.later {w w1 : World} {k : Nat} {p : Option Addr} {n cap : Nat} {cs : List Value} (h : SlP w k p n cap cs) (b : Below w.heap.size w w1) : SlP w1 k p n cap cs :=
  ⟨h.len, h.fit, h.max, h.nil, h.one, fun h0 => by
    obtain ⟨c, off, e, hc, hu⟩ := h.at_ h0
    exact ⟨c, off, e, Nat.lt_of_lt_of_le hc b.size, fun j u hj => (b.cell (p := ⟨c, off + j, none⟩) hc).trans (hu j u hj)⟩⟩
theorem add_none (b off j : Nat) : (⟨b, off, none⟩ : Addr).add j = ⟨b, off + j, none⟩ := by
  unfold Addr.add; split
  · rename_i h; subst h; rfl
  · rfl
/-- A list that the call owns. -/
theorem SlP.of_own {w : World} {base : Nat} {e : TypeId} {k : Nat} {v : Value} {n : Nat} {cs : List Value} (h : w.ownsRow base e k v n cs) (hl : cs.length = n * k) (ho : ∀ u ∈ cs, u.oneCell' = true) :
    ∃ p cap, v = .slice p n cap ∧ SlP w k p n cap cs := by
  rcases h.2 with ⟨rfl, hn⟩ | ⟨g, cap, cur, rfl, hb, hg, hnc, hcm, hcs, ht⟩
  · exact ⟨none, 0, by rw [hn], hl, by omega, by omega, fun _ => rfl, ho, fun h0 => by omega⟩
  · unfold maxLen at hcm
    refine ⟨some ⟨g, 0, none⟩, cap, rfl, hl, hnc, by omega, fun e => (by cases e), ho, fun _ => ⟨g, 0, rfl, (Array.getElem?_eq_some_iff.1 hg).1, fun j u hj => ?_⟩⟩
    have hlt : j < n * k := by rw [← hl]; exact (List.getElem?_eq_some_iff.1 hj).1
    rw [Nat.zero_add, h.cellAt j hlt, hj]

abbrev ints (zs : List Int) : List Value := zs.map (Value.int .i64)
theorem ints_len (zs : List Int) : (ints zs).length = zs.length * 1 := by simp
theorem ints_one (zs : List Int) : ∀ u ∈ ints zs, u.oneCell' = true := by
  intro u hu
  rw [List.mem_map] at hu
  obtain ⟨z, _, rfl⟩ := hu
  rfl
def IntV (w : World) (v : Value) (zs : List Int) : Prop := ∃ p cap, v = .slice p zs.length cap ∧ SlP w 1 p zs.length cap (ints zs)
theorem IntV.later {w w1 : World} {v : Value} {zs : List Int} (h : IntV w v zs) (b : Below w.heap.size w w1) : IntV w1 v zs := by
  obtain ⟨p, cap, e, k⟩ := h; exact ⟨p, cap, e, k.later b⟩
theorem IntV.none (w : World) : IntV w (.slice none 0 0) [] := ⟨_, 0, rfl, ⟨rfl, by simp, by omega, fun _ => rfl, by simp, fun h => by simp at h⟩⟩
theorem IntV.of_own {w : World} {base : Nat} {e : TypeId} {v : Value} {zs : List Int} (h : w.ownsRow base e 1 v zs.length (ints zs)) : IntV w v zs := SlP.of_own h (ints_len _) (ints_one _)

/-! ### Lists that the call makes -/
theorem own_keep {w w1 : World} {base size B : Nat} {e : TypeId} {v : Value} {n : Nat} {xs : List Value} (h : w.ownsRow base e size v n xs) (k : Below B w w1) (hB : w.heap.size ≤ B) : w1.ownsRow base e size v n xs := by
  refine ⟨h.1, ?_⟩
  rcases h.2 with hn | ⟨g, cap, cur, hv, hb, hg, rest⟩
  · exact .inl hn
  · exact .inr ⟨g, cap, cur, hv, hb, by rw [k.block g (by have := (Array.getElem?_eq_some_iff.1 hg).1; omega)]; exact hg, rest⟩
/-- A list that has been made since w0. -/
structure OwnL (w0 w : World) (e : TypeId) (k : Nat) (v : Value) (n : Nat) (cs : List Value) : Prop where
  bel : Below w0.heap.size w0 w
  row : w.ownsRow w0.heap.size e k v n cs
theorem OwnL.start (w : World) (e : TypeId) (k : Nat) : OwnL w w e k (.slice none 0 0) 0 [] := ⟨w_refl w, World.ownsRow_nil _ _ _ _⟩
theorem OwnL.later {w0 w w1 : World} {e : TypeId} {k : Nat} {v : Value} {n : Nat} {cs : List Value} (h : OwnL w0 w e k v n cs) (b : Below w.heap.size w w1) : OwnL w0 w1 e k v n cs :=
  ⟨w_below h.bel b, own_keep h.row b (Nat.le_refl _)⟩
theorem OwnL.val {w0 w : World} {e : TypeId} {k : Nat} {v : Value} {n : Nat} {cs : List Value} (h : OwnL w0 w e k v n cs) : ∃ q c, v = .slice q n c := by
  rcases h.row.2 with ⟨rfl, rfl⟩ | ⟨g, c, _, rfl, _⟩
  · exact ⟨none, 0, rfl⟩
  · exact ⟨_, c, rfl⟩
theorem OwnL.app {w0 w wa w2 : World} {e : TypeId} {k : Nat} {v v' : Value} {n m : Nat} {cs news : List Value} (h : OwnL w0 w e k v n cs) (b : Below w.heap.size w wa)
    (hown : w2.ownsRow w0.heap.size e k v' m (cs ++ news)) (hg : wa.grownBy w2 v.ownBlock) : OwnL w0 w2 e k v' m (cs ++ news) :=
  ⟨(w_below h.bel b).grown hg (w_below h.bel b).size fun j e => (h.row.lt j e).1, hown⟩
/-- What lay below is as it was, behind an append. -/
theorem OwnL.far {w0 w wa w2 : World} {e : TypeId} {k : Nat} {v : Value} {n : Nat} {cs : List Value} (h : OwnL w0 w e k v n cs) (b : Below w.heap.size w wa) (hg : wa.grownBy w2 v.ownBlock) : Below w0.heap.size w0 w2 :=
  (w_below h.bel b).grown hg (w_below h.bel b).size fun j e => (h.row.lt j e).1
theorem lit_new (w : World) (cs : Array Value) (t : TypeId) : ∀ j u, cs.toList[j]? = some u → (w.alloc (.cells cs t)).cell? ((⟨w.heap.size, 0, none⟩ : Addr).add j) = some u := by
  intro j u hu
  have hb : (w.alloc (.cells cs t)).heap[w.heap.size]? = some (.cells cs t (0, 0)) := by show (w.heap.push _)[w.heap.size]? = _; simp
  exact World.news_of_block hb j u hu

theorem info_int : (Try.prog.info? 3).map (fun i => (i.zero, i.size, i.bytes)) = some (some (.int .i64 0), 1, 8) := by kernel_rfl

theorem gkept {W : World} {b j k c : Nat} {u v : Value} (h : W.cell? ⟨b, j, none⟩ = some u) (hj : b ≠ c ∨ j ≠ k) : (W.setCell ⟨c, k, none⟩ v).cell? ⟨b, j, none⟩ = some u := by
  rw [World.cell?_setCell_other _ _ _ _ (by intro e; injection e with e1 e2 _; rcases hj with x | x; exact x e1.symm; exact x e2.symm)]; exact h
/-- Block b holds these cells, and they may be written. -/
def HoldsB (W : World) (b : Nat) (t : TypeId) (cs : Array Value) : Prop := W.heap[b]? = some (.cells cs t (0, 0))
theorem HoldsB.lt {W : World} {b : Nat} {t : TypeId} {cs : Array Value} (h : HoldsB W b t cs) : b < W.heap.size := (Array.getElem?_eq_some_iff.1 h).1
theorem HoldsB.cell {W : World} {b : Nat} {t : TypeId} {cs : Array Value} (h : HoldsB W b t cs) {j : Nat} {v : Value} (e : cs[j]? = some v) : W.cell? ⟨b, j, none⟩ = some v := by
  simp [World.cell?, show W.heap[b]? = _ from h, e]
theorem HoldsB.frozen {W : World} {b : Nat} {t : TypeId} {cs : Array Value} (h : HoldsB W b t cs) (j : Nat) : W.frozen? ⟨b, j, none⟩ = false := by
  simp [World.frozen?, show W.heap[b]? = _ from h]
theorem HoldsB.new (W : World) (t : TypeId) (cs : Array Value) : HoldsB (W.alloc (.cells cs t)) W.heap.size t cs := World.alloc_heap_new W _
theorem HoldsB.later {W W' : World} {b : Nat} {t : TypeId} {cs : Array Value} (h : HoldsB W b t cs) (k : Below W.heap.size W W') : HoldsB W' b t cs := (k.block b h.lt).trans h
theorem HoldsB.al {W : World} {b : Nat} {t : TypeId} {cs : Array Value} (h : HoldsB W b t cs) (o : Obj) : HoldsB (W.alloc o) b t cs := h.later (w_alloc (w_refl W) o)
theorem HoldsB.other {W : World} {b c : Nat} {t : TypeId} {cs : Array Value} (h : HoldsB W b t cs) (hne : b ≠ c) (j : Nat) (u : Value) : HoldsB (W.setCell ⟨c, j, none⟩ u) b t cs := (Below.heap_setCell _ _ _ _ hne).trans h
theorem HoldsB.set {W : World} {b : Nat} {t : TypeId} {cs : Array Value} (h : HoldsB W b t cs) (j : Nat) (u : Value) : HoldsB (W.setCell ⟨b, j, none⟩ u) b t (cs.setIfInBounds j u) := by
  obtain ⟨hlt, hk⟩ := Array.getElem?_eq_some_iff.1 h
  show (W.heap.modify b _)[b]? = _
  rw [Array.getElem?_eq_getElem (by rw [Array.size_modify]; exact hlt), Array.getElem_modify_self, hk]
  rfl
theorem HoldsB.kept {W W' : World} {row : Option Nat} {b : Nat} {t : TypeId} {cs : Array Value} (h : HoldsB W b t cs) (hg : W.grownBy W' row) (hne : some b ≠ row) : HoldsB W' b t cs := (hg.block b h.lt hne).trans h
theorem holds_own {β : Type} (b : Nat) (t : TypeId) (f : β → Array Value) : Own (fun s W => HoldsB W b t (f s)) := fun s X Y row hs hg hrow =>
  hs.kept hg (fun e' => by obtain ⟨o, ho, hc⟩ := hrow b e'.symm; rw [show X.heap[b]? = _ from hs] at ho; cases ho; cases hc)
/-- A store into a block of the call's own. -/
theorem w_put {w a : World} (h : Below w.heap.size w a) {b : Nat} (hb : w.heap.size ≤ b) (j : Nat) (u : Value) : Below w.heap.size w (a.setCell ⟨b, j, none⟩ u) := h.setCell hb u

theorem OwnFrom.bel {β : Type} {B : Nat} {I : β → World → Prop} (h : OwnFrom B I) {s : β} {A A' : World} (hs : I s A) (b : Below A.heap.size A A') : I s A' :=
  h s A A' none hs ⟨b.os, b.tape, b.output, b.size, fun k hk _ => b.block k hk⟩ (fun r e => by cases e)
theorem OwnFrom.up {β : Type} {B B' : Nat} {I : β → World → Prop} (h : OwnFrom B I) (k : B ≤ B') : OwnFrom B' I :=
  fun s A A' row hs hg hr => h s A A' row hs hg (fun r e => ⟨Nat.le_trans k (hr r e).1, (hr r e).2⟩)
theorem keeps_bel (B : Nat) {A A' : World} (b : Below A.heap.size A A') : KeepsFrom B A A' :=
  ⟨b.size, fun k _ _ hk _ => (b.block k (Array.getElem?_eq_some_iff.1 hk).1).trans hk⟩


theorem ownsRow_kept {A A' : World} {base : Nat} {e : TypeId} {k : Nat} {v : Value} {n : Nat} {cs : List Value} {row : Option Nat} (h : A.ownsRow base e k v n cs) (hg : A.grownBy A' row)
    (hr : ∀ r, row = some r → ∃ o : Obj, A.heap[r]? = some o ∧ o.isCells = false) : A'.ownsRow base e k v n cs := by
  refine ⟨h.1, ?_⟩
  rcases h.2 with h2 | ⟨g, cap, cur, hv, hb, hh, r⟩
  · exact .inl h2
  · refine .inr ⟨g, cap, cur, hv, hb, (hg.block g (Array.getElem?_eq_some_iff.1 hh).1 (fun e' => ?_)).trans hh, r⟩
    obtain ⟨o, ho, hc⟩ := hr g e'.symm
    rw [hh] at ho; cases ho; cases hc
theorem ownL_from {β : Type} {w : World} {B : Nat} (hB : w.heap.size ≤ B) (k0 : Nat) (t e : TypeId) (k : Nat) (n : β → Nat) (cs : β → List Value) :
    OwnFrom B (fun (s : β) A => ∃ v, HoldsB A k0 t #[v] ∧ OwnL w A e k v (n s) (cs s)) := by
  rintro s A A' row ⟨v, h1, h2⟩ hg hr
  refine ⟨v, holds_own k0 t (fun (_ : Unit) => #[v]) () A A' row h1 hg (fun r e => (hr r e).2), ⟨h2.bel.grown hg h2.bel.size (fun j e => by have := (hr j e).1; omega), ownsRow_kept h2.row hg (fun r e => (hr r e).2)⟩⟩

theorem own_ne {A : World} {base : Nat} {e t : TypeId} {k : Nat} {v : Value} {n b : Nat} {cs : List Value} {cs' : Array Value} (h : A.ownsRow base e k v n cs) (h1 : HoldsB A b t cs') (hte : t ≠ e) : some b ≠ v.ownBlock := by
  intro e'
  rcases h.2 with ⟨rfl, _⟩ | ⟨g, cap, cur, rfl, _, hh, _⟩
  · cases e'
  · simp only [Value.ownBlock, Option.some.injEq] at e'
    subst e'
    rw [show A.heap[b]? = _ from h1] at hh
    cases hh
    exact hte rfl
theorem own_put {A : World} {base : Nat} {e : TypeId} {k : Nat} {v : Value} {n c : Nat} {cs : List Value} (h : A.ownsRow base e k v n cs) (hne : some c ≠ v.ownBlock) (j : Nat) (u : Value) : (A.setCell ⟨c, j, none⟩ u).ownsRow base e k v n cs := by
  refine ⟨h.1, ?_⟩
  rcases h.2 with h2 | ⟨g, cap, cur, rfl, hb, hh, r⟩
  · exact .inl h2
  · exact .inr ⟨g, cap, cur, rfl, hb, (Below.heap_setCell _ _ _ _ (fun e => hne (by rw [e]; rfl))).trans hh, r⟩

end Go.Proofs.Ythokapebcplmkaa
