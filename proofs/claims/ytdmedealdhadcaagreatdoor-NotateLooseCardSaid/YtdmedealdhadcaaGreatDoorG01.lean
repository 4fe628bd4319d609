/- What the proofs of all rows share: a law that makes memory and turns nothing that was there meets its row. Pitches in memory: what every walk over package pitch and its reference needs. Lists and blocks in memory, of any type: what every walk needs. Signs in memory: what every walk over package ligature and its reference needs. Arguments that are lists of signs and of numbers, as the walks read them. Whole signs: loaded, stored, boxed, built, handed back, without being opened. -/
import Derived.Test.YtdmedealdhadcaaGreatDoorCards
import Derived.Test.YtdmedealdhadcaaGreatDoorTie
import Derived.WalkKit
import Derived.ProofKit
import Derived.OpenShut
import Derived.Carry
import Derived.Deep.DeepHandedRow
import Derived.LaidMore
import Derived.Lay
import Derived.Lib.SmallJoins
import Derived.Test.YtdmedealdhadcaaGreatDoorProg
import Derived.WalkSpells
import Derived.WalkLawsBesides
import Derived.WalkMore
import Derived.WalkSmall
import Derived.Lib.Hide
import Derived.Lib.Strings
import Derived.Lib.IndexBytes
import Derived.BigQuiet
import Derived.Deep.QuietTactic
import Derived.RegionTactic
import Derived.Deep.RegionHeld3
import Derived.OwnWalk
import Derived.RangeFuncBox
import Derived.RangeFuncNested
import Derived.RangeFuncCalls
import Derived.Deep.DeepCutAuto
import Derived.Deep.AppendLies
import Derived.Maps.AppendAt
import Derived.Deep.MidRow
import Derived.Deep.WholeRow
import Derived.Deep.SlicePairs
import Derived.WideOpen
import Derived.BigRegion

namespace Go.Proofs.YtdmedealdhadcaaGreatDoor
open Go.ChangeShapes Go.WideShapes Go.ChangeAt Go.RowKit
theorem own : ownKnob Tryz.prog.godebug = none := by kernel_rfl
theorem laidOut : laidOutB Tryz.prog = true := by kernel_rfl
section
variable {H : Type} {enc : TypeId × Value → H} {W W' : World}
/-- What the arguments read as, they read as behind the call. -/
theorem trodAll_below (hb : Below W.heap.size W W') : ∀ {ts : List TypeId} {vs : List Value} {ds : List (DataW H)} {ps : List MemPlace},
    DataW.TrodAll enc Tryz.prog W 0 (fun _ => true) true ts vs ds ps → (∀ t ∈ ts, Tryz.prog.readableRec t = true ∧ t < Tryz.prog.types.size) → (∀ x ∈ ps, x.block < W.heap.size) →
    DataW.TrodAll enc Tryz.prog W' 0 (fun b => decide (b < W.heap.size)) true ts vs ds ps
  | [], _, _, _, h, _, _ => by
    obtain ⟨rfl, rfl, rfl⟩ := trodAll_nil h
    exact trodAll_mk0
  | t :: ts, _, _, _, h, hr, hlt => by
    obtain ⟨v, vs, d, ds, p, q, rfl, rfl, rfl, h0, h1⟩ := trodAll_cons h
    have ht := hr t (by simp)
    exact trodAll_cons_mk (Below.trod laidOut ht.1 ht.2 h0 hb (fun x hx => hlt x (by simp [hx]))) (trodAll_below hb h1 (fun t' ht' => hr t' (by simp [ht'])) (fun x hx => hlt x (by simp [hx])))
/-- A law that returned true, made memory and turned nothing that was there. -/
theorem post_law {f : Func} {s : ChangeSpec} {apart : Bool} {args : Array Value} {ds gs : List (DataW H)} {before : List MemPlace}
    (hW : DataW.Whole enc Tryz.prog f.params.toList s.vars apart W args.toList ds gs before) (hv : s.vars = [])
    (hr : ∀ t ∈ f.params.toList, Tryz.prog.readableRec t = true ∧ t < Tryz.prog.types.size) (ht : f.resultTypes = #[4])
    (hres : (s.fn H ds).results = [.lit (.bool true)]) (hargs : (s.fn H ds).args = ds) (hvars : (s.fn H ds).vars = []) (hb : Below W.heap.size W W') :
    s.post enc Tryz.prog f apart true false false W args (.bool true) W' := by
  have hlt : ∀ p ∈ before, p.block < W.heap.size := fun p hp => hW.lt p hp
  have hW' := hW
  obtain ⟨p, q, hA, hV, rfl, hfz, hnd⟩ := hW
  rw [hv] at hV
  obtain ⟨rfl, rfl⟩ := trodVars_none hV
  have e : ds ++ [] = ds := List.append_nil ds
  refine ⟨ds, [], p ++ [], [], p, [], hW', ?_, ?_, ?_, World.keptBut_mono (fun x hx => ⟨hx, Or.inr (Or.inl (by simpa using hx))⟩) (hb.frame (· ∈ p ++ [])), fun h => by cases h⟩
  · rw [e, hres, ht]
    exact trodAll_mk1 (shut_bool Tryz.underlying4 _)
  · rw [e, hargs]
    exact trodAll_below hb hA hr (fun x hx => hlt x (by simp [hx]))
  · rw [hv, e, hvars]; rfl
end
end Go.Proofs.YtdmedealdhadcaaGreatDoor

namespace Go.Proofs.YtdmedealdhadcaaGreatDoor
open Go.RowKit
theorem w_below {w a b : World} (h : Below w.heap.size w a) (k : Below a.heap.size a b) : Below w.heap.size w b := h.trans (k.mono h.size)
theorem w_alloc {w a : World} (h : Below w.heap.size w a) (o : Obj) : Below w.heap.size w (a.alloc o) := h.alloc h.size o
theorem w_set {w a : World} (h : Below w.heap.size w a) {p : Addr} (hp : w.heap.size ≤ p.block) (u : Value) : Below w.heap.size w (a.setCell p u) := h.setCell hp u
theorem w_refl (w : World) : Below w.heap.size w w := Below.refl _ _
/-- A pitch's three numbers. -/
abbrev Pi3 := Int × Int × Int
abbrev pv (p : Pi3) : Value := .agg #[.int .i64 p.1, .int .i64 p.2.1, .int .i64 p.2.2]
/-- Block b holds a pitch that may be written. -/
structure Cell3 (w : World) (b : Nat) (p : Pi3) : Prop where
  inb : b < w.heap.size
  c0 : w.cell? ⟨b, 0, none⟩ = some (.int .i64 p.1)
  c1 : w.cell? ⟨b, 1, none⟩ = some (.int .i64 p.2.1)
  c2 : w.cell? ⟨b, 2, none⟩ = some (.int .i64 p.2.2)
  f0 : w.frozen? ⟨b, 0, none⟩ = false
  f1 : w.frozen? ⟨b, 1, none⟩ = false
  f2 : w.frozen? ⟨b, 2, none⟩ = false
theorem Cell3.made (w : World) (p : Pi3) (t : TypeId) : Cell3 (w.alloc (.cells #[.int .i64 p.1, .int .i64 p.2.1, .int .i64 p.2.2] t)) w.heap.size p := ⟨by simp, by go_simp, by go_simp, by go_simp, by go_simp, by go_simp, by go_simp⟩
theorem Cell3.below {w w1 : World} {b B : Nat} {p : Pi3} (h : Cell3 w b p) (k : Below B w w1) (hB : b < B) : Cell3 w1 b p :=
  ⟨Nat.lt_of_lt_of_le h.inb k.size, (k.cell (p := ⟨b, 0, none⟩) hB).trans h.c0, (k.cell (p := ⟨b, 1, none⟩) hB).trans h.c1, (k.cell (p := ⟨b, 2, none⟩) hB).trans h.c2,
    (k.frozen (p := ⟨b, 0, none⟩) hB).trans h.f0, (k.frozen (p := ⟨b, 1, none⟩) hB).trans h.f1, (k.frozen (p := ⟨b, 2, none⟩) hB).trans h.f2⟩
theorem Cell3.later {w w1 : World} {b : Nat} {p : Pi3} (h : Cell3 w b p) (k : Below w.heap.size w w1) : Cell3 w1 b p := h.below k h.inb
end Go.Proofs.YtdmedealdhadcaaGreatDoor

namespace Go.Proofs.YtdmedealdhadcaaGreatDoor
open Go.RowKit
theorem cell_later {w w1 : World} {p : Addr} {v : Value} (k : Below w.heap.size w w1) (h : w.cell? p = some v) : w1.cell? p = some v := (k.cell (World.block_lt_of_cell? w p h)).trans h
/-! ### Slices -/
/-- A slice that may be read: k cells an element, 'cs' the cells of its n elements. -/
structure SlP (w : World) (k : Nat) (p : Option Addr) (n cap : Nat) (cs : List Value) : Prop where
  len : cs.length = n * k
  fit : n ≤ cap
  max : cap ≤ 9223372036854775807
  nil : p = none → cap = 0
  one : ∀ u ∈ cs, u.oneCell' = true
  at_ : 0 < n → ∃ b off, p = some ⟨b, off, none⟩ ∧ b < w.heap.size ∧ ∀ j u, cs[j]? = some u → w.cell? ⟨b, off + j, none⟩ = some u
theorem SlP.later {w w1 : World} {k : Nat} {p : Option Addr} {n cap : Nat} {cs : List Value} (h : SlP w k p n cap cs) (b : Below w.heap.size w w1) : SlP w1 k p n cap cs :=
  ⟨h.len, h.fit, h.max, h.nil, h.one, fun h0 => by
    obtain ⟨c, off, e, hc, hu⟩ := h.at_ h0
    exact ⟨c, off, e, Nat.lt_of_lt_of_le hc b.size, fun j u hj => (b.cell (p := ⟨c, off + j, none⟩) hc).trans (hu j u hj)⟩⟩
theorem add_none (b off j : Nat) : (⟨b, off, none⟩ : Addr).add j = ⟨b, off + j, none⟩ := by
  unfold Addr.add; split
  · rename_i h; subst h; rfl
  · rfl
/-- A list that the call owns. -/
theorem SlP.of_own {w : World} {base : Nat} {e : TypeId} {k : Nat} {v : Value} {n : Nat} {cs : List Value} (h : w.ownsRow base e k v n cs) (hl : cs.length = n * k) (ho : ∀ u ∈ cs, u.oneCell' = true) :
    ∃ p cap, v = .slice p n cap ∧ SlP w k p n cap cs := by
  rcases h.2 with ⟨rfl, hn⟩ | ⟨g, cap, cur, rfl, hb, hg, hnc, hcm, hcs, ht⟩
  · exact ⟨none, 0, by rw [hn], hl, by omega, by omega, fun _ => rfl, ho, fun h0 => by omega⟩
  · unfold maxLen at hcm
    refine ⟨some ⟨g, 0, none⟩, cap, rfl, hl, hnc, by omega, fun e => (by cases e), ho, fun _ => ⟨g, 0, rfl, (Array.getElem?_eq_some_iff.1 hg).1, fun j u hj => ?_⟩⟩
    have hlt : j < n * k := by rw [← hl]; exact (List.getElem?_eq_some_iff.1 hj).1
    rw [Nat.zero_add, h.cellAt j hlt, hj]
abbrev ints (zs : List Int) : List Value := zs.map (Value.int .i64)
theorem ints_len (zs : List Int) : (ints zs).length = zs.length * 1 := by simp
theorem ints_one (zs : List Int) : ∀ u ∈ ints zs, u.oneCell' = true := by
  intro u hu
  rw [List.mem_map] at hu
  obtain ⟨z, _, rfl⟩ := hu
  rfl
def IntV (w : World) (v : Value) (zs : List Int) : Prop := ∃ p cap, v = .slice p zs.length cap ∧ SlP w 1 p zs.length cap (ints zs)
theorem IntV.later {w w1 : World} {v : Value} {zs : List Int} (h : IntV w v zs) (b : Below w.heap.size w w1) : IntV w1 v zs := by
  obtain ⟨p, cap, e, k⟩ := h; exact ⟨p, cap, e, k.later b⟩
theorem IntV.none (w : World) : IntV w (.slice none 0 0) [] := ⟨_, 0, rfl, ⟨rfl, by simp, by omega, fun _ => rfl, by simp, fun h => by simp at h⟩⟩
theorem IntV.of_own {w : World} {base : Nat} {e : TypeId} {v : Value} {zs : List Int} (h : w.ownsRow base e 1 v zs.length (ints zs)) : IntV w v zs := SlP.of_own h (ints_len _) (ints_one _)
/-! ### Lists that the call makes -/
theorem own_keep {w w1 : World} {base size B : Nat} {e : TypeId} {v : Value} {n : Nat} {xs : List Value} (h : w.ownsRow base e size v n xs) (k : Below B w w1) (hB : w.heap.size ≤ B) : w1.ownsRow base e size v n xs := by
  refine ⟨h.1, ?_⟩
  rcases h.2 with hn | ⟨g, cap, cur, hv, hb, hg, rest⟩
  · exact .inl hn
  · exact .inr ⟨g, cap, cur, hv, hb, by rw [k.block g (by have := (Array.getElem?_eq_some_iff.1 hg).1; omega)]; exact hg, rest⟩
/-- A list that has been made since w0. -/
structure OwnL (w0 w : World) (e : TypeId) (k : Nat) (v : Value) (n : Nat) (cs : List Value) : Prop where
  bel : Below w0.heap.size w0 w
  row : w.ownsRow w0.heap.size e k v n cs
theorem OwnL.start (w : World) (e : TypeId) (k : Nat) : OwnL w w e k (.slice none 0 0) 0 [] := ⟨w_refl w, World.ownsRow_nil _ _ _ _⟩
theorem OwnL.later {w0 w w1 : World} {e : TypeId} {k : Nat} {v : Value} {n : Nat} {cs : List Value} (h : OwnL w0 w e k v n cs) (b : Below w.heap.size w w1) : OwnL w0 w1 e k v n cs :=
  ⟨w_below h.bel b, own_keep h.row b (Nat.le_refl _)⟩
theorem OwnL.val {w0 w : World} {e : TypeId} {k : Nat} {v : Value} {n : Nat} {cs : List Value} (h : OwnL w0 w e k v n cs) : ∃ q c, v = .slice q n c := by
  rcases h.row.2 with ⟨rfl, rfl⟩ | ⟨g, c, _, rfl, _⟩
  · exact ⟨none, 0, rfl⟩
  · exact ⟨_, c, rfl⟩
theorem OwnL.app {w0 w wa w2 : World} {e : TypeId} {k : Nat} {v v' : Value} {n m : Nat} {cs news : List Value} (h : OwnL w0 w e k v n cs) (b : Below w.heap.size w wa)
    (hown : w2.ownsRow w0.heap.size e k v' m (cs ++ news)) (hg : wa.grownBy w2 v.ownBlock) : OwnL w0 w2 e k v' m (cs ++ news) :=
  ⟨(w_below h.bel b).grown hg (w_below h.bel b).size fun j e => (h.row.lt j e).1, hown⟩
/-- What lay below is as it was, behind an append. -/
theorem OwnL.far {w0 w wa w2 : World} {e : TypeId} {k : Nat} {v : Value} {n : Nat} {cs : List Value} (h : OwnL w0 w e k v n cs) (b : Below w.heap.size w wa) (hg : wa.grownBy w2 v.ownBlock) : Below w0.heap.size w0 w2 :=
  (w_below h.bel b).grown hg (w_below h.bel b).size fun j e => (h.row.lt j e).1
theorem info_int : (Tryz.prog.info? 3).map (fun i => (i.zero, i.size, i.bytes)) = some (some (.int .i64 0), 1, 8) := by kernel_rfl
theorem gkept {W : World} {b j k c : Nat} {u v : Value} (h : W.cell? ⟨b, j, none⟩ = some u) (hj : b ≠ c ∨ j ≠ k) : (W.setCell ⟨c, k, none⟩ v).cell? ⟨b, j, none⟩ = some u := by
  rw [World.cell?_setCell_other _ _ _ _ (by intro e; injection e with e1 e2 _; rcases hj with x | x; exact x e1.symm; exact x e2.symm)]; exact h
/-- Block b holds these cells, and they may be written. -/
def HoldsB (W : World) (b : Nat) (t : TypeId) (cs : Array Value) : Prop := W.heap[b]? = some (.cells cs t (0, 0))
theorem HoldsB.lt {W : World} {b : Nat} {t : TypeId} {cs : Array Value} (h : HoldsB W b t cs) : b < W.heap.size := (Array.getElem?_eq_some_iff.1 h).1
theorem HoldsB.cell {W : World} {b : Nat} {t : TypeId} {cs : Array Value} (h : HoldsB W b t cs) {j : Nat} {v : Value} (e : cs[j]? = some v) : W.cell? ⟨b, j, none⟩ = some v := by
  simp [World.cell?, show W.heap[b]? = _ from h, e]
theorem HoldsB.frozen {W : World} {b : Nat} {t : TypeId} {cs : Array Value} (h : HoldsB W b t cs) (j : Nat) : W.frozen? ⟨b, j, none⟩ = false := by
  simp [World.frozen?, show W.heap[b]? = _ from h]
theorem HoldsB.new (W : World) (t : TypeId) (cs : Array Value) : HoldsB (W.alloc (.cells cs t)) W.heap.size t cs := World.alloc_heap_new W _
theorem HoldsB.later {W W' : World} {b : Nat} {t : TypeId} {cs : Array Value} (h : HoldsB W b t cs) (k : Below W.heap.size W W') : HoldsB W' b t cs := (k.block b h.lt).trans h
theorem HoldsB.al {W : World} {b : Nat} {t : TypeId} {cs : Array Value} (h : HoldsB W b t cs) (o : Obj) : HoldsB (W.alloc o) b t cs := h.later (w_alloc (w_refl W) o)
theorem HoldsB.other {W : World} {b c : Nat} {t : TypeId} {cs : Array Value} (h : HoldsB W b t cs) (hne : b ≠ c) (j : Nat) (u : Value) : HoldsB (W.setCell ⟨c, j, none⟩ u) b t cs := (Below.heap_setCell _ _ _ _ hne).trans h
theorem HoldsB.set {W : World} {b : Nat} {t : TypeId} {cs : Array Value} (h : HoldsB W b t cs) (j : Nat) (u : Value) : HoldsB (W.setCell ⟨b, j, none⟩ u) b t (cs.setIfInBounds j u) := by
  obtain ⟨hlt, hk⟩ := Array.getElem?_eq_some_iff.1 h
  show (W.heap.modify b _)[b]? = _
  rw [Array.getElem?_eq_getElem (by rw [Array.size_modify]; exact hlt), Array.getElem_modify_self, hk]
  rfl
theorem HoldsB.kept {W W' : World} {row : Option Nat} {b : Nat} {t : TypeId} {cs : Array Value} (h : HoldsB W b t cs) (hg : W.grownBy W' row) (hne : some b ≠ row) : HoldsB W' b t cs := (hg.block b h.lt hne).trans h
theorem holds_own {β : Type} (b : Nat) (t : TypeId) (f : β → Array Value) : Own (fun s W => HoldsB W b t (f s)) := fun s X Y row hs hg hrow =>
  hs.kept hg (fun e' => by obtain ⟨o, ho, hc⟩ := hrow b e'.symm; rw [show X.heap[b]? = _ from hs] at ho; cases ho; cases hc)
/-- A store into a block of the call's own. -/
theorem w_put {w a : World} (h : Below w.heap.size w a) {b : Nat} (hb : w.heap.size ≤ b) (j : Nat) (u : Value) : Below w.heap.size w (a.setCell ⟨b, j, none⟩ u) := h.setCell hb u
theorem OwnFrom.bel {β : Type} {B : Nat} {I : β → World → Prop} (h : OwnFrom B I) {s : β} {A A' : World} (hs : I s A) (b : Below A.heap.size A A') : I s A' :=
  h s A A' none hs ⟨b.os, b.tape, b.output, b.size, fun k hk _ => b.block k hk⟩ (fun r e => by cases e)
theorem ownsRow_kept {A A' : World} {base : Nat} {e : TypeId} {k : Nat} {v : Value} {n : Nat} {cs : List Value} {row : Option Nat} (h : A.ownsRow base e k v n cs) (hg : A.grownBy A' row)
    (hr : ∀ r, row = some r → ∃ o : Obj, A.heap[r]? = some o ∧ o.isCells = false) : A'.ownsRow base e k v n cs := by
  refine ⟨h.1, ?_⟩
  rcases h.2 with h2 | ⟨g, cap, cur, hv, hb, hh, r⟩
  · exact .inl h2
  · refine .inr ⟨g, cap, cur, hv, hb, (hg.block g (Array.getElem?_eq_some_iff.1 hh).1 (fun e' => ?_)).trans hh, r⟩
    obtain ⟨o, ho, hc⟩ := hr g e'.symm
    rw [hh] at ho; cases ho; cases hc
theorem own_ne {A : World} {base : Nat} {e t : TypeId} {k : Nat} {v : Value} {n b : Nat} {cs : List Value} {cs' : Array Value} (h : A.ownsRow base e k v n cs) (h1 : HoldsB A b t cs') (hte : t ≠ e) : some b ≠ v.ownBlock := by
  intro e'
  rcases h.2 with ⟨rfl, _⟩ | ⟨g, cap, cur, rfl, _, hh, _⟩
  · cases e'
  · simp only [Value.ownBlock, Option.some.injEq] at e'
    subst e'
    rw [show A.heap[b]? = _ from h1] at hh
    cases hh
    exact hte rfl
theorem own_put {A : World} {base : Nat} {e : TypeId} {k : Nat} {v : Value} {n c : Nat} {cs : List Value} (h : A.ownsRow base e k v n cs) (hne : some c ≠ v.ownBlock) (j : Nat) (u : Value) : (A.setCell ⟨c, j, none⟩ u).ownsRow base e k v n cs := by
  refine ⟨h.1, ?_⟩
  rcases h.2 with h2 | ⟨g, cap, cur, rfl, hb, hh, r⟩
  · exact .inl h2
  · exact .inr ⟨g, cap, cur, rfl, hb, (Below.heap_setCell _ _ _ _ (fun e => hne (by rw [e]; rfl))).trans hh, r⟩
end Go.Proofs.YtdmedealdhadcaaGreatDoor

namespace Go.Proofs.YtdmedealdhadcaaGreatDoor
open Go.RowKit
structure Sg where
  kind : Int
  val : Int
  place : Int
  acc : Int
  col : Bool
  stem : Int
  obl : Bool
  last : Bool
  m0 : Int
  m1 : Int
  m2 : Int
  m3 : Int
  stk : Bool
  n : Int
  d : Int
  c0 : Int
  c1 : Int
def sgA (s : Sg) : Array Value := #[.int .i64 s.kind, .int .i64 s.val, .int .i64 s.place, .int .i64 s.acc, .bool s.col, .int .i64 s.stem, .bool s.obl, .bool s.last, .int .i64 s.m0, .int .i64 s.m1, .int .i64 s.m2, .int .i64 s.m3, .bool s.stk, .int .i64 s.n, .int .i64 s.d, .int .i64 s.c0, .int .i64 s.c1]
def sgv (s : Sg) : Value := .agg (sgA s)
def sgO (s : Sg) : Obj := .cells (sgA s) 27
def sgL (s : Sg) : List Value := (sgA s).toList
theorem sgL_len (s : Sg) : (sgL s).length = 17 := rfl
theorem sgL_one (s : Sg) : ∀ u ∈ sgL s, u.oneCell' = true := by
  intro u hu
  simp only [sgL, sgA, List.mem_cons, List.not_mem_nil, or_false] at hu
  rcases hu with rfl | rfl | rfl | rfl | rfl | rfl | rfl | rfl | rfl | rfl | rfl | rfl | rfl | rfl | rfl | rfl | rfl <;> rfl
/-- The cells of signs. -/
def flatG : List Sg → List Value
  | [] => []
  | s :: t => sgL s ++ flatG t
theorem flatG_len : ∀ l : List Sg, (flatG l).length = l.length * 17
  | [] => rfl
  | s :: t => by have := flatG_len t; simp only [flatG, List.length_append, List.length_cons, sgL_len]; omega
theorem flatG_app : ∀ l m : List Sg, flatG (l ++ m) = flatG l ++ flatG m
  | [], _ => rfl
  | s :: t, m => by show flatG (s :: (t ++ m)) = _; simp [flatG, flatG_app t m]
theorem flatG_one : ∀ l : List Sg, ∀ u ∈ flatG l, u.oneCell' = true
  | [], u, h => by simp [flatG] at h
  | s :: t, u, h => by
    simp only [flatG, List.mem_append] at h
    rcases h with h | h
    · exact sgL_one s u h
    · exact flatG_one t u h
theorem flatG_at : ∀ (l : List Sg) (k : Nat) (s : Sg), l[k]? = some s → ∀ j, j < 17 → (flatG l)[k * 17 + j]? = (sgL s)[j]?
  | [], k, s, h, _, _ => by simp at h
  | a :: t, 0, s, h, j, hj => by
    simp at h; subst h
    simp only [flatG, Nat.zero_mul, Nat.zero_add]
    exact List.getElem?_append_left (by rw [sgL_len]; exact hj)
  | a :: t, k + 1, s, h, j, hj => by
    have := flatG_at t k s (by simpa using h) j hj
    rw [show (k + 1) * 17 + j = (sgL a).length + (k * 17 + j) by rw [sgL_len]; omega]
    simp only [flatG]
    rw [List.getElem?_append_right (by omega), Nat.add_sub_cancel_left]
    exact this
/-- A sign stands in block b from offset o on. -/
structure SgAt (w : World) (b o : Nat) (s : Sg) : Prop where
  e0 : w.cell? ⟨b, o, none⟩ = some (.int .i64 s.kind)
  e1 : w.cell? ⟨b, o + 1, none⟩ = some (.int .i64 s.val)
  e2 : w.cell? ⟨b, o + 2, none⟩ = some (.int .i64 s.place)
  e3 : w.cell? ⟨b, o + 3, none⟩ = some (.int .i64 s.acc)
  e4 : w.cell? ⟨b, o + 4, none⟩ = some (.bool s.col)
  e5 : w.cell? ⟨b, o + 5, none⟩ = some (.int .i64 s.stem)
  e6 : w.cell? ⟨b, o + 6, none⟩ = some (.bool s.obl)
  e7 : w.cell? ⟨b, o + 7, none⟩ = some (.bool s.last)
  e8 : w.cell? ⟨b, o + 8, none⟩ = some (.int .i64 s.m0)
  e9 : w.cell? ⟨b, o + 9, none⟩ = some (.int .i64 s.m1)
  e10 : w.cell? ⟨b, o + 10, none⟩ = some (.int .i64 s.m2)
  e11 : w.cell? ⟨b, o + 11, none⟩ = some (.int .i64 s.m3)
  e12 : w.cell? ⟨b, o + 12, none⟩ = some (.bool s.stk)
  e13 : w.cell? ⟨b, o + 13, none⟩ = some (.int .i64 s.n)
  e14 : w.cell? ⟨b, o + 14, none⟩ = some (.int .i64 s.d)
  e15 : w.cell? ⟨b, o + 15, none⟩ = some (.int .i64 s.c0)
  e16 : w.cell? ⟨b, o + 16, none⟩ = some (.int .i64 s.c1)
theorem SgAt.later {w w1 : World} {b o : Nat} {s : Sg} (h : SgAt w b o s) (k : Below w.heap.size w w1) : SgAt w1 b o s :=
  ⟨cell_later k h.e0, cell_later k h.e1, cell_later k h.e2, cell_later k h.e3, cell_later k h.e4, cell_later k h.e5, cell_later k h.e6, cell_later k h.e7, cell_later k h.e8, cell_later k h.e9, cell_later k h.e10, cell_later k h.e11, cell_later k h.e12, cell_later k h.e13, cell_later k h.e14, cell_later k h.e15, cell_later k h.e16⟩
def SgV (w : World) (v : Value) (l : List Sg) : Prop := ∃ p cap, v = .slice p l.length cap ∧ SlP w 17 p l.length cap (flatG l)
theorem SgV.later {w w1 : World} {v : Value} {l : List Sg} (h : SgV w v l) (b : Below w.heap.size w w1) : SgV w1 v l := by
  obtain ⟨p, cap, e, k⟩ := h; exact ⟨p, cap, e, k.later b⟩
theorem SgV.none (w : World) : SgV w (.slice none 0 0) [] := ⟨_, 0, rfl, ⟨rfl, by simp, by omega, fun _ => rfl, by simp [flatG], fun h => by simp at h⟩⟩
theorem SgV.of_own {w : World} {base : Nat} {e : TypeId} {v : Value} {l : List Sg} (h : w.ownsRow base e 17 v l.length (flatG l)) : SgV w v l := SlP.of_own h (flatG_len l) (flatG_one l)
theorem SlP.sg {w : World} {p : Option Addr} {cap : Nat} {l : List Sg} (h : SlP w 17 p l.length cap (flatG l)) {i : Nat} {s : Sg} (hi : l[i]? = some s) :
    ∃ b off, p = some ⟨b, off, none⟩ ∧ b < w.heap.size ∧ SgAt w b (off + i * 17) s := by
  have hlt := (List.getElem?_eq_some_iff.1 hi).1
  obtain ⟨b, off, e, hb, hc⟩ := h.at_ (by omega)
  have hf := flatG_at l i s hi
  have g : ∀ j u, j < 17 → (sgL s)[j]? = some u → w.cell? ⟨b, off + i * 17 + j, none⟩ = some u := fun j u hj hu => by
    rw [Nat.add_assoc]; exact hc _ _ ((hf j hj).trans hu)
  exact ⟨b, off, e, hb, ⟨g 0 _ (by decide) rfl, g 1 _ (by decide) rfl, g 2 _ (by decide) rfl, g 3 _ (by decide) rfl, g 4 _ (by decide) rfl, g 5 _ (by decide) rfl, g 6 _ (by decide) rfl, g 7 _ (by decide) rfl, g 8 _ (by decide) rfl, g 9 _ (by decide) rfl, g 10 _ (by decide) rfl, g 11 _ (by decide) rfl, g 12 _ (by decide) rfl, g 13 _ (by decide) rfl, g 14 _ (by decide) rfl, g 15 _ (by decide) rfl, g 16 _ (by decide) rfl⟩⟩
theorem info_sign : (Tryz.prog.info? 27).map (fun i => (i.zero, i.size, i.bytes)) = some (some (sgv ⟨0, 0, 0, 0, false, 0, false, false, 0, 0, 0, 0, false, 0, 0, 0, 0⟩), 17, 128) := by kernel_rfl
/-- Two signs are equal, field by field. -/
def sgE (a b : Sg) : Bool := (a.kind == b.kind) && (a.val == b.val) && (a.place == b.place) && (a.acc == b.acc) && (a.col == b.col) && (a.stem == b.stem) && (a.obl == b.obl) && (a.last == b.last) && (a.m0 == b.m0) && (a.m1 == b.m1) && (a.m2 == b.m2) && (a.m3 == b.m3) && (a.stk == b.stk) && (a.n == b.n) && (a.d == b.d) && (a.c0 == b.c0) && (a.c1 == b.c1)
theorem sgE_iff (a b : Sg) : sgE a b = true ↔ a = b := by
  constructor
  · intro h
    simp only [sgE, Bool.and_eq_true, beq_iff_eq, and_assoc] at h
    obtain ⟨h0, h1, h2, h3, h4, h5, h6, h7, h8, h9, h10, h11, h12, h13, h14, h15, h16⟩ := h
    obtain ⟨x0, x1, x2, x3, x4, x5, x6, x7, x8, x9, x10, x11, x12, x13, x14, x15, x16⟩ := a
    obtain ⟨y0, y1, y2, y3, y4, y5, y6, y7, y8, y9, y10, y11, y12, y13, y14, y15, y16⟩ := b
    simp only at h0 h1 h2 h3 h4 h5 h6 h7 h8 h9 h10 h11 h12 h13 h14 h15 h16
    rw [h0, h1, h2, h3, h4, h5, h6, h7, h8, h9, h10, h11, h12, h13, h14, h15, h16]
  · rintro rfl
    simp [sgE]
instance : DecidableEq Sg := fun a b => decidable_of_iff _ (sgE_iff a b)
set_option maxHeartbeats 4000000 in
theorem sg_eqs (a b : Sg) (w : World) : (Op.equalIn 10000 27 (sgv a) (sgv b)).run Tryz.prog w = .ok (sgE a b) w := by
  unfold sgE sgv sgA
  obtain ⟨x0, x1, x2, x3, x4, x5, x6, x7, x8, x9, x10, x11, x12, x13, x14, x15, x16⟩ := a
  obtain ⟨y0, y1, y2, y3, y4, y5, y6, y7, y8, y9, y10, y11, y12, y13, y14, y15, y16⟩ := b
  simp only
  by_cases h0 : (x0 == y0) = true
  case neg =>
    have h : (x0 == y0) = false := by simpa using h0
    simp [go_sem, h]
  by_cases h1 : (x1 == y1) = true
  case neg =>
    have h : (x1 == y1) = false := by simpa using h1
    simp [go_sem, h0, h]
  by_cases h2 : (x2 == y2) = true
  case neg =>
    have h : (x2 == y2) = false := by simpa using h2
    simp [go_sem, h0, h1, h]
  by_cases h3 : (x3 == y3) = true
  case neg =>
    have h : (x3 == y3) = false := by simpa using h3
    simp [go_sem, h0, h1, h2, h]
  by_cases h4 : (x4 == y4) = true
  case neg =>
    have h : (x4 == y4) = false := by simpa using h4
    simp [go_sem, h0, h1, h2, h3, h]
  by_cases h5 : (x5 == y5) = true
  case neg =>
    have h : (x5 == y5) = false := by simpa using h5
    simp [go_sem, h0, h1, h2, h3, h4, h]
  by_cases h6 : (x6 == y6) = true
  case neg =>
    have h : (x6 == y6) = false := by simpa using h6
    simp [go_sem, h0, h1, h2, h3, h4, h5, h]
  by_cases h7 : (x7 == y7) = true
  case neg =>
    have h : (x7 == y7) = false := by simpa using h7
    simp [go_sem, h0, h1, h2, h3, h4, h5, h6, h]
  by_cases h8 : (x8 == y8) = true
  case neg =>
    have h : (x8 == y8) = false := by simpa using h8
    simp [go_sem, h0, h1, h2, h3, h4, h5, h6, h7, h]
  by_cases h9 : (x9 == y9) = true
  case neg =>
    have h : (x9 == y9) = false := by simpa using h9
    simp [go_sem, h0, h1, h2, h3, h4, h5, h6, h7, h8, h]
  by_cases h10 : (x10 == y10) = true
  case neg =>
    have h : (x10 == y10) = false := by simpa using h10
    simp [go_sem, h0, h1, h2, h3, h4, h5, h6, h7, h8, h9, h]
  by_cases h11 : (x11 == y11) = true
  case neg =>
    have h : (x11 == y11) = false := by simpa using h11
    simp [go_sem, h0, h1, h2, h3, h4, h5, h6, h7, h8, h9, h10, h]
  by_cases h12 : (x12 == y12) = true
  case neg =>
    have h : (x12 == y12) = false := by simpa using h12
    simp [go_sem, h0, h1, h2, h3, h4, h5, h6, h7, h8, h9, h10, h11, h]
  by_cases h13 : (x13 == y13) = true
  case neg =>
    have h : (x13 == y13) = false := by simpa using h13
    simp [go_sem, h0, h1, h2, h3, h4, h5, h6, h7, h8, h9, h10, h11, h12, h]
  by_cases h14 : (x14 == y14) = true
  case neg =>
    have h : (x14 == y14) = false := by simpa using h14
    simp [go_sem, h0, h1, h2, h3, h4, h5, h6, h7, h8, h9, h10, h11, h12, h13, h]
  by_cases h15 : (x15 == y15) = true
  case neg =>
    have h : (x15 == y15) = false := by simpa using h15
    simp [go_sem, h0, h1, h2, h3, h4, h5, h6, h7, h8, h9, h10, h11, h12, h13, h14, h]
  by_cases h16 : (x16 == y16) = true
  case neg =>
    have h : (x16 == y16) = false := by simpa using h16
    simp [go_sem, h0, h1, h2, h3, h4, h5, h6, h7, h8, h9, h10, h11, h12, h13, h14, h15, h]
  simp [go_sem, h0, h1, h2, h3, h4, h5, h6, h7, h8, h9, h10, h11, h12, h13, h14, h15, h16]
theorem sg_neq (a b : Sg) (w : World) : (binOp .neq 27 (sgv a) (sgv b)).run Tryz.prog w = .ok (.bool (!(sgE a b))) w := by
  have h := sg_eqs a b w
  unfold sgv at h ⊢
  rw [run_neq_struct, h]; rfl
theorem sg_guard (op : BinOp) (x y : Operand) (a b : Sg) (w : World) : (eqGuard op 27 x y (sgv a) (sgv b)).run Tryz.prog w = .ok () w := by
  unfold sgv
  exact run_eqGuard_agg w op 27 x y (sgA a) (sgA b) (by kernel_rfl)
/-! ### Whole signs: loaded, stored, boxed, handed back, without being opened -/
theorem sg_size : (Tryz.prog.info? 27).map (·.size) = some 17 := by kernel_rfl
theorem SgAt.range {w : World} {b o : Nat} {s : Sg} (h : SgAt w b o s) : w.rangeAt b o (sgL s) := by
  intro j v hj
  have hlt : j < 17 := by
    have := (List.getElem?_eq_some_iff.1 hj).1
    rwa [sgL_len] at this
  obtain ⟨e0, e1, e2, e3, e4, e5, e6, e7, e8, e9, e10, e11, e12, e13, e14, e15, e16⟩ := h
  have c : j = 0 ∨ j = 1 ∨ j = 2 ∨ j = 3 ∨ j = 4 ∨ j = 5 ∨ j = 6 ∨ j = 7 ∨ j = 8 ∨ j = 9 ∨ j = 10 ∨ j = 11 ∨ j = 12 ∨ j = 13 ∨ j = 14 ∨ j = 15 ∨ j = 16 := by omega
  rcases c with rfl | rfl | rfl | rfl | rfl | rfl | rfl | rfl | rfl | rfl | rfl | rfl | rfl | rfl | rfl | rfl | rfl
  · obtain rfl : _ = v := Option.some.inj hj; exact e0
  · obtain rfl : _ = v := Option.some.inj hj; exact e1
  · obtain rfl : _ = v := Option.some.inj hj; exact e2
  · obtain rfl : _ = v := Option.some.inj hj; exact e3
  · obtain rfl : _ = v := Option.some.inj hj; exact e4
  · obtain rfl : _ = v := Option.some.inj hj; exact e5
  · obtain rfl : _ = v := Option.some.inj hj; exact e6
  · obtain rfl : _ = v := Option.some.inj hj; exact e7
  · obtain rfl : _ = v := Option.some.inj hj; exact e8
  · obtain rfl : _ = v := Option.some.inj hj; exact e9
  · obtain rfl : _ = v := Option.some.inj hj; exact e10
  · obtain rfl : _ = v := Option.some.inj hj; exact e11
  · obtain rfl : _ = v := Option.some.inj hj; exact e12
  · obtain rfl : _ = v := Option.some.inj hj; exact e13
  · obtain rfl : _ = v := Option.some.inj hj; exact e14
  · obtain rfl : _ = v := Option.some.inj hj; exact e15
  · obtain rfl : _ = v := Option.some.inj hj; exact e16
end Go.Proofs.YtdmedealdhadcaaGreatDoor

namespace Go.Proofs.YtdmedealdhadcaaGreatDoor
open Go.ChangeShapes Go.WideShapes Go.ChangeAt Go.RowKit Go.Deep
theorem spot_none4 {w : World} {a : Addr} {v : Value} (h : w.cell? a = some v) : a.spot = none := by
  unfold World.cell? at h
  split at h
  · split at h
    · cases h
    · rename_i h2; simpa using h2
  · cases h
theorem addr_plain4 {a : Addr} (h : a.spot = none) : ∃ b off, a = ⟨b, off, none⟩ := by
  obtain ⟨b, off, sp⟩ := a
  obtain rfl : sp = none := h
  exact ⟨b, off, rfl⟩
theorem list17 {α : Type} {l : List α} (h : l.length = 17) : ∃ v0 v1 v2 v3 v4 v5 v6 v7 v8 v9 v10 v11 v12 v13 v14 v15 v16, l = [v0, v1, v2, v3, v4, v5, v6, v7, v8, v9, v10, v11, v12, v13, v14, v15, v16] := by
  match l, h with
  | [v0, v1, v2, v3, v4, v5, v6, v7, v8, v9, v10, v11, v12, v13, v14, v15, v16], _ => exact ⟨v0, v1, v2, v3, v4, v5, v6, v7, v8, v9, v10, v11, v12, v13, v14, v15, v16, rfl⟩
theorem size_sig4 : Tryz.prog.cellsOf 27 = 17 := by kernel_rfl
theorem size_int4 : Tryz.prog.cellsOf 3 = 1 := by kernel_rfl
theorem size_bool4 : Tryz.prog.cellsOf 4 = 1 := by kernel_rfl
theorem size_mens4 : Tryz.prog.cellsOf 23 = 4 := by kernel_rfl
theorem size_clef4 : Tryz.prog.cellsOf 25 = 2 := by kernel_rfl
theorem xs_some {α : Type} {xs : List α} {n i : Nat} (h : xs.length = n) (hi : i < n) : ∃ x, xs[i]? = some x := ⟨xs[i]'(by omega), List.getElem?_eq_getElem _⟩
section
variable {H : Type} {enc : TypeId × Value → H} {W : World} {sp : Nat → Bool} {hd : Bool} {b0 : Nat}
theorem cells_mens {fuel : Nat} {v0 v1 v2 v3 : Value} {x : DataW H × List MemPlace} (h : DataW.trod enc Tryz.prog W b0 sp hd fuel 23 [v0, v1, v2, v3] = some x) :
    ∃ a b c d : Int, v0 = .int .i64 a ∧ v1 = .int .i64 b ∧ v2 = .int .i64 c ∧ v3 = .int .i64 d := by
  obtain ⟨xs, k, hk, hxy, _, hxl, hf⟩ := DataW.trod_struct Tryz.underlying23 h
  have hxl : xs.length = 4 := hxl
  obtain ⟨y0, e0⟩ := xs_some hxl (show 0 < 4 by decide)
  have g0 := hf 0 _ rfl
  rw [e0] at g0
  simp [size_int4] at g0
  obtain ⟨a0, h0, _, _⟩ := DataW.trod_int Tryz.underlying3 g0
  simp only [List.cons.injEq, and_true] at h0
  obtain ⟨y1, e1⟩ := xs_some hxl (show 1 < 4 by decide)
  have g1 := hf 1 _ rfl
  rw [e1] at g1
  simp [size_int4] at g1
  obtain ⟨a1, h1, _, _⟩ := DataW.trod_int Tryz.underlying3 g1
  simp only [List.cons.injEq, and_true] at h1
  obtain ⟨y2, e2⟩ := xs_some hxl (show 2 < 4 by decide)
  have g2 := hf 2 _ rfl
  rw [e2] at g2
  simp [size_int4] at g2
  obtain ⟨a2, h2, _, _⟩ := DataW.trod_int Tryz.underlying3 g2
  simp only [List.cons.injEq, and_true] at h2
  obtain ⟨y3, e3⟩ := xs_some hxl (show 3 < 4 by decide)
  have g3 := hf 3 _ rfl
  rw [e3] at g3
  simp [size_int4] at g3
  obtain ⟨a3, h3, _, _⟩ := DataW.trod_int Tryz.underlying3 g3
  simp only [List.cons.injEq, and_true] at h3
  exact ⟨a0, a1, a2, a3, h0, h1, h2, h3⟩
theorem cells_clef {fuel : Nat} {v0 v1 : Value} {x : DataW H × List MemPlace} (h : DataW.trod enc Tryz.prog W b0 sp hd fuel 25 [v0, v1] = some x) :
    ∃ a b : Int, v0 = .int .i64 a ∧ v1 = .int .i64 b := by
  obtain ⟨xs, k, hk, hxy, _, hxl, hf⟩ := DataW.trod_struct Tryz.underlying25 h
  have hxl : xs.length = 2 := hxl
  obtain ⟨y0, e0⟩ := xs_some hxl (show 0 < 2 by decide)
  have g0 := hf 0 _ rfl
  rw [e0] at g0
  simp [size_int4] at g0
  obtain ⟨a0, h0, _, _⟩ := DataW.trod_int Tryz.underlying3 g0
  simp only [List.cons.injEq, and_true] at h0
  obtain ⟨y1, e1⟩ := xs_some hxl (show 1 < 2 by decide)
  have g1 := hf 1 _ rfl
  rw [e1] at g1
  simp [size_int4] at g1
  obtain ⟨a1, h1, _, _⟩ := DataW.trod_int Tryz.underlying3 g1
  simp only [List.cons.injEq, and_true] at h1
  exact ⟨a0, a1, h0, h1⟩
set_option maxRecDepth 100000 in
set_option maxHeartbeats 4000000 in
theorem cells_sign {fuel : Nat} {cs : List Value} {x : DataW H × List MemPlace} (h : DataW.trod enc Tryz.prog W b0 sp hd fuel 27 cs = some x) (hl : cs.length = 17) : ∃ s : Sg, cs = sgL s := by
  obtain ⟨xs, k, hk, hxy, _, hxl, hf⟩ := DataW.trod_struct Tryz.underlying27 h
  have hxl : xs.length = 13 := hxl
  obtain ⟨v0, v1, v2, v3, v4, v5, v6, v7, v8, v9, v10, v11, v12, v13, v14, v15, v16, rfl⟩ := list17 hl
  clear hxy h hl
  obtain ⟨y0, e0⟩ := xs_some hxl (show 0 < 13 by decide)
  have g0 := hf 0 _ rfl
  rw [e0] at g0
  simp [size_int4] at g0
  obtain ⟨a0, h0, _, _⟩ := DataW.trod_int Tryz.underlying3 g0
  simp only [List.cons.injEq, and_true] at h0
  clear g0 e0
  obtain ⟨y1, e1⟩ := xs_some hxl (show 1 < 13 by decide)
  have g1 := hf 1 _ rfl
  rw [e1] at g1
  simp [size_int4] at g1
  obtain ⟨a1, h1, _, _⟩ := DataW.trod_int Tryz.underlying3 g1
  simp only [List.cons.injEq, and_true] at h1
  clear g1 e1
  obtain ⟨y2, e2⟩ := xs_some hxl (show 2 < 13 by decide)
  have g2 := hf 2 _ rfl
  rw [e2] at g2
  simp [size_int4] at g2
  obtain ⟨a2, h2, _, _⟩ := DataW.trod_int Tryz.underlying3 g2
  simp only [List.cons.injEq, and_true] at h2
  clear g2 e2
  obtain ⟨y3, e3⟩ := xs_some hxl (show 3 < 13 by decide)
  have g3 := hf 3 _ rfl
  rw [e3] at g3
  simp [size_int4] at g3
  obtain ⟨a3, h3, _, _⟩ := DataW.trod_int Tryz.underlying3 g3
  simp only [List.cons.injEq, and_true] at h3
  clear g3 e3
  obtain ⟨y4, e4⟩ := xs_some hxl (show 4 < 13 by decide)
  have g4 := hf 4 _ rfl
  rw [e4] at g4
  simp [size_bool4] at g4
  obtain ⟨a4, h4, _⟩ := DataW.trod_bool Tryz.underlying4 g4
  simp only [List.cons.injEq, and_true] at h4
  clear g4 e4
  obtain ⟨y5, e5⟩ := xs_some hxl (show 5 < 13 by decide)
  have g5 := hf 5 _ rfl
  rw [e5] at g5
  simp [size_int4] at g5
  obtain ⟨a5, h5, _, _⟩ := DataW.trod_int Tryz.underlying3 g5
  simp only [List.cons.injEq, and_true] at h5
  clear g5 e5
  obtain ⟨y6, e6⟩ := xs_some hxl (show 6 < 13 by decide)
  have g6 := hf 6 _ rfl
  rw [e6] at g6
  simp [size_bool4] at g6
  obtain ⟨a6, h6, _⟩ := DataW.trod_bool Tryz.underlying4 g6
  simp only [List.cons.injEq, and_true] at h6
  clear g6 e6
  obtain ⟨y7, e7⟩ := xs_some hxl (show 7 < 13 by decide)
  have g7 := hf 7 _ rfl
  rw [e7] at g7
  simp [size_bool4] at g7
  obtain ⟨a7, h7, _⟩ := DataW.trod_bool Tryz.underlying4 g7
  simp only [List.cons.injEq, and_true] at h7
  clear g7 e7
  obtain ⟨y8, e8⟩ := xs_some hxl (show 8 < 13 by decide)
  have g8 := hf 8 _ rfl
  rw [e8] at g8
  simp [size_mens4] at g8
  obtain ⟨m0, m1, m2, m3, k0, k1, k2, k3⟩ := cells_mens g8
  clear g8 e8
  obtain ⟨y9, e9⟩ := xs_some hxl (show 9 < 13 by decide)
  have g9 := hf 9 _ rfl
  rw [e9] at g9
  simp [size_bool4] at g9
  obtain ⟨a9, h9, _⟩ := DataW.trod_bool Tryz.underlying4 g9
  simp only [List.cons.injEq, and_true] at h9
  clear g9 e9
  obtain ⟨y10, e10⟩ := xs_some hxl (show 10 < 13 by decide)
  have g10 := hf 10 _ rfl
  rw [e10] at g10
  simp [size_int4] at g10
  obtain ⟨a10, h10, _, _⟩ := DataW.trod_int Tryz.underlying3 g10
  simp only [List.cons.injEq, and_true] at h10
  clear g10 e10
  obtain ⟨y11, e11⟩ := xs_some hxl (show 11 < 13 by decide)
  have g11 := hf 11 _ rfl
  rw [e11] at g11
  simp [size_int4] at g11
  obtain ⟨a11, h11, _, _⟩ := DataW.trod_int Tryz.underlying3 g11
  simp only [List.cons.injEq, and_true] at h11
  clear g11 e11
  obtain ⟨y12, e12⟩ := xs_some hxl (show 12 < 13 by decide)
  have g12 := hf 12 _ rfl
  rw [e12] at g12
  simp [size_clef4] at g12
  obtain ⟨c0, c1, j0, j1⟩ := cells_clef g12
  clear g12 e12
  refine ⟨⟨a0, a1, a2, a3, a4, a5, a6, a7, m0, m1, m2, m3, a9, a10, a11, c0, c1⟩, ?_⟩
  rw [h0, h1, h2, h3, h4, h5, h6, h7, k0, k1, k2, k3, h9, h10, h11, j0, j1]; rfl
instance : Inhabited Sg := ⟨⟨0, 0, 0, 0, false, 0, false, false, 0, 0, 0, 0, false, 0, 0, 0, 0⟩⟩
set_option maxRecDepth 100000 in
/-- An argument that is a list of numbers. -/
theorem open_nums {base : Nat} {r : Reach} {v : Value} {d : DataW H} {ps : List MemPlace} (hw : Value.okWide Tryz.prog W r base 53 v)
    (h : DataW.Trod enc Tryz.prog W 0 (fun _ => true) true 53 v d ps) : ∃ (p : Option Addr) (cap : Nat) (l : List Int), v = .slice p l.length cap ∧ SlP W 1 p l.length cap (ints l) ∧ ∀ z ∈ l, -9223372036854775808 ≤ z ∧ z ≤ 9223372036854775807 := by
  obtain ⟨a0, len, cap, rfl⟩ := okWide_slice Tryz.underlying53 hw
  obtain ⟨fuel, hf⟩ := h
  rcases open_ints Tryz.underlying53 Tryz.underlying3 size_int4 hf with ⟨hcs, hx⟩ | ⟨a, len', cap', zs, hcs, _, hl, hm, hz, hx, hcell, hwz⟩
  · simp [Value.cells] at hcs
    obtain ⟨rfl, rfl, rfl⟩ := hcs
    exact ⟨none, 0, [], rfl, ⟨by simp [ints], by simp, by omega, fun _ => rfl, by simp [ints], fun h0 => by simp at h0⟩, by simp⟩
  · simp [Value.cells] at hcs
    obtain ⟨rfl, rfl, rfl⟩ := hcs
    have hm2 : zs.length = cap := by rw [hz]; simp
    have hlen : (zs.take len).length = len := by rw [List.length_take]; omega
    unfold maxLen at hm
    refine ⟨some a, cap, zs.take len, by rw [hlen], ⟨by simp [ints], by rw [hlen]; exact hl, by omega, fun e => (by cases e), fun u hu => ?_, fun h0 => ?_⟩, fun z hz' => ?_⟩
    · obtain ⟨z, _, rfl⟩ := List.mem_map.1 hu
      rfl
    · rw [hlen] at h0
      obtain ⟨b, off, rfl⟩ := addr_plain4 (by have := spot_none4 (hcell 0 (by omega)); unfold Addr.add at this; simpa using this)
      refine ⟨b, off, rfl, World.block_lt_of_cell? _ _ (hcell 0 (by omega)), fun j u hu => ?_⟩
      rw [ints, List.getElem?_map] at hu
      cases hj : (zs.take len)[j]? with
      | none => rw [hj] at hu; cases hu
      | some z =>
        rw [hj] at hu
        have hu := Option.some.inj hu
        subst hu
        have hjl := (List.getElem?_eq_some_iff.1 hj).1
        rw [hlen] at hjl
        have := hcell j (by omega)
        rw [add_none] at this
        rw [this]
        have e : zs.getD j 0 = z := by
          rw [List.getElem?_take_of_lt hjl] at hj
          simp [List.getD, hj]
        rw [e]
    · obtain ⟨j, hj, rfl⟩ := List.getElem_of_mem hz'
      rw [hlen] at hj
      have := range_i64 hwz j
      rw [List.getElem_take]
      have e : zs[j]?.getD 0 = zs[j]'(by omega) := by simp [List.getElem?_eq_getElem (show j < zs.length by omega)]
      rw [e] at this
      exact this
end
end Go.Proofs.YtdmedealdhadcaaGreatDoor

namespace Go.Proofs.YtdmedealdhadcaaGreatDoor
open Go.RowKit
theorem HoldsB.sg {w : World} {b : Nat} {s : Sg} (h : HoldsB w b 27 (sgA s)) : SgAt w b 0 s :=
  ⟨h.cell (j := 0) rfl, h.cell (j := 1) rfl, h.cell (j := 2) rfl, h.cell (j := 3) rfl, h.cell (j := 4) rfl, h.cell (j := 5) rfl, h.cell (j := 6) rfl, h.cell (j := 7) rfl, h.cell (j := 8) rfl, h.cell (j := 9) rfl, h.cell (j := 10) rfl, h.cell (j := 11) rfl, h.cell (j := 12) rfl, h.cell (j := 13) rfl, h.cell (j := 14) rfl, h.cell (j := 15) rfl, h.cell (j := 16) rfl⟩
theorem sg_new (w : World) (s : Sg) : HoldsB (w.alloc (sgO s)) w.heap.size 27 (sgA s) := HoldsB.new w _ _
/-- The zero sign, as an alloc lays it. -/
abbrev zO : Obj := .cells #[.int .i64 0, .int .i64 0, .int .i64 0, .int .i64 0, .bool false, .int .i64 0, .bool false, .bool false, .int .i64 0, .int .i64 0, .int .i64 0, .int .i64 0, .bool false, .int .i64 0, .int .i64 0, .int .i64 0, .int .i64 0] 27
theorem sg_loadVar {w : World} {b o : Nat} {s : Sg} (h : SgAt w b o s) : (loadVar 27 ⟨b, o, none⟩).run Tryz.prog w = .ok (sgv s) w :=
  run_loadVar_mid w b o 27 (sgL s) _ h.range Tryz.underlying27 rfl sg_size
theorem sgA_g0 (s : Sg) (h : 0 < (sgA s).size) : (sgA s)[0]'h = .int .i64 s.kind := rfl
theorem sgA_g1 (s : Sg) (h : 1 < (sgA s).size) : (sgA s)[1]'h = .int .i64 s.val := rfl
theorem sgA_g2 (s : Sg) (h : 2 < (sgA s).size) : (sgA s)[2]'h = .int .i64 s.place := rfl
theorem sgA_g3 (s : Sg) (h : 3 < (sgA s).size) : (sgA s)[3]'h = .int .i64 s.acc := rfl
theorem sgA_g4 (s : Sg) (h : 4 < (sgA s).size) : (sgA s)[4]'h = .bool s.col := rfl
theorem sgA_g5 (s : Sg) (h : 5 < (sgA s).size) : (sgA s)[5]'h = .int .i64 s.stem := rfl
theorem sgA_g6 (s : Sg) (h : 6 < (sgA s).size) : (sgA s)[6]'h = .bool s.obl := rfl
theorem sgA_g7 (s : Sg) (h : 7 < (sgA s).size) : (sgA s)[7]'h = .bool s.last := rfl
theorem sgA_g8 (s : Sg) (h : 8 < (sgA s).size) : (sgA s)[8]'h = .int .i64 s.m0 := rfl
theorem sgA_g9 (s : Sg) (h : 9 < (sgA s).size) : (sgA s)[9]'h = .int .i64 s.m1 := rfl
theorem sgA_g10 (s : Sg) (h : 10 < (sgA s).size) : (sgA s)[10]'h = .int .i64 s.m2 := rfl
theorem sgA_g11 (s : Sg) (h : 11 < (sgA s).size) : (sgA s)[11]'h = .int .i64 s.m3 := rfl
theorem sgA_g12 (s : Sg) (h : 12 < (sgA s).size) : (sgA s)[12]'h = .bool s.stk := rfl
theorem sgA_g13 (s : Sg) (h : 13 < (sgA s).size) : (sgA s)[13]'h = .int .i64 s.n := rfl
theorem sgA_g14 (s : Sg) (h : 14 < (sgA s).size) : (sgA s)[14]'h = .int .i64 s.d := rfl
theorem sgA_g15 (s : Sg) (h : 15 < (sgA s).size) : (sgA s)[15]'h = .int .i64 s.c0 := rfl
theorem sgA_g16 (s : Sg) (h : 16 < (sgA s).size) : (sgA s)[16]'h = .int .i64 s.c1 := rfl
theorem sg_all (s : Sg) : (sgA s).all (·.oneCell') = true := by
  have := all_oneCell_toArray (sgL_one s)
  rwa [show (sgL s).toArray = sgA s from rfl] at this
section
variable {ops : Array Oper} {rest : List Oper} {dd : Option Tmp} {x y : Operand} {t : TypeId} {ps : String} {af : Array Edge} {a : Act} {Q : Exit → Act → World → Prop}
theorem wl_load {w : World} (b o : Nat) (s : Sg) (hx : a.eval x = .pointer (some ⟨b, o, none⟩)) (hs : SgAt w b o s) (h : wpList Tryz.prog ops Q rest (a.put dd (sgv s)) w) :
    wpList Tryz.prog ops Q ({ dst := dd, op := .load 27 x, type := t, pos := ps, after := af, guard := none } :: rest) a w :=
  wpList_load_mid rfl 27 x rfl b o hx (sgL s) _ hs.range Tryz.underlying27 rfl sg_size h
/-- A load of a whole sign that is guarded. -/
theorem wl_loadG {w : World} {g : Option (Nat × Bool)} (b o : Nat) (s : Sg) (hw : Region.wanted { dst := dd, op := .load 27 x, type := t, pos := ps, after := af, guard := g } (yielded ops a.tmps) = true)
    (hx : a.eval x = .pointer (some ⟨b, o, none⟩)) (hs : SgAt w b o s) (h : wpList Tryz.prog ops Q rest (a.put dd (sgv s)) w) :
    wpList Tryz.prog ops Q ({ dst := dd, op := .load 27 x, type := t, pos := ps, after := af, guard := g } :: rest) a w := by
  unfold wpList
  rw [if_pos hw]
  exact .inl (wp_load_mid 27 x rfl b o hx (sgL s) _ hs.range Tryz.underlying27 rfl sg_size h)
theorem wl_store {W : World} (B : Nat) (c : Array Value) (s : Sg) (hB : B = W.heap.size) (hx : a.eval x = .pointer (some ⟨B, 0, none⟩)) (hy : a.eval y = sgv s) (hc : c.size = 17)
    (h : wpList Tryz.prog ops Q rest (a.put dd undef) (W.alloc (sgO s))) :
    wpList Tryz.prog ops Q ({ dst := dd, op := .store 27 x y, type := t, pos := ps, after := af, guard := none } :: rest) a (W.alloc (.cells c 27)) := by
  subst hB
  refine wpList_plain rfl fun _ hK => ?_
  unfold Oper.wp execOp
  simp only [hx, hy, Instr.storeAt, Instr.sureAddr, Sem.run_bind, Sem.run_pure, Result.andThen_ok]
  unfold sgv
  simp only [run_storeVar_new (P := Tryz.prog) W 27 c (sgA s) sg_size (by rw [hc]; rfl) (sg_all s)]
  exact hK _ _ h
theorem wl_box {w : World} (s : Sg) (hx : a.eval x = sgv s) (h : wpList Tryz.prog ops Q rest (a.put dd (.pointer (some ⟨w.heap.size, 0, none⟩))) (w.alloc (sgO s))) :
    wpList Tryz.prog ops Q ({ dst := dd, op := .box 27 x, type := t, pos := ps, after := af, guard := none } :: rest) a w := by
  refine wpList_plain rfl fun _ hK => ?_
  unfold Oper.wp execOp
  have e : (Instr.box 27 (sgv s)).run Tryz.prog w = .ok (.pointer (some ⟨w.heap.size, 0, none⟩)) (w.alloc (sgO s)) := by
    unfold sgv sgO
    simp [Instr.box, newVar, go_sem]
  simp only [hx, Sem.run_bind, e, Result.andThen_ok, Sem.run_pure]
  exact hK _ _ h
end
theorem sg_yields {ops : Array Oper} {S : World → Prop} {op : Oper} {a : Act} (x : Operand) (b o : Nat) (s : Sg) (hw : Region.wanted op (yielded ops a.tmps) = true) (ho : op.op = .load 27 x)
    (hx : a.eval x = .pointer (some ⟨b, o, none⟩)) (hS : ∀ w, S w → SgAt w b o s) : YieldsIf Tryz.prog ops S op (sgv s) a :=
  yieldsIf_load_mid hw 27 x ho b o hx (sgL s) _ (fun w h => (hS w h).range) Tryz.underlying27 rfl sg_size
theorem res_sg {fn : Func} {t : Tmp} (h : fn.results = #[.cell t 27]) {tmps : Array Value} {w : World} {b o : Nat} {s : Sg} (ht : tmps.getD t undef = .pointer (some ⟨b, o, none⟩)) (hs : SgAt w b o s) :
    (results fn tmps).run Tryz.prog w = .ok (sgv s) w := by
  have e := sg_loadVar hs
  simp only [Array.getD_eq_getD_getElem?] at ht
  have e2 : (asAddr (Value.pointer (some { block := b, off := o }))).run Tryz.prog w = .ok ⟨b, o, none⟩ w := by simp [asAddr]
  simp [results, h, ht, Sem.run_bind, e2, e]
end Go.Proofs.YtdmedealdhadcaaGreatDoor
