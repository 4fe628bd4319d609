/- Lists of lists of signs, made by the call. A sign's literal block, at a step of a drawn region. Pieces of a list of signs in memory, an append at a step of a drawn region, and steps whose operands the kernel reckons (out of stage 8's texts). The signs of rows: what a text's body says; two lists that grow side by side. -/
import Derived.Test.YtdmedealdhadcaaGreatDoorG01
import Derived.Test.YtdmedealdhadcaaGreatDoorG16
import Derived.Test.YtdmedealdhadcaaGreatDoorG02
import Derived.Laws.Tables
import Derived.Laws.CopyOwn

namespace Go.Proofs.YtdmedealdhadcaaGreatDoor
open Go.RowKit
theorem own_base {w : World} {base base' : Nat} {e : TypeId} {k : Nat} {v : Value} {n : Nat} {xs : List Value} (h : w.ownsRow base e k v n xs) (hb : base' ≤ base) : w.ownsRow base' e k v n xs := by
  refine ⟨h.1, ?_⟩
  rcases h.2 with h2 | ⟨g, cap, cur, hv, hg, r⟩
  · exact .inl h2
  · exact .inr ⟨g, cap, cur, hv, Nat.le_trans hb hg, r⟩
/-- A list of one type is as it was where a list of another type has grown. -/
theorem own_far {A A' : World} {b1 b2 : Nat} {e1 e2 : TypeId} {k1 k2 : Nat} {v1 v2 : Value} {n1 n2 : Nat} {x1 x2 : List Value} (h1 : A.ownsRow b1 e1 k1 v1 n1 x1) (h2 : A.ownsRow b2 e2 k2 v2 n2 x2) (hne : e2 ≠ e1) (hg : A.grownBy A' v1.ownBlock) :
    A'.ownsRow b2 e2 k2 v2 n2 x2 := by
  refine ⟨h2.1, ?_⟩
  rcases h2.2 with h | ⟨g, cap, cur, hv, hb, hh, r⟩
  · exact .inl h
  · refine .inr ⟨g, cap, cur, hv, hb, (hg.block g (Array.getElem?_eq_some_iff.1 hh).1 (fun e => ?_)).trans hh, r⟩
    rcases h1.2 with ⟨rfl, _⟩ | ⟨g1, _, _, rfl, _, hh1, _⟩
    · cases e
    · simp only [Value.ownBlock, Option.some.injEq] at e
      subst e
      rw [hh] at hh1
      cases hh1
      exact hne rfl
/-- The elements vs of a list of lists are the lists L, each in memory of the call's own. -/
def Inn (w : World) (base : Nat) (vs : List Value) (L : List (List Sg)) : Prop :=
  vs.length = L.length ∧ ∀ (k : Nat) (x : List Sg), L[k]? = some x → ∃ u, vs[k]? = some u ∧ w.ownsRow base 27 17 u x.length (flatG x)
theorem Inn.nil (w : World) (base : Nat) : Inn w base [] [] := ⟨rfl, fun k x h => by simp at h⟩
theorem Inn.later {w w1 : World} {base : Nat} {vs : List Value} {L : List (List Sg)} (h : Inn w base vs L) (b : Below w.heap.size w w1) : Inn w1 base vs L :=
  ⟨h.1, fun k x hx => by obtain ⟨u, e, ho⟩ := h.2 k x hx; exact ⟨u, e, own_keep ho b (Nat.le_refl _)⟩⟩
theorem Inn.base {w : World} {base base' : Nat} {vs : List Value} {L : List (List Sg)} (h : Inn w base vs L) (hb : base' ≤ base) : Inn w base' vs L :=
  ⟨h.1, fun k x hx => by obtain ⟨u, e, ho⟩ := h.2 k x hx; exact ⟨u, e, own_base ho hb⟩⟩
theorem Inn.app {w : World} {base : Nat} {vs us : List Value} {L M : List (List Sg)} (h : Inn w base vs L) (k : Inn w base us M) : Inn w base (vs ++ us) (L ++ M) := by
  refine ⟨by rw [List.length_append, List.length_append, h.1, k.1], fun j x hx => ?_⟩
  by_cases hj : j < L.length
  · rw [List.getElem?_append_left hj] at hx
    obtain ⟨u, e, ho⟩ := h.2 j x hx
    exact ⟨u, by rw [List.getElem?_append_left (by rw [h.1]; exact hj)]; exact e, ho⟩
  · rw [List.getElem?_append_right (by omega)] at hx
    obtain ⟨u, e, ho⟩ := k.2 _ x hx
    exact ⟨u, by rw [List.getElem?_append_right (by rw [h.1]; omega), h.1]; exact e, ho⟩
theorem Inn.far {A A' : World} {base b1 k1 n1 : Nat} {v1 : Value} {x1 vs : List Value} {L : List (List Sg)} (h : Inn A base vs L) (h1 : A.ownsRow b1 35 k1 v1 n1 x1) (hg : A.grownBy A' v1.ownBlock) : Inn A' base vs L :=
  ⟨h.1, fun k x hx => by obtain ⟨u, e, ho⟩ := h.2 k x hx; exact ⟨u, e, own_far h1 ho (by decide) hg⟩⟩
theorem Inn.one {w : World} {base : Nat} {u : Value} {x : List Sg} (h : w.ownsRow base 27 17 u x.length (flatG x)) : Inn w base [u] [x] := by
  refine ⟨rfl, fun k y hy => ?_⟩
  match k, hy with
  | 0, hy => simp at hy; subst hy; exact ⟨u, rfl, h⟩
  | k + 1, hy => simp at hy
/-- A list of lists, made since w0. -/
structure GrpL (w0 w : World) (v : Value) (vs : List Value) (L : List (List Sg)) : Prop where
  own : OwnL w0 w 35 1 v L.length vs
  inn : Inn w w0.heap.size vs L
theorem GrpL.start (w : World) : GrpL w w (.slice none 0 0) [] [] := ⟨OwnL.start _ _ _, Inn.nil _ _⟩
theorem GrpL.later {w0 w w1 : World} {v : Value} {vs : List Value} {L : List (List Sg)} (h : GrpL w0 w v vs L) (b : Below w.heap.size w w1) : GrpL w0 w1 v vs L := ⟨h.own.later b, h.inn.later b⟩
end Go.Proofs.YtdmedealdhadcaaGreatDoor

namespace Go.Proofs.YtdmedealdhadcaaGreatDoor
open Go.RowKit
set_option maxHeartbeats 1000000 in
theorem run_lit_sg (s : Sg) (w : World) : (Instr.buildSlice 35 1 #[(0, sgv s)]).run Tryz.prog w = .ok (.slice (some ⟨w.heap.size, 0, none⟩) 1 1) (w.alloc (sgO s)) := by
  unfold sgv sgO sgA
  simp [Instr.buildSlice, newRow, go_sem]
theorem step_lit {ops : Array Oper} {o : Oper} {a : Act} {w : World} {K : Act → World → Prop} {Q : Exit → Act → World → Prop} {E : Prop} (hgd : o.guard = none) (x : Operand) (ho : o.op = .buildSlice 35 1 #[(0, x)]) (s : Sg) (hx : a.eval x = sgv s)
    (h : K (a.put o.dst (.slice (some ⟨w.heap.size, 0, none⟩) 1 1)) (w.alloc (sgO s))) :
    if Region.wanted o (yielded ops a.tmps) = true then Oper.wp Tryz.prog o a w K Q else E := by
  have hw : Region.wanted o (yielded ops a.tmps) = true := by simp [Region.wanted, hgd]
  rw [if_pos hw]
  have hr := run_lit_sg s w
  rw [← hx] at hr
  unfold Oper.wp execOp
  simp only [ho, Sem.run_bind, Sem.run_pure, List.map_toArray, List.map_cons, List.map_nil]
  rw [hr]
  exact h
end Go.Proofs.YtdmedealdhadcaaGreatDoor

namespace Go.Proofs.YtdmedealdhadcaaGreatDoor
open Go.RowKit
theorem flatG_take : ∀ (l : List Sg) (i : Nat), flatG (l.take i) = (flatG l).take (i * 17)
  | [], i => by simp [flatG]
  | s :: t, 0 => by simp [flatG]
  | s :: t, i + 1 => by
    show sgL s ++ flatG (t.take i) = (sgL s ++ flatG t).take ((i + 1) * 17)
    rw [flatG_take t i, show (i + 1) * 17 = (sgL s).length + i * 17 by rw [sgL_len]; omega, List.take_length_add_append]
theorem flatG_drop : ∀ (l : List Sg) (i : Nat), flatG (l.drop i) = (flatG l).drop (i * 17)
  | [], i => by simp [flatG]
  | s :: t, 0 => by simp
  | s :: t, i + 1 => by
    show flatG (t.drop i) = (sgL s ++ flatG t).drop ((i + 1) * 17)
    rw [flatG_drop t i, show (i + 1) * 17 = (sgL s).length + i * 17 by rw [sgL_len]; omega, List.drop_length_add_append]
end Go.Proofs.YtdmedealdhadcaaGreatDoor
/- A part in memory, the ends of runs, Check of a list of the call's own: what the laws of moved and first signs share. -/
namespace Go.Proofs.YtdmedealdhadcaaGreatDoor
open Go.RowKit
end Go.Proofs.YtdmedealdhadcaaGreatDoor
/- Steps of a drawn region whose operands the kernel reckons: calls, allocations, loads, slices, stores of parts; no walk opens the frame. -/
namespace Go.Proofs.YtdmedealdhadcaaGreatDoor
open Go.RowKit
section
variable {ops : Array Oper} {o : Oper} {a : Act} {w : World} {K : Act → World → Prop} {Q : Exit → Act → World → Prop} {E : Prop} {S : World → Prop}
theorem wanted_plain (hgd : o.guard = none) : Region.wanted o (yielded ops a.tmps) = true := by simp [Region.wanted, hgd]
theorem step_storeTo (hgd : o.guard = none) (ty : TypeId) (x y : Operand) (ho : o.op = .store ty x y) (g : Nat) (cells : Array Value) (hx : a.eval x = .pointer (some ⟨g, 0, none⟩)) (hy : a.eval y = .agg cells)
    (t : TypeId) (old : Array Value) (hg : HoldsB w g t old) (hi : (Tryz.prog.info? ty).map (·.size) = some cells.size) (hold : old.size = cells.size) (h1 : cells.all (·.oneCell') = true)
    (h : ∀ W', HoldsB W' g t cells → (∀ B w0, Below B w0 w → B ≤ g → Below B w0 W') → (∀ c, c ≠ g → W'.heap[c]? = w.heap[c]?) → K (a.put o.dst undef) W') :
    if Region.wanted o (yielded ops a.tmps) = true then Oper.wp Tryz.prog o a w K Q else E := by
  rw [if_pos (wanted_plain hgd)]
  refine wp_store_row ty x y ho g cells hx hy t old hg hi hold h1 ?_
  exact h _ (setRow_heap w g old cells t (0, 0) hg) (fun B w0 hb hB => below_setRow hb hB cells) (fun c hc => setRow_other w g c cells hc)
theorem run_yields (v : Value) (hw : Region.wanted o (yielded ops a.tmps) = true) (hrun : ∀ W, S W → (execOp a.eval o).run Tryz.prog W = .ok (.value v) W) : YieldsIf Tryz.prog ops S o v a := .inl ⟨hw, hrun⟩
theorem sl_yields (t : TypeId) (x : Operand) (lo hi : Option Operand) (u : Value) (lo' hi' : Option Value) (v : Value) (hw : Region.wanted o (yielded ops a.tmps) = true) (ho : o.op = .slice t x lo hi none) (hx : a.eval x = u) (hl : lo.map a.eval = lo') (hh : hi.map a.eval = hi')
    (h1 : ∀ W : World, (Instr.sliceAt t u lo' hi' none).run Tryz.prog W = .ok v W) : YieldsIf Tryz.prog ops S o v a :=
  .inl ⟨hw, fun W _ => by
    unfold execOp
    simp only [ho, hx, hl, hh, Option.map_none, Sem.run_bind, h1 W, Result.andThen_ok]
    rfl⟩
end
/-- A list of the call's own over a store elsewhere. -/
theorem own_rest {A A' : World} {base c : Nat} {e : TypeId} {k : Nat} {v : Value} {n : Nat} {cs : List Value} (h : A.ownsRow base e k v n cs) (hne : some c ≠ v.ownBlock) (h3 : ∀ x, x ≠ c → A'.heap[x]? = A.heap[x]?) : A'.ownsRow base e k v n cs := by
  refine ⟨h.1, ?_⟩
  rcases h.2 with h2 | ⟨g, cap, cur, rfl, hb, hh, r⟩
  · exact .inl h2
  · exact .inr ⟨g, cap, cur, rfl, hb, (h3 g (fun e => hne (by rw [e]; rfl))).trans hh, r⟩
end Go.Proofs.YtdmedealdhadcaaGreatDoor

namespace Go.Proofs.YtdmedealdhadcaaGreatDoor
open Go.RowKit
/-- The first word that is no sign. -/
def badW (ws : List Wd) : Option Wd := ws.find? fun x => (sgnW x).2 != 0
theorem bad_here {ws : List Wd} {k : Nat} (h : k < ws.length) (e : (sgnW (ws.getD k noWd)).2 ≠ 0) (p : badW (ws.take k) = none) : badW ws = some (ws.getD k noWd) := by
  have e1 : ws = ws.take k ++ (ws.getD k noWd :: ws.drop (k + 1)) := by
    have := List.take_append_drop k ws
    rw [List.drop_eq_getElem_cons h] at this
    rw [List.getD, List.getElem?_eq_getElem h]
    exact this.symm
  unfold badW at p ⊢
  rw [e1, List.find?_append]
  have h1 : (List.take k ws ++ (ws.getD k noWd :: List.drop (k + 1) ws)).getD k noWd = ws.getD k noWd := by rw [← e1]
  rw [h1, p]
  generalize ws.getD k noWd = x at *
  simp [bne_iff_ne.2 e]
theorem bad_more {ws : List Wd} {k : Nat} (h : k < ws.length) (e : (sgnW (ws.getD k noWd)).2 = 0) (p : badW (ws.take k) = none) : badW (ws.take (k + 1)) = none := by
  unfold badW at *
  rw [take_getD h, List.find?_append, p]
  generalize ws.getD k noWd = x at *
  simp [e]
/-- Signs, offsets and fault of the rows behind the first one. -/
def bodyV (n : Int) : List Rw → List Sg → List Int → List Sg × List Int × (Int × Int)
  | [], _, _ => ([], [], (9, n))
  | r :: rs, zs, us => if isW (r.words.getD 0 noWd) endB = true then (zs, us, endE r.words rs) else
    match badW r.words with
    | some x => ([], [], ((sgnW x).2, x.at_))
    | none => bodyV n rs (zs ++ r.words.map fun x => (sgnW x).1) (us ++ r.words.map fun x => x.at_)
theorem body_end {n : Int} {r : Rw} {rs : List Rw} {zs : List Sg} {us : List Int} (h : isW (r.words.getD 0 noWd) endB = true) : bodyV n (r :: rs) zs us = (zs, us, endE r.words rs) := if_pos h
theorem body_bad {n : Int} {r : Rw} {rs : List Rw} {zs : List Sg} {us : List Int} {x : Wd} (h : isW (r.words.getD 0 noWd) endB = false) (hb : badW r.words = some x) : bodyV n (r :: rs) zs us = ([], [], ((sgnW x).2, x.at_)) := by
  show (if _ then _ else _) = _
  rw [if_neg (by rw [h]; decide), hb]
theorem body_on {n : Int} {r : Rw} {rs : List Rw} {zs : List Sg} {us : List Int} (h : isW (r.words.getD 0 noWd) endB = false) (hb : badW r.words = none) : bodyV n (r :: rs) zs us = bodyV n rs (zs ++ r.words.map fun x => (sgnW x).1) (us ++ r.words.map fun x => x.at_) := by
  show (if _ then _ else _) = _
  rw [if_neg (by rw [h]; decide), hb]
/-- A list of signs of the call's own. -/
def SgO (w0 w : World) (v : Value) (zs : List Sg) : Prop := OwnL w0 w 27 17 v zs.length (flatG zs)
theorem SgO.start (w : World) : SgO w w (.slice none 0 0) [] := OwnL.start w _ _
theorem SgO.later {w0 w w1 : World} {v : Value} {zs : List Sg} (h : SgO w0 w v zs) (b : Below w.heap.size w w1) : SgO w0 w1 v zs := OwnL.later h b
theorem SgO.none {w0 w : World} (b : Below w0.heap.size w0 w) : SgO w0 w (.slice none 0 0) [] := ⟨b, World.ownsRow_nil _ _ _ _⟩
theorem SgO.base {w0 w1 w : World} {v : Value} {zs : List Sg} (h : SgO w1 w v zs) (b : Below w0.heap.size w0 w1) : SgO w0 w v zs := ⟨w_below b h.bel, own_base h.row b.size⟩
theorem SgO.val {w0 w : World} {v : Value} {zs : List Sg} (h : SgO w0 w v zs) : ∃ q c, v = .slice q zs.length c := OwnL.val h
theorem SgO.lt {w0 w : World} {v : Value} {zs : List Sg} (h : SgO w0 w v zs) : v.ownBlock ≠ some w.heap.size := fun e => by have := (h.row.lt _ e).2; omega
theorem SgO.app {w0 w w2 : World} {v v' : Value} {zs : List Sg} {s : Sg} (h : SgO w0 w v zs) (hown : w2.ownsRow w0.heap.size 27 17 v' (zs.length + 1) (flatG zs ++ flatG [s])) (hg : w.grownBy w2 v.ownBlock) : SgO w0 w2 v' (zs ++ [s]) := by
  unfold SgO
  rw [flatG_app, List.length_append]
  exact OwnL.app h (w_refl _) hown hg
/-- A list of numbers of the call's own. -/
def IntO (w0 w : World) (v : Value) (zs : List Int) : Prop := OwnL w0 w 3 1 v zs.length (ints zs)
theorem ints_app (a b : List Int) : ints (a ++ b) = ints a ++ ints b := by simp [ints]
theorem IntO.later {w0 w w1 : World} {v : Value} {zs : List Int} (h : IntO w0 w v zs) (b : Below w.heap.size w w1) : IntO w0 w1 v zs := OwnL.later h b
theorem IntO.none {w0 w : World} (b : Below w0.heap.size w0 w) : IntO w0 w (.slice none 0 0) [] := ⟨b, World.ownsRow_nil _ _ _ _⟩
theorem IntO.base {w0 w1 w : World} {v : Value} {zs : List Int} (h : IntO w1 w v zs) (b : Below w0.heap.size w0 w1) : IntO w0 w v zs := ⟨w_below b h.bel, own_base h.row b.size⟩
theorem IntO.val {w0 w : World} {v : Value} {zs : List Int} (h : IntO w0 w v zs) : ∃ q c, v = .slice q zs.length c := OwnL.val h
theorem IntO.app {w0 w w2 : World} {v v' : Value} {zs : List Int} {z : Int} (h : IntO w0 w v zs) (hown : w2.ownsRow w0.heap.size 3 1 v' (zs.length + 1) (ints zs ++ ints [z])) (hg : w.grownBy w2 v.ownBlock) : IntO w0 w2 v' (zs ++ [z]) := by
  unfold IntO
  rw [ints_app, List.length_append]
  exact OwnL.app h (w_refl _) hown hg
/-- Lists of different types lie apart. -/
theorem own_two {A : World} {b1 b2 : Nat} {e t : TypeId} {k j : Nat} {v u : Value} {n m : Nat} {cs ds : List Value} (h : A.ownsRow b1 e k v n cs) (h2 : A.ownsRow b2 t j u m ds) (hte : t ≠ e) : u.ownBlock = none ∨ u.ownBlock ≠ v.ownBlock := by
  rcases h2.2 with ⟨rfl, _⟩ | ⟨g, cap, cur, rfl, _, hh, _⟩
  · exact .inl rfl
  · exact .inr (own_ne h (show HoldsB A g t cur from hh) hte)
theorem SgO.kept {w0 w w2 : World} {v u : Value} {zs : List Sg} {us : List Int} (h : SgO w0 w v zs) (k : IntO w0 w u us) (hg : w.grownBy w2 u.ownBlock) : SgO w0 w2 v zs :=
  ⟨OwnL.far k (w_refl _) hg, h.row.kept hg (own_two k.row h.row (by decide))⟩
theorem IntO.kept {w0 w w2 : World} {v u : Value} {zs : List Sg} {us : List Int} (k : IntO w0 w u us) (h : SgO w0 w v zs) (hg : w.grownBy w2 v.ownBlock) : IntO w0 w2 u us :=
  ⟨OwnL.far h (w_refl _) hg, k.row.kept hg (own_two h.row k.row (by decide))⟩
theorem HoldsB.over {w w2 : World} {b : Nat} {t : TypeId} {cs : Array Value} (h : HoldsB w b t cs) (e : w2.heap[b]? = w.heap[b]?) : HoldsB w2 b t cs := e.trans h
/-- Behind a store into a block that stood before the list. -/
theorem SgO.over {w w1 y W : World} {v : Value} {zs : List Sg} (h : SgO w1 y v zs) (m : Nat) (hm : m < w1.heap.size) (hB : ∀ B w0, Below B w0 y → B ≤ m → Below B w0 W) (ho : ∀ c, c ≠ m → W.heap[c]? = y.heap[c]?) (b : Below w.heap.size w w1) (e : w.heap.size = m) : SgO w W v zs :=
  ⟨hB _ _ (w_below b h.bel) (by omega), own_rest (own_base h.row b.size) (fun x => by have := (h.row.lt m x.symm).1; omega) ho⟩
theorem IntO.over {w w1 y W : World} {v : Value} {zs : List Int} (h : IntO w1 y v zs) (m : Nat) (hm : m < w1.heap.size) (hB : ∀ B w0, Below B w0 y → B ≤ m → Below B w0 W) (ho : ∀ c, c ≠ m → W.heap[c]? = y.heap[c]?) (b : Below w.heap.size w w1) (e : w.heap.size = m) : IntO w W v zs :=
  ⟨hB _ _ (w_below b h.bel) (by omega), own_rest (own_base h.row b.size) (fun x => by have := (h.row.lt m x.symm).1; omega) ho⟩
section
variable {ops : Array Oper} {o : Oper} {a : Act} {w : World} {K : Act → World → Prop} {Q : Exit → Act → World → Prop} {E : Prop}
theorem run_lit_int (z : Int) (w : World) : (Instr.buildSlice 53 1 #[(0, .int .i64 z)]).run Tryz.prog w = .ok (.slice (some ⟨w.heap.size, 0, none⟩) 1 1) (w.alloc (.cells #[.int .i64 z] 3)) := by
  simp [Instr.buildSlice, newRow, go_sem]
theorem step_litI (hgd : o.guard = none) (x : Operand) (ho : o.op = .buildSlice 53 1 #[(0, x)]) (z : Int) (hx : a.eval x = .int .i64 z)
    (h : K (a.put o.dst (.slice (some ⟨w.heap.size, 0, none⟩) 1 1)) (w.alloc (.cells #[.int .i64 z] 3))) :
    if Region.wanted o (yielded ops a.tmps) = true then Oper.wp Tryz.prog o a w K Q else E := by
  have hw : Region.wanted o (yielded ops a.tmps) = true := by simp [Region.wanted, hgd]
  rw [if_pos hw]
  have hr := run_lit_int z w
  rw [← hx] at hr
  unfold Oper.wp execOp
  simp only [ho, Sem.run_bind, Sem.run_pure, List.map_toArray, List.map_cons, List.map_nil]
  rw [hr, hx]
  exact h
theorem step_appS (hgd : o.guard = none) (s x : Operand) (ho : o.op = .call { callee := .builtin .append, args := #[s, x], argTypes := #[35, 35] }) {w0 : World} {v : Value} {zs : List Sg} (h : SgO w0 w v zs) (hn : zs.length ≤ 1000000000000) (z : Sg) (b1 : Nat)
    (hs : a.eval s = v) (hx : a.eval x = .slice (some ⟨b1, 0, none⟩) 1 1) (hL : HoldsB w b1 27 (sgA z))
    (k : ∀ g c w2, SgO w0 w2 (.slice (some ⟨g, 0, none⟩) (zs.length + 1) c) (zs ++ [z]) → w.grownBy w2 v.ownBlock → K (a.put o.dst (.slice (some ⟨g, 0, none⟩) (zs.length + 1) c)) w2) :
    if Region.wanted o (yielded ops a.tmps) = true then Oper.wp Tryz.prog o a w K Q else E := by
  obtain ⟨i0, hi0, hz0, hz1, hz2⟩ := info_parts info_sign
  refine step_append_lies _ hgd s x 35 ho w0.heap.size 27 i0 (sgv zS) 17 128 Tryz.underlying35 hi0 hz0 hz1 hz2 rfl (by decide) v zs.length (flatG zs) hs h.row ⟨b1, 0, none⟩ 1 1 (flatG [z]) hx rfl (fun j u hj => World.news_of_block hL j u (by simpa [flatG, sgL] using hj)) (flatG_one [z]) (by decide) (by unfold maxLen; omega) (by omega) h.bel.size _ rfl ?_
  intro g c w2 h2 h3 _ _
  exact k g c w2 (h.app h2 h3) h3
theorem step_appI (hgd : o.guard = none) (s x : Operand) (ho : o.op = .call { callee := .builtin .append, args := #[s, x], argTypes := #[53, 53] }) {w0 : World} {v : Value} {zs : List Int} (h : IntO w0 w v zs) (hn : zs.length ≤ 1000000000000) (z : Int) (b1 : Nat)
    (hs : a.eval s = v) (hx : a.eval x = .slice (some ⟨b1, 0, none⟩) 1 1) (hL : HoldsB w b1 3 #[.int .i64 z])
    (k : ∀ g c w2, IntO w0 w2 (.slice (some ⟨g, 0, none⟩) (zs.length + 1) c) (zs ++ [z]) → w.grownBy w2 v.ownBlock → K (a.put o.dst (.slice (some ⟨g, 0, none⟩) (zs.length + 1) c)) w2) :
    if Region.wanted o (yielded ops a.tmps) = true then Oper.wp Tryz.prog o a w K Q else E := by
  obtain ⟨i0, hi0, hz0, hz1, hz2⟩ := info_parts info_int
  refine step_append_lies _ hgd s x 53 ho w0.heap.size 3 i0 (.int .i64 0) 1 8 Tryz.underlying53 hi0 hz0 hz1 hz2 rfl (by decide) v zs.length (ints zs) hs h.row ⟨b1, 0, none⟩ 1 1 (ints [z]) hx rfl (World.news_of_block hL) (ints_one _) (by decide) (by unfold maxLen; omega) (by omega) h.bel.size _ rfl ?_
  intro g c w2 h2 h3 _ _
  exact k g c w2 (h.app h2 h3) h3
end
theorem res_3 {fn : Func} {t u x : Tmp} {ty : TypeId} (h : fn.results = #[.tmp t, .tmp u, .cell x ty]) {tmps : Array Value} {w : World} {b o : Nat} {v1 v2 v : Value} (h1 : tmps.getD t undef = v1) (h2 : tmps.getD u undef = v2) (ht : tmps.getD x undef = .pointer (some ⟨b, o, none⟩)) (e : (loadVar ty ⟨b, o, none⟩).run Tryz.prog w = .ok v w) :
    (results fn tmps).run Tryz.prog w = .ok (.tuple #[v1, v2, v]) w := by
  simp only [Array.getD_eq_getD_getElem?] at h1 h2 ht
  have e2 : (asAddr (Value.pointer (some { block := b, off := o }))).run Tryz.prog w = .ok ⟨b, o, none⟩ w := by simp [asAddr]
  simp [results, h, h1, h2, ht, Sem.run_bind, e2, e]
theorem ft_load {w : World} {b : Nat} {f : Int × Int} (hb : HoldsB w b 43 #[.int .i64 f.1, .int .i64 f.2]) : (loadVar 43 ⟨b, 0, none⟩).run Tryz.prog w = .ok (ftV f) w :=
  run_loadVar_mid (P := Tryz.prog) w b 0 43 [.int .i64 f.1, .int .i64 f.2] _ (holds_range hb) Tryz.underlying43 rfl (by kernel_rfl)
/-! ### Pieces of lists of rows (out of stage 2's texts) -/
theorem AllR.drop {w : World} {o : Option Nat} : ∀ {vs rs} (k : Nat), AllR w o vs rs → AllR w o (vs.drop k) (rs.drop k)
  | _, _, 0, h => h
  | [], [], _ + 1, _ => trivial
  | _ :: _, _ :: _, k + 1, h => AllR.drop k h.2
  | [], _ :: _, _, h => h.elim
  | _ :: _, [], _, h => h.elim
theorem flatR_drop (vs : List (Int × Value)) (i q : Nat) (u : Value) (h : (flatR (vs.drop i))[q]? = some u) : (flatR vs)[i * 2 + q]? = some u := by
  induction vs generalizing i with
  | nil => simp at h; cases h
  | cons x t ih =>
    cases i with
    | zero => simpa using h
    | succ i =>
      have := ih i (by simpa using h)
      rw [show (i + 1) * 2 + q = (i * 2 + q) + 2 by omega]
      obtain ⟨x1, x2⟩ := x
      simpa [flatR] using this
/-- Where a piece of a list of rows from i on lies. -/
def dropR (q : Option Addr) (c i : Nat) : Option Addr := if c = i then q else q.map (·.add (i * 2))
theorem rowsV_drop {w : World} {p : Option Addr} {N cap : Nat} {rs : List Rw} (h : RowsV w (.slice p N cap) rs) (i n : Nat) (hi : i ≤ rs.length) (hn : n = N - i) :
    RowsV w (.slice (dropR p cap i) n (cap - i)) (rs.drop i) := by
  obtain ⟨p', c, vs, o, e, hs, ha⟩ := h
  simp only [Value.slice.injEq] at e
  obtain ⟨rfl, rfl, rfl⟩ := e
  have hl := ha.len
  have hlen : (rs.drop i).length = n := by rw [List.length_drop]; omega
  have f1 := hs.fit
  have f2 := hs.max
  refine ⟨_, _, vs.drop i, o, by rw [hlen], ⟨by omega, by omega, fun e => ?_, by rw [flatR_len, hlen, List.length_drop]; omega, fun h0 => ?_⟩, ha.drop i⟩
  · unfold dropR at e
    split at e
    · omega
    · cases p with
      | none => have := hs.nil rfl; omega
      | some a => cases e
  · rw [hlen] at h0
    obtain ⟨b, off, rfl, hb, hc⟩ := hs.at_ (by omega)
    refine ⟨b, off + i * 2, ?_, hb, fun q u hu => ?_⟩
    · unfold dropR
      rw [if_neg (by omega), Option.map_some, add_none]
    · rw [Nat.add_assoc]
      exact hc _ u (flatR_drop vs i q u hu)
theorem sl_fromR (bq oq n c i : Nat) (z : Int) (hz : z = (i : Int)) (hi : i ≤ n) (W : World) : (Instr.sliceAt 57 (.slice (some ⟨bq, oq, none⟩) n c) (some (.int .i64 z)) none none).run Tryz.prog W = .ok (.slice (dropR (some ⟨bq, oq, none⟩) c i) (n - i) (c - i)) W := by
  subst hz
  have h1 : (i : Int) ≤ (n : Int) := by omega
  have h0 : (0 : Int) ≤ i := by omega
  have hdq : (if c = i then (some ⟨bq, oq, none⟩ : Option Addr) else some ⟨bq, oq + i * 2, none⟩) = dropR (some ⟨bq, oq, none⟩) c i := by unfold dropR; split <;> simp [add_none]
  generalize dropR (some ⟨bq, oq, none⟩) c i = pd at *
  go_simp
end Go.Proofs.YtdmedealdhadcaaGreatDoor
