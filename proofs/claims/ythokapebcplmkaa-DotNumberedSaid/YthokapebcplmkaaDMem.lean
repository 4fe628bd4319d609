/- Lists of lists of ints in memory, made by the call or read. -/
import Derived.Test.YthokapebcplmkaaLgLst
import Derived.Test.YthokapebcplmkaaLgKit
namespace Go.Proofs.Ythokapebcplmkaa
open Go.RowKit

theorem own_some {w : World} {base : Nat} {e : TypeId} {k : Nat} {q : Option Addr} {n c : Nat} {xs : List Value} (h : w.ownsRow base e k (.slice q n c) n xs) (hn : 0 < n) : ∃ g, q = some ⟨g, 0, none⟩ ∧ base ≤ g ∧ g < w.heap.size := by
  rcases h.2 with ⟨e1, e2⟩ | ⟨g, cap, cur, e1, hb, hg, _⟩
  · omega
  · simp only [Value.slice.injEq, true_and] at e1
    exact ⟨g, e1.1, hb, (Array.getElem?_eq_some_iff.1 hg).1⟩
theorem cell_at {w : World} {b off cap n : Nat} {vs : List Value} (h : SlP w 1 (some ⟨b, off, none⟩) n cap vs) {i : Nat} {u : Value} (hi : vs[i]? = some u) : w.cell? ⟨b, off + i, none⟩ = some u := by
  have hlt := (List.getElem?_eq_some_iff.1 hi).1
  have hl := h.len
  obtain ⟨b', o', e, _, hu⟩ := h.at_ (by omega)
  injection e with e
  injection e with e1 e2 _
  subst e1 e2
  exact hu i _ hi
theorem int_at {w : World} {b off cap n : Nat} {zs : List Int} (h : SlP w 1 (some ⟨b, off, none⟩) n cap (ints zs)) {i : Nat} (hi : i < n) : w.cell? ⟨b, off + i, none⟩ = some (.int .i64 (zs.getD i 0)) := by
  have hl := h.len
  rw [List.length_map, Nat.mul_one] at hl
  refine cell_at h ?_
  rw [List.getElem?_map, List.getElem?_eq_getElem (by omega), Option.map_some, List.getD_eq_getElem?_getD, List.getElem?_eq_getElem (by omega)]; rfl

/-- The elements vs of a list of lists of ints are the lists L, each in memory of the call's own. -/
def InnI (w : World) (base : Nat) (vs : List Value) (L : List (List Int)) : Prop :=
  vs.length = L.length ∧ ∀ (k : Nat) (x : List Int), L[k]? = some x → ∃ u, vs[k]? = some u ∧ w.ownsRow base 3 1 u x.length (ints x)
theorem InnI.nil (w : World) (base : Nat) : InnI w base [] [] := ⟨rfl, fun k x h => by simp at h⟩
theorem InnI.later {w w1 : World} {base : Nat} {vs : List Value} {L : List (List Int)} (h : InnI w base vs L) (b : Below w.heap.size w w1) : InnI w1 base vs L :=
  ⟨h.1, fun k x hx => by obtain ⟨u, e, ho⟩ := h.2 k x hx; exact ⟨u, e, own_keep ho b (Nat.le_refl _)⟩⟩
theorem InnI.base {w : World} {base base' : Nat} {vs : List Value} {L : List (List Int)} (h : InnI w base vs L) (hb : base' ≤ base) : InnI w base' vs L :=
  ⟨h.1, fun k x hx => by obtain ⟨u, e, ho⟩ := h.2 k x hx; exact ⟨u, e, own_base ho hb⟩⟩
theorem InnI.app {w : World} {base : Nat} {vs us : List Value} {L M : List (List Int)} (h : InnI w base vs L) (k : InnI w base us M) : InnI w base (vs ++ us) (L ++ M) := by
  refine ⟨by rw [List.length_append, List.length_append, h.1, k.1], fun j x hx => ?_⟩
  by_cases hj : j < L.length
  · rw [List.getElem?_append_left hj] at hx
    obtain ⟨u, e, ho⟩ := h.2 j x hx
    exact ⟨u, by rw [List.getElem?_append_left (by rw [h.1]; exact hj)]; exact e, ho⟩
  · rw [List.getElem?_append_right (by omega)] at hx
    obtain ⟨u, e, ho⟩ := k.2 _ x hx
    exact ⟨u, by rw [List.getElem?_append_right (by rw [h.1]; omega), h.1]; exact e, ho⟩
theorem InnI.far {A A' : World} {base b1 k1 n1 : Nat} {v1 : Value} {x1 vs : List Value} {L : List (List Int)} (h : InnI A base vs L) (h1 : A.ownsRow b1 32 k1 v1 n1 x1) (hg : A.grownBy A' v1.ownBlock) : InnI A' base vs L :=
  ⟨h.1, fun k x hx => by obtain ⟨u, e, ho⟩ := h.2 k x hx; exact ⟨u, e, own_far h1 ho (by decide) hg⟩⟩
theorem InnI.one {w : World} {base : Nat} {u : Value} {x : List Int} (h : w.ownsRow base 3 1 u x.length (ints x)) : InnI w base [u] [x] := by
  refine ⟨rfl, fun k y hy => ?_⟩
  match k, hy with
  | 0, hy => simp at hy; subst hy; exact ⟨u, rfl, h⟩
  | k + 1, hy => simp at hy
theorem InnI.ones {w : World} {base : Nat} {vs : List Value} {L : List (List Int)} (h : InnI w base vs L) : ∀ u ∈ vs, u.oneCell' = true := by
  intro u hu
  obtain ⟨k, hk, e⟩ := List.getElem_of_mem hu
  have hkl : k < L.length := by rw [← h.1]; exact hk
  obtain ⟨u', e', ho⟩ := h.2 k L[k] (List.getElem?_eq_getElem hkl)
  rw [List.getElem?_eq_getElem hk, e] at e'
  obtain rfl : u = u' := Option.some.inj e'
  exact one_own ho
/-- A list of lists of ints, made since w0. -/
structure GrpI (w0 w : World) (v : Value) (vs : List Value) (L : List (List Int)) : Prop where
  own : OwnL w0 w 32 1 v L.length vs
  inn : InnI w w0.heap.size vs L
theorem GrpI.start (w : World) : GrpI w w (.slice none 0 0) [] [] := ⟨OwnL.start _ _ _, InnI.nil _ _⟩
theorem GrpI.later {w0 w w1 : World} {v : Value} {vs : List Value} {L : List (List Int)} (h : GrpI w0 w v vs L) (b : Below w.heap.size w w1) : GrpI w0 w1 v vs L := ⟨h.own.later b, h.inn.later b⟩
/-- One more list behind the others. -/
theorem GrpI.app {w0 w wa w2 : World} {v v' u : Value} {vs : List Value} {L : List (List Int)} {x : List Int} {m : Nat} (h : GrpI w0 w v vs L) (b : Below w.heap.size w wa) (hu : wa.ownsRow w0.heap.size 3 1 u x.length (ints x))
    (hown : w2.ownsRow w0.heap.size 32 1 v' m (vs ++ [u])) (hm : m = L.length + 1) (hg : wa.grownBy w2 v.ownBlock) : GrpI w0 w2 v' (vs ++ [u]) (L ++ [x]) := by
  subst hm
  refine ⟨?_, ?_⟩
  · rw [List.length_append, show [x].length = 1 from rfl]
    exact h.own.app b hown hg
  · exact ((h.inn.later b).app (InnI.one hu)).far (own_keep h.own.row b (Nat.le_refl _)) hg
/-- A list of lists of ints that may be read. -/
structure LstI (w : World) (p : Option Addr) (cap : Nat) (vs : List Value) (L : List (List Int)) : Prop where
  sl : SlP w 1 p L.length cap vs
  ln : vs.length = L.length
  at_ : ∀ (k : Nat) (x : List Int), L[k]? = some x → ∃ u, vs[k]? = some u ∧ IntV w u x
theorem LstI.later {w w1 : World} {p : Option Addr} {cap : Nat} {vs : List Value} {L : List (List Int)} (h : LstI w p cap vs L) (b : Below w.heap.size w w1) : LstI w1 p cap vs L :=
  ⟨h.sl.later b, h.ln, fun k x hx => by obtain ⟨u, e, ho⟩ := h.at_ k x hx; exact ⟨u, e, ho.later b⟩⟩
theorem GrpI.lst {w0 w : World} {v : Value} {vs : List Value} {L : List (List Int)} (h : GrpI w0 w v vs L) : ∃ p cap, v = .slice p L.length cap ∧ LstI w p cap vs L := by
  obtain ⟨p, cap, e, hs⟩ := SlP.of_own h.own.row (by rw [h.inn.1, Nat.mul_one]) h.inn.ones
  exact ⟨p, cap, e, hs, h.inn.1, fun k x hx => by obtain ⟨u, e, ho⟩ := h.inn.2 k x hx; exact ⟨u, e, IntV.of_own ho⟩⟩
/-- A value that is such a list. -/
def LstV (w : World) (v : Value) (L : List (List Int)) : Prop := ∃ p cap vs, v = .slice p L.length cap ∧ LstI w p cap vs L
theorem LstV.later {w w1 : World} {v : Value} {L : List (List Int)} (h : LstV w v L) (b : Below w.heap.size w w1) : LstV w1 v L := by
  obtain ⟨p, cap, vs, e, k⟩ := h; exact ⟨p, cap, vs, e, k.later b⟩
theorem LstV.none (w : World) : LstV w (.slice none 0 0) [] := ⟨_, 0, [], rfl, ⟨rfl, by simp, by omega, fun _ => rfl, by simp, fun h => by simp at h⟩, rfl, fun k x h => by simp at h⟩
theorem GrpI.val {w0 w : World} {v : Value} {vs : List Value} {L : List (List Int)} (h : GrpI w0 w v vs L) : LstV w v L := by
  obtain ⟨p, cap, e, k⟩ := h.lst; exact ⟨p, cap, vs, e, k⟩
theorem info_ints : (Try.prog.info? 32).map (fun i => (i.zero, i.size, i.bytes)) = some (some (.slice none 0 0), 1, 24) := by kernel_rfl
/-- A list of ints, as a literal lays it, is of the call's own. -/
theorem lit_own (w : World) (zs : List Int) (base : Nat) (hb : base ≤ w.heap.size) (h : zs.length ≤ maxLen) : (w.alloc (.cells (ints zs).toArray 3)).ownsRow base 3 1 (.slice (some ⟨w.heap.size, 0, none⟩) zs.length zs.length) zs.length (ints zs) := by
  have := World.ownsRow_lit (e := 3) (size := 1) w (ints zs).toArray zs.length hb h (by simp)
  simpa using this

end Go.Proofs.Ythokapebcplmkaa
