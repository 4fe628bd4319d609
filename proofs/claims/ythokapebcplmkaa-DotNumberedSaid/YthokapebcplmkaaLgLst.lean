/- Lists of lists of signs, made by the call. -/
import Derived.Test.YthokapebcplmkaaLgOps
import Derived.Test.YthokapebcplmkaaKApp
namespace Go.Proofs.Ythokapebcplmkaa
open Go.RowKit

theorem own_base {w : World} {base base' : Nat} {e : TypeId} {k : Nat} {v : Value} {n : Nat} {xs : List Value} (h : w.ownsRow base e k v n xs) (hb : base' ≤ base) : w.ownsRow base' e k v n xs := by
  refine ⟨h.1, ?_⟩
  rcases h.2 with h2 | ⟨g, cap, cur, hv, hg, r⟩
  · exact .inl h2
  · exact .inr ⟨g, cap, cur, hv, Nat.le_trans hb hg, r⟩
/-- A list of one type is as it was where a list of another type has grown. -/
theorem own_far {A A' : World} {b1 b2 : Nat} {e1 e2 : TypeId} {k1 k2 : Nat} {v1 v2 : Value} {n1 n2 : Nat} {x1 x2 : List Value} (h1 : A.ownsRow b1 e1 k1 v1 n1 x1) (h2 : A.ownsRow b2 e2 k2 v2 n2 x2) (hne : e2 ≠ e1) (hg : A.grownBy A' v1.ownBlock) :
    A'.ownsRow b2 e2 k2 v2 n2 x2 := by
  refine ⟨h2.1, ?_⟩
  rcases h2.2 with h | ⟨g, cap, cur, hv, hb, hh, r⟩
  · exact .inl h
  · refine .inr ⟨g, cap, cur, hv, hb, (hg.block g (Array.getElem?_eq_some_iff.1 hh).1 (fun e => ?_)).trans hh, r⟩
    rcases h1.2 with ⟨rfl, _⟩ | ⟨g1, _, _, rfl, _, hh1, _⟩
    · cases e
    · simp only [Value.ownBlock, Option.some.injEq] at e
      subst e
      rw [hh] at hh1
      cases hh1
      exact hne rfl
/-- A store into a list of the call's own. -/
theorem own_set {A : World} {base g cap : Nat} {e : TypeId} {k n : Nat} {xs : List Value} (h : A.ownsRow base e k (.slice (some ⟨g, 0, none⟩) n cap) n xs) (j : Nat) (u : Value) :
    (A.setCell ⟨g, j, none⟩ u).ownsRow base e k (.slice (some ⟨g, 0, none⟩) n cap) n (xs.set j u) := by
  refine ⟨by rw [List.length_set]; exact h.1, ?_⟩
  rcases h.2 with ⟨hv, _⟩ | ⟨g', cap', cur, hv, hb, hh, h1, h2, h3, h4⟩
  · cases hv
  · injection hv with e1 _ e3
    injection e1 with e1
    injection e1 with e1 _ _
    subst e1 e3
    have hs := HoldsB.set (show HoldsB A g e cur from hh) j u
    refine .inr ⟨g, cap, cur.setIfInBounds j u, rfl, hb, hs, h1, h2, by rw [Array.size_setIfInBounds]; exact h3, ?_⟩
    rw [Array.toList_setIfInBounds, ← h4]
    apply List.ext_getElem?
    intro m
    by_cases hm : m < n * k
    · rw [List.getElem?_take, if_pos hm]
      by_cases e : j = m
      · subst e
        simp only [List.getElem?_set_self', List.getElem?_take, if_pos hm]
      · rw [List.getElem?_set_ne e, List.getElem?_set_ne e, List.getElem?_take, if_pos hm]
    · rw [List.getElem?_take, if_neg hm]
      by_cases e : j = m
      · subst e
        simp only [List.getElem?_set_self', List.getElem?_take, if_neg hm]; rfl
      · rw [List.getElem?_set_ne e, List.getElem?_take, if_neg hm]
def setSt (s : Sg) (x : Int) : Sg := { s with stem := x }
def setOb (s : Sg) (x : Bool) : Sg := { s with obl := x }
theorem flatG_stem : ∀ (l : List Sg) (i : Nat) (s : Sg) (x : Int), l[i]? = some s → (flatG l).set (i * 17 + 5) (.int .i64 x) = flatG (l.set i (setSt s x))
  | [], _, _, _, h => by simp at h
  | a :: t, 0, s, x, h => by
    simp at h; subst h
    show (sgL a ++ flatG t).set 5 _ = sgL (setSt a x) ++ flatG t
    rw [List.set_append_left _ _ (by rw [sgL_len]; decide)]; rfl
  | a :: t, i + 1, s, x, h => by
    have ih := flatG_stem t i s x (by simpa using h)
    show (sgL a ++ flatG t).set _ _ = sgL a ++ flatG (t.set i (setSt s x))
    rw [List.set_append_right _ _ (by rw [sgL_len]; omega), sgL_len, show (i + 1) * 17 + 5 - 17 = i * 17 + 5 by omega, ih]
theorem flatG_obl : ∀ (l : List Sg) (i : Nat) (s : Sg) (x : Bool), l[i]? = some s → (flatG l).set (i * 17 + 6) (.bool x) = flatG (l.set i (setOb s x))
  | [], _, _, _, h => by simp at h
  | a :: t, 0, s, x, h => by
    simp at h; subst h
    show (sgL a ++ flatG t).set 6 _ = sgL (setOb a x) ++ flatG t
    rw [List.set_append_left _ _ (by rw [sgL_len]; decide)]; rfl
  | a :: t, i + 1, s, x, h => by
    have ih := flatG_obl t i s x (by simpa using h)
    show (sgL a ++ flatG t).set _ _ = sgL a ++ flatG (t.set i (setOb s x))
    rw [List.set_append_right _ _ (by rw [sgL_len]; omega), sgL_len, show (i + 1) * 17 + 6 - 17 = i * 17 + 6 by omega, ih]

/-- The elements vs of a list of lists are the lists L, each in memory of the call's own. -/
def Inn (w : World) (base : Nat) (vs : List Value) (L : List (List Sg)) : Prop :=
  vs.length = L.length ∧ ∀ (k : Nat) (x : List Sg), L[k]? = some x → ∃ u, vs[k]? = some u ∧ w.ownsRow base 51 17 u x.length (flatG x)
theorem Inn.nil (w : World) (base : Nat) : Inn w base [] [] := ⟨rfl, fun k x h => by simp at h⟩
theorem Inn.later {w w1 : World} {base : Nat} {vs : List Value} {L : List (List Sg)} (h : Inn w base vs L) (b : Below w.heap.size w w1) : Inn w1 base vs L :=
  ⟨h.1, fun k x hx => by obtain ⟨u, e, ho⟩ := h.2 k x hx; exact ⟨u, e, own_keep ho b (Nat.le_refl _)⟩⟩
theorem Inn.base {w : World} {base base' : Nat} {vs : List Value} {L : List (List Sg)} (h : Inn w base vs L) (hb : base' ≤ base) : Inn w base' vs L :=
  ⟨h.1, fun k x hx => by obtain ⟨u, e, ho⟩ := h.2 k x hx; exact ⟨u, e, own_base ho hb⟩⟩
theorem Inn.app {w : World} {base : Nat} {vs us : List Value} {L M : List (List Sg)} (h : Inn w base vs L) (k : Inn w base us M) : Inn w base (vs ++ us) (L ++ M) := by
  refine ⟨by rw [List.length_append, List.length_append, h.1, k.1], fun j x hx => ?_⟩
  by_cases hj : j < L.length
  · rw [List.getElem?_append_left hj] at hx
    obtain ⟨u, e, ho⟩ := h.2 j x hx
    exact ⟨u, by rw [List.getElem?_append_left (by rw [h.1]; exact hj)]; exact e, ho⟩
  · rw [List.getElem?_append_right (by omega)] at hx
    obtain ⟨u, e, ho⟩ := k.2 _ x hx
    exact ⟨u, by rw [List.getElem?_append_right (by rw [h.1]; omega), h.1]; exact e, ho⟩
theorem Inn.far {A A' : World} {base b1 k1 n1 : Nat} {v1 : Value} {x1 vs : List Value} {L : List (List Sg)} (h : Inn A base vs L) (h1 : A.ownsRow b1 24 k1 v1 n1 x1) (hg : A.grownBy A' v1.ownBlock) : Inn A' base vs L :=
  ⟨h.1, fun k x hx => by obtain ⟨u, e, ho⟩ := h.2 k x hx; exact ⟨u, e, own_far h1 ho (by decide) hg⟩⟩
theorem Inn.one {w : World} {base : Nat} {u : Value} {x : List Sg} (h : w.ownsRow base 51 17 u x.length (flatG x)) : Inn w base [u] [x] := by
  refine ⟨rfl, fun k y hy => ?_⟩
  match k, hy with
  | 0, hy => simp at hy; subst hy; exact ⟨u, rfl, h⟩
  | k + 1, hy => simp at hy
/-- A list of lists, made since w0. -/
structure GrpL (w0 w : World) (v : Value) (vs : List Value) (L : List (List Sg)) : Prop where
  own : OwnL w0 w 24 1 v L.length vs
  inn : Inn w w0.heap.size vs L
theorem GrpL.start (w : World) : GrpL w w (.slice none 0 0) [] [] := ⟨OwnL.start _ _ _, Inn.nil _ _⟩
theorem GrpL.later {w0 w w1 : World} {v : Value} {vs : List Value} {L : List (List Sg)} (h : GrpL w0 w v vs L) (b : Below w.heap.size w w1) : GrpL w0 w1 v vs L := ⟨h.own.later b, h.inn.later b⟩
theorem one_own {w : World} {base : Nat} {e : TypeId} {k : Nat} {v : Value} {n : Nat} {xs : List Value} (h : w.ownsRow base e k v n xs) : v.oneCell' = true := by
  rcases h.2 with ⟨rfl, _⟩ | ⟨g, cap, cur, rfl, _⟩ <;> rfl
theorem Inn.ones {w : World} {base : Nat} {vs : List Value} {L : List (List Sg)} (h : Inn w base vs L) : ∀ u ∈ vs, u.oneCell' = true := by
  intro u hu
  obtain ⟨k, hk, e⟩ := List.getElem_of_mem hu
  have hkl : k < L.length := by rw [← h.1]; exact hk
  obtain ⟨u', e', ho⟩ := h.2 k L[k] (List.getElem?_eq_getElem hkl)
  rw [List.getElem?_eq_getElem hk, e] at e'
  obtain rfl : u = u' := Option.some.inj e'
  exact one_own ho

end Go.Proofs.Ythokapebcplmkaa
