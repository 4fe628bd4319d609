/- The iterator's own memory: the ligature so far in a row with room, and what its closure has captured. -/
import Derived.Test.YtedkcnphplpacaaLgIter
import Derived.Test.YtedkcnphplpacaaLgProgE
import Derived.Test.YtedkcnphplpacaaLgLit
import Derived.ArgAppend
import Derived.Deep.RegionLaw
namespace Go.Proofs.Ytedkcnphplpacaa
open Go.RowKit

/-! ### Many cells of one block -/
def putA (cs : Array Value) : Nat → List Value → Array Value
  | _, [] => cs
  | o, v :: r => putA (cs.setIfInBounds o v) (o + 1) r
theorem putA_size : ∀ (vs : List Value) (o : Nat) (cs : Array Value), (putA cs o vs).size = cs.size
  | [], _, _ => rfl
  | v :: r, o, cs => by
    show (putA (cs.setIfInBounds o v) (o + 1) r).size = _
    rw [putA_size r, Array.size_setIfInBounds]
theorem holds_sets {b : Nat} {t : TypeId} : ∀ (vs : List Value) (o : Nat) (W : World) (cs : Array Value), HoldsB W b t cs → HoldsB (W.setCells b o vs) b t (putA cs o vs)
  | [], _, _, _, h => h
  | v :: r, o, _, _, h => holds_sets r (o + 1) _ _ (h.set o v)
theorem holds_sets_other {b c : Nat} {t : TypeId} (hne : b ≠ c) : ∀ (vs : List Value) (o : Nat) (W : World) (cs : Array Value), HoldsB W b t cs → HoldsB (W.setCells c o vs) b t cs
  | [], _, _, _, h => h
  | v :: r, o, _, _, h => holds_sets_other hne r (o + 1) _ _ (h.other hne o v)
theorem putA_before : ∀ (vs : List Value) (o : Nat) (cs : Array Value) (i : Nat), i < o → (putA cs o vs)[i]? = cs[i]?
  | [], _, _, _, _ => rfl
  | v :: r, o, cs, i, h => by
    show (putA (cs.setIfInBounds o v) (o + 1) r)[i]? = _
    rw [putA_before r (o + 1) _ i (by omega), Array.getElem?_setIfInBounds_ne (by omega)]
theorem putA_in : ∀ (vs : List Value) (o : Nat) (cs : Array Value) (j : Nat), o + vs.length ≤ cs.size → j < vs.length → (putA cs o vs)[o + j]? = vs[j]?
  | [], _, _, _, _, h => by simp at h
  | v :: r, o, cs, 0, hs, _ => by
    show (putA (cs.setIfInBounds o v) (o + 1) r)[o + 0]? = _
    simp only [List.length_cons] at hs
    rw [putA_before r (o + 1) _ _ (by omega), Nat.add_zero, Array.getElem?_setIfInBounds_self_of_lt (by omega)]; rfl
  | v :: r, o, cs, j + 1, hs, h => by
    show (putA (cs.setIfInBounds o v) (o + 1) r)[o + (j + 1)]? = _
    simp only [List.length_cons] at hs h
    rw [show o + (j + 1) = (o + 1) + j by omega, putA_in r (o + 1) _ j (by rw [Array.size_setIfInBounds]; omega) (by omega)]; rfl
theorem putA_take {vs : List Value} {o : Nat} {cs : Array Value} (h : o + vs.length ≤ cs.size) : (putA cs o vs).toList.take (o + vs.length) = cs.toList.take o ++ vs := by
  apply List.ext_getElem?
  intro i
  by_cases hi : i < o
  · rw [List.getElem?_take_of_lt (by omega), List.getElem?_append_left (by rw [List.length_take, Array.length_toList]; omega), List.getElem?_take_of_lt hi, Array.getElem?_toList, Array.getElem?_toList, putA_before _ _ _ _ hi]
  · have hl : (cs.toList.take o).length = o := by rw [List.length_take, Array.length_toList]; omega
    rw [List.getElem?_append_right (by omega), hl]
    by_cases hj : i < o + vs.length
    · rw [List.getElem?_take_of_lt hj, Array.getElem?_toList]
      have := putA_in vs o cs (i - o) h (by omega)
      rw [show o + (i - o) = i by omega] at this
      exact this
    · rw [List.getElem?_take_eq_none (by omega), List.getElem?_eq_none (by omega)]

/-! ### The shapes in the iterator's order -/
def optP : List (Bool × Int) := [(false, 0), (false, 1), (false, 2), (false, 3), (true, 0), (true, 1), (true, 2), (true, 3)]
def nxS (ps : List Int) (n : Nat) (o : Bool × Int) : Sg := ⟨4, 0, ps.getD n 0, 0, false, o.2, o.1, decide (n + 1 = ps.length), 0, 0, 0, 0, false, 0, 0, 0, 0⟩
def pAll (ps vs : List Int) : Nat → List Sg → List (List Sg)
  | 0, l => [l]
  | k + 1, l => optP.flatMap fun o => if hopP vs (l ++ [nxS ps l.length o]) = true then pAll ps vs k (l ++ [nxS ps l.length o]) else []
theorem optP_at {r t : Nat} (hr : r < 2) (ht : t < 4) : optP[4 * r + t]? = some (decide ((r : Int) = 1), (t : Int)) := by
  have hall : ∀ r ∈ List.range 2, ∀ t ∈ List.range 4, optP[4 * r + t]? = some (decide ((r : Int) = 1), (t : Int)) := by decide
  exact hall r (List.mem_range.2 hr) t (List.mem_range.2 ht)

/-! ### The iterator's own blocks -/
abbrev goV (n0 bp bv : Nat) : Value := .func (.func 63) #[] #[.pointer (some ⟨n0 + 4, 0, none⟩), .pointer (some ⟨bp, 0, none⟩), .pointer (some ⟨n0, 0, none⟩), .pointer (some ⟨n0 + 2, 0, none⟩), .pointer (some ⟨bv, 0, none⟩), .pointer (some ⟨n0 + 5, 0, none⟩)]
structure ItS (n0 L cap bp bv : Nat) (l : List Sg) (A : World) : Prop where
  yl : HoldsB A n0 44 #[.func (.yield L) #[] #[]]
  ru : RuAt A (n0 + 1)
  as_ : HoldsB A (n0 + 2) 65 #[.slice (some ⟨n0 + 1, 0, none⟩) 4 4]
  buf : ∃ cur, HoldsB A (n0 + 3) 30 cur ∧ cur.size = cap * 17 ∧ cur.toList.take (l.length * 17) = flatG l
  lv : HoldsB A (n0 + 4) 23 #[.slice (some ⟨n0 + 3, 0, none⟩) l.length cap]
  go : HoldsB A (n0 + 5) 38 #[goV n0 bp bv]
theorem ItS.mono {n0 L cap bp bv : Nat} {l : List Sg} {A B : World} (h : ItS n0 L cap bp bv l A) (k : ∀ b t cs, n0 ≤ b → t ≠ 3 → HoldsB A b t cs → HoldsB B b t cs) : ItS n0 L cap bp bv l B := by
  obtain ⟨cur, h1, h2⟩ := h.buf
  exact ⟨k _ _ _ (by omega) (by decide) h.yl, ⟨k _ _ _ (by omega) (by decide) h.ru.at_⟩, k _ _ _ (by omega) (by decide) h.as_, ⟨cur, k _ _ _ (by omega) (by decide) h1, h2⟩, k _ _ _ (by omega) (by decide) h.lv, k _ _ _ (by omega) (by decide) h.go⟩
theorem ItS.later {n0 L cap bp bv : Nat} {l : List Sg} {A B : World} (h : ItS n0 L cap bp bv l A) (b : Below A.heap.size A B) : ItS n0 L cap bp bv l B := h.mono (fun _ _ _ _ _ hh => hh.later b)
theorem ItS.mid {n0 L cap bp bv : Nat} {l : List Sg} {A B : World} (h : ItS n0 L cap bp bv l A) (m : Mid n0 A B) : ItS n0 L cap bp bv l B :=
  h.mono (fun b t _ hb ht hh => m.same b _ hb hh (by unfold plainO; exact decide_eq_true ht))
theorem ItS.sl {n0 L cap bp bv : Nat} {l : List Sg} {A : World} (h : ItS n0 L cap bp bv l A) (hl : l.length ≤ cap) (hc : cap ≤ 1000) : SlP A 17 (some ⟨n0 + 3, 0, none⟩) l.length cap (flatG l) := by
  obtain ⟨cur, h1, h2, h3⟩ := h.buf
  refine ⟨flatG_len l, hl, by omega, fun e => (by cases e), flatG_one l, fun _ => ⟨n0 + 3, 0, rfl, h1.lt, fun j u hj => ?_⟩⟩
  rw [Nat.zero_add]
  refine h1.cell ?_
  have hlt : j < l.length * 17 := by have := (List.getElem?_eq_some_iff.1 hj).1; rwa [flatG_len] at this
  rw [← h3, List.getElem?_take_of_lt hlt, Array.getElem?_toList] at hj
  exact hj
/-- One sign more, in the room that the row has. -/
theorem ItS.push {n0 L cap bp bv : Nat} {l : List Sg} {A : World} (h : ItS n0 L cap bp bv l A) (hl : l.length < cap) (s : Sg) {m : Nat} (hm : m = (l ++ [s]).length) :
    ItS n0 L cap bp bv (l ++ [s]) ((A.setCells (n0 + 3) (l.length * 17) (sgL s)).setCell ⟨n0 + 4, 0, none⟩ (.slice (some ⟨n0 + 3, 0, none⟩) m cap)) := by
  subst hm
  obtain ⟨cur, h1, h2, h3⟩ := h.buf
  have K : ∀ {b : Nat} {t : TypeId} {cs : Array Value}, HoldsB A b t cs → b ≠ n0 + 3 → b ≠ n0 + 4 → HoldsB ((A.setCells (n0 + 3) (l.length * 17) (sgL s)).setCell ⟨n0 + 4, 0, none⟩ (.slice (some ⟨n0 + 3, 0, none⟩) (l ++ [s]).length cap)) b t cs :=
    fun hh a c => (holds_sets_other a _ _ _ _ hh).other c 0 _
  refine ⟨K h.yl (by omega) (by omega), ⟨K h.ru.at_ (by omega) (by omega)⟩, K h.as_ (by omega) (by omega), ⟨putA cur (l.length * 17) (sgL s), (holds_sets _ _ _ _ h1).other (by omega) 0 _, by rw [putA_size, h2], ?_⟩, ?_, K h.go (by omega) (by omega)⟩
  · have := putA_take (vs := sgL s) (o := l.length * 17) (cs := cur) (by rw [sgL_len, h2]; omega)
    rw [sgL_len, h3] at this
    rw [List.length_append, show (l.length + [s].length) * 17 = l.length * 17 + 17 by simp; omega, this, flatG_app]
    simp [flatG]
  · exact (holds_sets_other (show n0 + 4 ≠ n0 + 3 by omega) _ _ _ _ h.lv).set 0 _
/-- .. and cut back. -/
theorem ItS.cut {n0 L cap bp bv : Nat} {l : List Sg} {s : Sg} {A : World} (h : ItS n0 L cap bp bv (l ++ [s]) A) : ItS n0 L cap bp bv l (A.setCell ⟨n0 + 4, 0, none⟩ (.slice (some ⟨n0 + 3, 0, none⟩) l.length cap)) := by
  obtain ⟨cur, h1, h2, h3⟩ := h.buf
  have K : ∀ {b : Nat} {t : TypeId} {cs : Array Value}, HoldsB A b t cs → b ≠ n0 + 4 → HoldsB (A.setCell ⟨n0 + 4, 0, none⟩ (.slice (some ⟨n0 + 3, 0, none⟩) l.length cap)) b t cs := fun hh c => hh.other c 0 _
  refine ⟨K h.yl (by omega), ⟨K h.ru.at_ (by omega)⟩, K h.as_ (by omega), ⟨cur, K h1 (by omega), h2, ?_⟩, h.lv.set 0 _, K h.go (by omega)⟩
  have : (cur.toList.take ((l ++ [s]).length * 17)).take (l.length * 17) = (flatG (l ++ [s])).take (l.length * 17) := by rw [h3]
  rw [List.take_take, Nat.min_eq_left (by rw [List.length_append]; omega), flatG_app] at this
  rw [this, List.take_append_of_le_length (by rw [flatG_len]; exact Nat.le_refl _), List.take_of_length_le (by rw [flatG_len]; exact Nat.le_refl _)]

/-- What lies behind the iterator's own blocks is as it was, lists of numbers aside. -/
structure Kp (n0 : Nat) (A B : World) : Prop where
  size : A.heap.size ≤ B.heap.size
  keep : ∀ k o, n0 + 6 ≤ k → A.heap[k]? = some o → plainO o = true → B.heap[k]? = some o
theorem Kp.refl (n0 : Nat) (A : World) : Kp n0 A A := ⟨Nat.le_refl _, fun _ _ _ h _ => h⟩
theorem Kp.trans {n0 : Nat} {A B C : World} (h : Kp n0 A B) (k : Kp n0 B C) : Kp n0 A C := ⟨Nat.le_trans h.size k.size, fun i o hi ho hp => k.keep i o hi (h.keep i o hi ho hp) hp⟩
theorem Kp.off {n0 : Nat} {A B : World} (o : Off n0 6 A B) : Kp n0 A B := ⟨o.size, fun k _ hk ho _ => (o.same k (Array.getElem?_eq_some_iff.1 ho).1 (.inr hk)).trans ho⟩
theorem Kp.mid {n0 : Nat} {A B : World} (m : Mid n0 A B) : Kp n0 A B := ⟨m.size, fun k o hk ho hp => m.same k o (by omega) ho hp⟩
/-- What the iterator reads of its caller's memory. -/
structure PlC (ps vs : List Int) (cap bp bv : Nat) (pp : Option Addr) (cp : Nat) (pv : Option Addr) (cv : Nat) (A : World) : Prop where
  bp_ : HoldsB A bp 22 #[.slice pp cap cp]
  bv_ : HoldsB A bv 22 #[.slice pv cap cv]
  ps_ : SlP A 1 pp cap cp (ints ps)
  vs_ : SlP A 1 pv cap cv (ints vs)
/-- What stands in a round of goOn: the iterator's blocks, the caller's invariant, the literal of the two bodies. -/
structure GS (n0 L cap bp bv lit : Nat) (A0 : World) (JP : World → Prop) (l : List Sg) (Y : World) : Prop where
  it : ItS n0 L cap bp bv l Y
  j : JP Y
  lt_ : HoldsB Y lit 4 #[.bool false, .bool true]
  kp : Kp n0 A0 Y
  sz : n0 + 6 ≤ Y.heap.size
theorem GS.later {n0 L cap bp bv lit : Nat} {A0 : World} {JP : World → Prop} {l : List Sg} {Y Z : World} (hJ : ∀ A B, JP A → Off n0 6 A B → JP B) (h : GS n0 L cap bp bv lit A0 JP l Y) (b : Below Y.heap.size Y Z) : GS n0 L cap bp bv lit A0 JP l Z :=
  ⟨h.it.later b, hJ _ _ h.j (Off.bel b), h.lt_.later b, h.kp.trans (Kp.off (Off.bel b)), Nat.le_trans h.sz b.size⟩
theorem GS.push {n0 L cap bp bv lit : Nat} {A0 : World} {JP : World → Prop} {l : List Sg} {Y : World} (hJ : ∀ A B, JP A → Off n0 6 A B → JP B) (h : GS n0 L cap bp bv lit A0 JP l Y) (hlit : n0 + 6 ≤ lit) (hl : l.length < cap) (s : Sg) {m : Nat} (hm : m = (l ++ [s]).length) :
    GS n0 L cap bp bv lit A0 JP (l ++ [s]) ((Y.setCells (n0 + 3) (l.length * 17) (sgL s)).setCell ⟨n0 + 4, 0, none⟩ (.slice (some ⟨n0 + 3, 0, none⟩) m cap)) := by
  have o : Off n0 6 Y ((Y.setCells (n0 + 3) (l.length * 17) (sgL s)).setCell ⟨n0 + 4, 0, none⟩ (.slice (some ⟨n0 + 3, 0, none⟩) m cap)) := (Off.sets (n0 + 3) (by omega) (by omega) _ _ _).trans (Off.set _ (by omega) (by omega) _ _)
  exact ⟨h.it.push hl s hm, hJ _ _ h.j o, o.keepB (.inr hlit) h.lt_, h.kp.trans (Kp.off o), Nat.le_trans h.sz o.size⟩
theorem GS.cut {n0 L cap bp bv lit : Nat} {A0 : World} {JP : World → Prop} {l : List Sg} {s : Sg} {Y : World} (hJ : ∀ A B, JP A → Off n0 6 A B → JP B) (h : GS n0 L cap bp bv lit A0 JP (l ++ [s]) Y) (hlit : n0 + 6 ≤ lit) :
    GS n0 L cap bp bv lit A0 JP l (Y.setCell ⟨n0 + 4, 0, none⟩ (.slice (some ⟨n0 + 3, 0, none⟩) l.length cap)) := by
  have o : Off n0 6 Y (Y.setCell ⟨n0 + 4, 0, none⟩ (.slice (some ⟨n0 + 3, 0, none⟩) l.length cap)) := Off.set _ (by omega) (by omega) _ _
  exact ⟨h.it.cut, hJ _ _ h.j o, o.keepB (.inr hlit) h.lt_, h.kp.trans (Kp.off o), Nat.le_trans h.sz o.size⟩
/-- Room for one sign more. -/
theorem ItS.room {n0 L cap bp bv : Nat} {l : List Sg} {A : World} (h : ItS n0 L cap bp bv l A) (hl : l.length < cap) : ∀ j, j < 17 → (A.cell? ⟨n0 + 3, 0 + l.length * 17 + j, none⟩).isSome = true ∧ A.frozen? ⟨n0 + 3, 0 + l.length * 17 + j, none⟩ = false := by
  intro j hj
  obtain ⟨cur, h1, h2, _⟩ := h.buf
  refine ⟨?_, h1.frozen _⟩
  have : cur[0 + l.length * 17 + j]? = some (cur[0 + l.length * 17 + j]'(by omega)) := Array.getElem?_eq_getElem _
  rw [h1.cell this]; rfl

end Go.Proofs.Ytedkcnphplpacaa
