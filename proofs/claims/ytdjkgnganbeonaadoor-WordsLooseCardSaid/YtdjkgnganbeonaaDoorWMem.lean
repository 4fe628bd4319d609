/- Slices of words and of rows in memory: what they look like, and how they last. -/
import Derived.Test.YtdjkgnganbeonaaDoorWCuts
import Derived.WalkSpells
import Derived.OwnWalk
import Derived.Deep.AppendLies
namespace Go.Proofs.YtdjkgnganbeonaaDoor
open Go.RowKit

theorem w_below {w a b : World} (h : Below w.heap.size w a) (k : Below a.heap.size a b) : Below w.heap.size w b := h.trans (k.mono h.size)
theorem w_alloc {w a : World} (h : Below w.heap.size w a) (o : Obj) : Below w.heap.size w (a.alloc o) := h.alloc h.size o
theorem w_set {w a : World} (h : Below w.heap.size w a) {p : Addr} (hp : w.heap.size ≤ p.block) (u : Value) : Below w.heap.size w (a.setCell p u) := h.setCell hp u
theorem w_refl (w : World) : Below w.heap.size w w := Below.refl _ _

/-- A slice, nil or not: n elements of so many cells. -/
structure SliceP (w : World) (p : Option Addr) (cap n size : Nat) (xs : List Value) : Prop where
  fit : n ≤ cap
  max : cap ≤ 9223372036854775807
  nil : p = none → cap = 0
  len : xs.length = n * size
  at_ : 0 < n → ∃ b off, p = some ⟨b, off, none⟩ ∧ b < w.heap.size ∧ ∀ j u, xs[j]? = some u → w.cell? ⟨b, off + j, none⟩ = some u

theorem SliceP.later {w w1 : World} {p : Option Addr} {cap n size : Nat} {xs : List Value} (h : SliceP w p cap n size xs) (k : Below w.heap.size w w1) : SliceP w1 p cap n size xs :=
  ⟨h.fit, h.max, h.nil, h.len, fun h0 => by
    obtain ⟨b, off, e, hb, hc⟩ := h.at_ h0
    exact ⟨b, off, e, Nat.lt_of_lt_of_le hb k.size, fun j u hu => by rw [← hc j u hu]; exact k.cell (p := ⟨b, off + j, none⟩) hb⟩⟩
theorem SliceP.below {w w1 : World} {B : Nat} {p : Option Addr} {cap n size : Nat} {xs : List Value} (h : SliceP w p cap n size xs) (k : Below B w w1) (hB : w.heap.size ≤ B) : SliceP w1 p cap n size xs :=
  ⟨h.fit, h.max, h.nil, h.len, fun h0 => by
    obtain ⟨b, off, e, hb, hc⟩ := h.at_ h0
    exact ⟨b, off, e, Nat.lt_of_lt_of_le hb k.size, fun j u hu => by rw [← hc j u hu]; exact k.cell (p := ⟨b, off + j, none⟩) (by show b < B; omega)⟩⟩

theorem slice_of_own {w : World} {base size : Nat} {e : TypeId} {v : Value} {n : Nat} {xs : List Value} (h : w.ownsRow base e size v n xs) : ∃ p cap, v = .slice p n cap ∧ SliceP w p cap n size xs := by
  have hlen := h.1
  rcases h.2 with ⟨rfl, hn⟩ | ⟨g, cap, cur, rfl, hb, hg, hnc, hcm, hcs, ht⟩
  · exact ⟨none, 0, by rw [hn], by omega, by omega, fun _ => rfl, hlen, fun h0 => by omega⟩
  · unfold maxLen at hcm
    refine ⟨some ⟨g, 0, none⟩, cap, rfl, hnc, by omega, fun e => (by cases e), hlen, fun _ => ⟨g, 0, rfl, (Array.getElem?_eq_some_iff.1 hg).1, fun j u hu => ?_⟩⟩
    have hj := (List.getElem?_eq_some_iff.1 hu).1
    rw [Nat.zero_add, h.cellAt j (by omega), hu]

theorem w_own {w w1 : World} {base size B : Nat} {e : TypeId} {v : Value} {n : Nat} {xs : List Value} (h : w.ownsRow base e size v n xs) (k : Below B w w1) (hB : w.heap.size ≤ B) : w1.ownsRow base e size v n xs := by
  refine ⟨h.1, ?_⟩
  rcases h.2 with hn | ⟨g, cap, cur, hv, hb, hg, rest⟩
  · exact .inl hn
  · exact .inr ⟨g, cap, cur, hv, hb, by rw [k.block g (by have := (Array.getElem?_eq_some_iff.1 hg).1; omega)]; exact hg, rest⟩

theorem w_addr (b off j : Nat) : (⟨b, off, none⟩ : Addr).add j = ⟨b, off + j, none⟩ := by
  unfold Addr.add; split
  · rename_i h; subst h; rfl
  · rfl

def flatW : List Wd → List Value
  | [] => []
  | x :: t => .int .i64 x.at_ :: .string x.text :: .bool x.quoted :: flatW t
def noWd : Wd := ⟨0, ⟨#[]⟩, false⟩
theorem flatW_len : ∀ l, (flatW l).length = l.length * 3
  | [] => rfl
  | x :: t => by have := flatW_len t; simp only [flatW, List.length_cons]; omega
theorem flatW_app : ∀ l m, flatW (l ++ m) = flatW l ++ flatW m
  | [], _ => rfl
  | x :: t, m => by show flatW (x :: (t ++ m)) = _; simp [flatW, flatW_app t m]
theorem flatW_one : ∀ (l : List Wd), ∀ u ∈ flatW l, u.oneCell' = true
  | [], u, h => by simp [flatW] at h
  | x :: t, u, h => by
    simp only [flatW, List.mem_cons] at h
    rcases h with rfl | rfl | rfl | h
    · rfl
    · rfl
    · rfl
    · exact flatW_one t u h
theorem flatW_get : ∀ (l : List Wd) (k : Nat), k < l.length → (flatW l)[k * 3]? = some (.int .i64 (l.getD k noWd).at_) ∧ (flatW l)[k * 3 + 1]? = some (.string (l.getD k noWd).text) ∧ (flatW l)[k * 3 + 2]? = some (.bool (l.getD k noWd).quoted)
  | [], k, h => by simp at h
  | x :: t, 0, _ => ⟨rfl, rfl, rfl⟩
  | x :: t, k + 1, h => by
    have := flatW_get t k (by simpa using h)
    rw [show (k + 1) * 3 = k * 3 + 1 + 1 + 1 by omega]
    simpa [flatW] using this

/-- A new word, as its block holds it. -/
theorem new_word (w : World) (a : Int) (t : ByteArray) (q : Bool) (ty : TypeId) : ∀ j u, (flatW [⟨a, t, q⟩])[j]? = some u → (w.alloc (.cells #[.int .i64 a, .string t, .bool q] ty)).cell? ((⟨w.heap.size, 0, none⟩ : Addr).add j) = some u := by
  intro j u hu
  rw [w_addr]
  match j, hu with
  | 0, hu => simp [flatW] at hu; subst hu; simp [go_sem]
  | 1, hu => simp [flatW] at hu; subst hu; simp [go_sem]
  | 2, hu => simp [flatW] at hu; subst hu; simp [go_sem]
  | j + 3, hu => simp [flatW] at hu

theorem info_word : (Tryd.prog.info? 53).map (fun i => (i.zero, i.size, i.bytes)) = some (some (.agg #[.int .i64 0, .string ⟨#[]⟩, .bool false]), 3, 32) := by kernel_rfl
theorem info_row : (Tryd.prog.info? 44).map (fun i => (i.zero, i.size, i.bytes)) = some (some (.agg #[.int .i64 0, .slice none 0 0]), 2, 32) := by kernel_rfl

end Go.Proofs.YtdjkgnganbeonaaDoor
