/- Ways to sing in memory, and slices of anything as they are read. -/
import Derived.Test.YtaldbjhalpgkeaaDoorGSpec
import Derived.Deep.DeepCutAuto
import Derived.Deep.AppendLies
namespace Go.Proofs.YtaldbjhalpgkeaaDoor
open Go.RowKit

abbrev sv (s : Sy) : Value := .agg #[.int .i64 s.1, .int .i64 s.2]
abbrev sO (s : Sy) : Obj := .cells #[.int .i64 s.1, .int .i64 s.2] 25
abbrev pO (p : Pi3) : Obj := .cells #[.int .i64 p.1, .int .i64 p.2.1, .int .i64 p.2.2] 23
/-- Block b holds a way that may be written. -/
structure Cell2 (w : World) (b : Nat) (s : Sy) : Prop where
  inb : b < w.heap.size
  c0 : w.cell? ⟨b, 0, none⟩ = some (.int .i64 s.1)
  c1 : w.cell? ⟨b, 1, none⟩ = some (.int .i64 s.2)
  f0 : w.frozen? ⟨b, 0, none⟩ = false
  f1 : w.frozen? ⟨b, 1, none⟩ = false
theorem Cell2.made (w : World) (s : Sy) (t : TypeId) : Cell2 (w.alloc (.cells #[.int .i64 s.1, .int .i64 s.2] t)) w.heap.size s := ⟨by simp, by go_simp, by go_simp, by go_simp, by go_simp⟩
theorem Cell2.later {w w1 : World} {b : Nat} {s : Sy} (h : Cell2 w b s) (k : Below w.heap.size w w1) : Cell2 w1 b s :=
  ⟨Nat.lt_of_lt_of_le h.inb k.size, (k.cell (p := ⟨b, 0, none⟩) h.inb).trans h.c0, (k.cell (p := ⟨b, 1, none⟩) h.inb).trans h.c1,
    (k.frozen (p := ⟨b, 0, none⟩) h.inb).trans h.f0, (k.frozen (p := ⟨b, 1, none⟩) h.inb).trans h.f1⟩
theorem cell_later {w w1 : World} {p : Addr} {v : Value} (k : Below w.heap.size w w1) (h : w.cell? p = some v) : w1.cell? p = some v := (k.cell (World.block_lt_of_cell? w p h)).trans h
/-- Two boxes. -/
theorem boxesC (w : World) (s : Sy) (o : Obj) (t : TypeId) : Cell2 ((w.alloc (.cells #[.int .i64 s.1, .int .i64 s.2] t)).alloc o) w.heap.size s := (Cell2.made w s t).later (w_alloc (w_refl _) o)
theorem boxesD (w : World) (s u : Sy) (t : TypeId) : Cell2 ((w.alloc (.cells #[.int .i64 s.1, .int .i64 s.2] t)).alloc (.cells #[.int .i64 u.1, .int .i64 u.2] t)) (w.heap.size + 1) u := by
  have := Cell2.made (w.alloc (.cells #[.int .i64 s.1, .int .i64 s.2] t)) u t
  rwa [World.size_alloc] at this
theorem boxesE (w : World) (o : Obj) (p : Pi3) (t : TypeId) : Cell3 ((w.alloc o).alloc (.cells #[.int .i64 p.1, .int .i64 p.2.1, .int .i64 p.2.2] t)) (w.heap.size + 1) p := by
  have := Cell3.made (w.alloc o) p t
  rwa [World.size_alloc] at this

/-! ### Slices -/
/-- A slice that may be read: k cells an element, 'cs' the cells of its n elements. -/
structure SlP (w : World) (k : Nat) (p : Option Addr) (n cap : Nat) (cs : List Value) : Prop where
  len : cs.length = n * k
  fit : n ≤ cap
  max : cap ≤ 9223372036854775807
  nil : p = none → cap = 0
  one : ∀ u ∈ cs, u.oneCell' = true
  at_ : 0 < n → ∃ b off, p = some ⟨b, off, none⟩ ∧ b < w.heap.size ∧ ∀ j u, cs[j]? = some u → w.cell? ⟨b, off + j, none⟩ = some u
theorem SlP.later {w w1 : World} {k : Nat} {p : Option Addr} {n cap : Nat} {cs : List Value} (h : SlP w k p n cap cs) (b : Below w.heap.size w w1) : SlP w1 k p n cap cs :=
  ⟨h.len, h.fit, h.max, h.nil, h.one, fun h0 => by
    obtain ⟨c, off, e, hc, hu⟩ := h.at_ h0
    exact ⟨c, off, e, Nat.lt_of_lt_of_le hc b.size, fun j u hj => (b.cell (p := ⟨c, off + j, none⟩) hc).trans (hu j u hj)⟩⟩
theorem add_none (b off j : Nat) : (⟨b, off, none⟩ : Addr).add j = ⟨b, off + j, none⟩ := by
  unfold Addr.add; split
  · rename_i h; subst h; rfl
  · rfl
/-- A list that the call owns. -/
theorem SlP.of_own {w : World} {base : Nat} {e : TypeId} {k : Nat} {v : Value} {n : Nat} {cs : List Value} (h : w.ownsRow base e k v n cs) (hl : cs.length = n * k) (ho : ∀ u ∈ cs, u.oneCell' = true) :
    ∃ p cap, v = .slice p n cap ∧ SlP w k p n cap cs := by
  rcases h.2 with ⟨rfl, hn⟩ | ⟨g, cap, cur, rfl, hb, hg, hnc, hcm, hcs, ht⟩
  · exact ⟨none, 0, by rw [hn], hl, by omega, by omega, fun _ => rfl, ho, fun h0 => by omega⟩
  · unfold maxLen at hcm
    refine ⟨some ⟨g, 0, none⟩, cap, rfl, hl, hnc, by omega, fun e => (by cases e), ho, fun _ => ⟨g, 0, rfl, (Array.getElem?_eq_some_iff.1 hg).1, fun j u hj => ?_⟩⟩
    have hlt : j < n * k := by rw [← hl]; exact (List.getElem?_eq_some_iff.1 hj).1
    rw [Nat.zero_add, h.cellAt j hlt, hj]
/-- The cells of ways and of pitches. -/
def flatS : List Sy → List Value
  | [] => []
  | s :: t => .int .i64 s.1 :: .int .i64 s.2 :: flatS t
def flatP : List Pi3 → List Value
  | [] => []
  | p :: t => .int .i64 p.1 :: .int .i64 p.2.1 :: .int .i64 p.2.2 :: flatP t
theorem flatS_len : ∀ l : List Sy, (flatS l).length = l.length * 2
  | [] => rfl
  | s :: t => by have := flatS_len t; simp only [flatS, List.length_cons]; omega
theorem flatP_len : ∀ l : List Pi3, (flatP l).length = l.length * 3
  | [] => rfl
  | s :: t => by have := flatP_len t; simp only [flatP, List.length_cons]; omega
theorem flatS_app : ∀ l m : List Sy, flatS (l ++ m) = flatS l ++ flatS m
  | [], _ => rfl
  | s :: t, m => by show flatS (s :: (t ++ m)) = _; simp [flatS, flatS_app t m]
theorem flatP_app : ∀ l m : List Pi3, flatP (l ++ m) = flatP l ++ flatP m
  | [], _ => rfl
  | s :: t, m => by show flatP (s :: (t ++ m)) = _; simp [flatP, flatP_app t m]
theorem flatS_one : ∀ l : List Sy, ∀ u ∈ flatS l, u.oneCell' = true
  | [], u, h => by simp [flatS] at h
  | s :: t, u, h => by
    simp only [flatS, List.mem_cons] at h
    rcases h with rfl | rfl | h
    · rfl
    · rfl
    · exact flatS_one t u h
theorem flatP_one : ∀ l : List Pi3, ∀ u ∈ flatP l, u.oneCell' = true
  | [], u, h => by simp [flatP] at h
  | s :: t, u, h => by
    simp only [flatP, List.mem_cons] at h
    rcases h with rfl | rfl | rfl | h
    · rfl
    · rfl
    · rfl
    · exact flatP_one t u h
theorem flatS_at : ∀ (l : List Sy) (k : Nat) (s : Sy), l[k]? = some s → (flatS l)[k * 2]? = some (.int .i64 s.1) ∧ (flatS l)[k * 2 + 1]? = some (.int .i64 s.2)
  | [], k, s, h => by simp at h
  | a :: t, 0, s, h => by simp at h; subst h; exact ⟨rfl, rfl⟩
  | a :: t, k + 1, s, h => by
    have := flatS_at t k s (by simpa using h)
    rw [show (k + 1) * 2 = k * 2 + 1 + 1 by omega]
    exact this
theorem flatP_at : ∀ (l : List Pi3) (k : Nat) (s : Pi3), l[k]? = some s → (flatP l)[k * 3]? = some (.int .i64 s.1) ∧ (flatP l)[k * 3 + 1]? = some (.int .i64 s.2.1) ∧ (flatP l)[k * 3 + 2]? = some (.int .i64 s.2.2)
  | [], k, s, h => by simp at h
  | a :: t, 0, s, h => by simp at h; subst h; exact ⟨rfl, rfl, rfl⟩
  | a :: t, k + 1, s, h => by
    have := flatP_at t k s (by simpa using h)
    rw [show (k + 1) * 3 = k * 3 + 1 + 1 + 1 by omega]
    exact this
/-- A value is a slice of ways, or of pitches, that may be read. -/
def SylV (w : World) (v : Value) (l : List Sy) : Prop := ∃ p cap, v = .slice p l.length cap ∧ SlP w 2 p l.length cap (flatS l)
def PitV (w : World) (v : Value) (l : List Pi3) : Prop := ∃ p cap, v = .slice p l.length cap ∧ SlP w 3 p l.length cap (flatP l)
theorem SylV.later {w w1 : World} {v : Value} {l : List Sy} (h : SylV w v l) (b : Below w.heap.size w w1) : SylV w1 v l := by
  obtain ⟨p, cap, e, k⟩ := h; exact ⟨p, cap, e, k.later b⟩
theorem PitV.later {w w1 : World} {v : Value} {l : List Pi3} (h : PitV w v l) (b : Below w.heap.size w w1) : PitV w1 v l := by
  obtain ⟨p, cap, e, k⟩ := h; exact ⟨p, cap, e, k.later b⟩
theorem SylV.of_own {w : World} {base : Nat} {e : TypeId} {v : Value} {l : List Sy} (h : w.ownsRow base e 2 v l.length (flatS l)) : SylV w v l := SlP.of_own h (flatS_len l) (flatS_one l)
theorem PitV.of_own {w : World} {base : Nat} {e : TypeId} {v : Value} {l : List Pi3} (h : w.ownsRow base e 3 v l.length (flatP l)) : PitV w v l := SlP.of_own h (flatP_len l) (flatP_one l)
/-- The cells of one element. -/
theorem SlP.way {w : World} {p : Option Addr} {cap : Nat} {l : List Sy} (h : SlP w 2 p l.length cap (flatS l)) {i : Nat} {s : Sy} (hi : l[i]? = some s) :
    ∃ b off, p = some ⟨b, off, none⟩ ∧ b < w.heap.size ∧ w.cell? ⟨b, off + i * 2, none⟩ = some (.int .i64 s.1) ∧ w.cell? ⟨b, off + i * 2 + 1, none⟩ = some (.int .i64 s.2) := by
  have hlt := (List.getElem?_eq_some_iff.1 hi).1
  obtain ⟨b, off, e, hb, hc⟩ := h.at_ (by omega)
  obtain ⟨h1, h2⟩ := flatS_at l i s hi
  exact ⟨b, off, e, hb, hc _ _ h1, by rw [Nat.add_assoc]; exact hc _ _ h2⟩
theorem SlP.pit {w : World} {p : Option Addr} {cap : Nat} {l : List Pi3} (h : SlP w 3 p l.length cap (flatP l)) {i : Nat} {s : Pi3} (hi : l[i]? = some s) :
    ∃ b off, p = some ⟨b, off, none⟩ ∧ b < w.heap.size ∧ w.cell? ⟨b, off + i * 3, none⟩ = some (.int .i64 s.1) ∧ w.cell? ⟨b, off + i * 3 + 1, none⟩ = some (.int .i64 s.2.1) ∧ w.cell? ⟨b, off + i * 3 + 2, none⟩ = some (.int .i64 s.2.2) := by
  have hlt := (List.getElem?_eq_some_iff.1 hi).1
  obtain ⟨b, off, e, hb, hc⟩ := h.at_ (by omega)
  obtain ⟨h1, h2, h3⟩ := flatP_at l i s hi
  exact ⟨b, off, e, hb, hc _ _ h1, by rw [Nat.add_assoc]; exact hc _ _ h2, by rw [Nat.add_assoc]; exact hc _ _ h3⟩

/-! ### Lists that the call makes -/
theorem own_keep {w w1 : World} {base size B : Nat} {e : TypeId} {v : Value} {n : Nat} {xs : List Value} (h : w.ownsRow base e size v n xs) (k : Below B w w1) (hB : w.heap.size ≤ B) : w1.ownsRow base e size v n xs := by
  refine ⟨h.1, ?_⟩
  rcases h.2 with hn | ⟨g, cap, cur, hv, hb, hg, rest⟩
  · exact .inl hn
  · exact .inr ⟨g, cap, cur, hv, hb, by rw [k.block g (by have := (Array.getElem?_eq_some_iff.1 hg).1; omega)]; exact hg, rest⟩
/-- A list that has been made since w0. -/
structure OwnL (w0 w : World) (e : TypeId) (k : Nat) (v : Value) (n : Nat) (cs : List Value) : Prop where
  bel : Below w0.heap.size w0 w
  row : w.ownsRow w0.heap.size e k v n cs
theorem OwnL.start (w : World) (e : TypeId) (k : Nat) : OwnL w w e k (.slice none 0 0) 0 [] := ⟨w_refl w, World.ownsRow_nil _ _ _ _⟩
theorem OwnL.later {w0 w w1 : World} {e : TypeId} {k : Nat} {v : Value} {n : Nat} {cs : List Value} (h : OwnL w0 w e k v n cs) (b : Below w.heap.size w w1) : OwnL w0 w1 e k v n cs :=
  ⟨w_below h.bel b, own_keep h.row b (Nat.le_refl _)⟩
theorem OwnL.val {w0 w : World} {e : TypeId} {k : Nat} {v : Value} {n : Nat} {cs : List Value} (h : OwnL w0 w e k v n cs) : ∃ q c, v = .slice q n c := by
  rcases h.row.2 with ⟨rfl, rfl⟩ | ⟨g, c, _, rfl, _⟩
  · exact ⟨none, 0, rfl⟩
  · exact ⟨_, c, rfl⟩
theorem OwnL.app {w0 w wa w2 : World} {e : TypeId} {k : Nat} {v v' : Value} {n m : Nat} {cs news : List Value} (h : OwnL w0 w e k v n cs) (b : Below w.heap.size w wa)
    (hown : w2.ownsRow w0.heap.size e k v' m (cs ++ news)) (hg : wa.grownBy w2 v.ownBlock) : OwnL w0 w2 e k v' m (cs ++ news) :=
  ⟨(w_below h.bel b).grown hg (w_below h.bel b).size fun j e => (h.row.lt j e).1, hown⟩
/-- What lay below is as it was, behind an append. -/
theorem OwnL.far {w0 w wa w2 : World} {e : TypeId} {k : Nat} {v : Value} {n : Nat} {cs : List Value} (h : OwnL w0 w e k v n cs) (b : Below w.heap.size w wa) (hg : wa.grownBy w2 v.ownBlock) : Below w0.heap.size w0 w2 :=
  (w_below h.bel b).grown hg (w_below h.bel b).size fun j e => (h.row.lt j e).1
theorem lit_new (w : World) (cs : Array Value) (t : TypeId) : ∀ j u, cs.toList[j]? = some u → (w.alloc (.cells cs t)).cell? ((⟨w.heap.size, 0, none⟩ : Addr).add j) = some u := by
  intro j u hu
  have hb : (w.alloc (.cells cs t)).heap[w.heap.size]? = some (.cells cs t (0, 0)) := by show (w.heap.push _)[w.heap.size]? = _; simp
  exact World.news_of_block hb j u hu
theorem info_syl : (Tryd.prog.info? 25).map (fun i => (i.zero, i.size, i.bytes)) = some (some (.agg #[.int .i64 0, .int .i64 0]), 2, 16) := by kernel_rfl
theorem info_pitch : (Tryd.prog.info? 23).map (fun i => (i.zero, i.size, i.bytes)) = some (some (.agg #[.int .i64 0, .int .i64 0, .int .i64 0]), 3, 24) := by kernel_rfl
theorem info_int : (Tryd.prog.info? 3).map (fun i => (i.zero, i.size, i.bytes)) = some (some (.int .i64 0), 1, 8) := by kernel_rfl

end Go.Proofs.YtaldbjhalpgkeaaDoor
