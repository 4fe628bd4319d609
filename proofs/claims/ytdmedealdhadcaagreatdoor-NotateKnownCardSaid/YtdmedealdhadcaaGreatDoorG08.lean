/- Rows of words: what is asked of a text, and how lists of rows lie in memory. The reference's Rows: for every text. The reference's written and Text: for every list of rows. A word is the text of the sign that is read from it; what texts of signs are. Pieces that a cursor takes: marks. -/
import Derived.Test.YtdmedealdhadcaaGreatDoorG07
import Derived.Maps.AppendAt
import Derived.Test.YtdmedealdhadcaaGreatDoorG06

namespace Go.Proofs.YtdmedealdhadcaaGreatDoor
open Go.RowKit
structure Rw where
  at_ : Int
  words : List Wd
/-- A line from i to t, t excluded. -/
structure LineAt (s : ByteArray) (i t : Nat) : Prop where
  le : i ≤ t
  fits : t ≤ s.size
  inside : ∀ m, i ≤ m → m < t → bt s m ≠ 10
  ends : t = s.size ∨ bt s t = 10
theorem line_one {s : ByteArray} {i t t' : Nat} (h : LineAt s i t) (h' : LineAt s i t') : t = t' := by
  have l1 := h.le
  have l2 := h'.le
  have z1 := h.fits
  have z2 := h'.fits
  rcases Nat.lt_trichotomy t t' with x | x | x
  · rcases h.ends with y | y
    · omega
    · exact absurd y (h'.inside t l1 x)
  · exact x
  · rcases h'.ends with y | y
    · omega
    · exact absurd y (h.inside t' l2 x)
/-- From the beginning of a line on: the rows, and the first fault. -/
inductive RowsR (s : ByteArray) : Nat → List Rw → Option (Int × Int) → Prop
  | stop {i : Nat} (h : s.size < i) : RowsR s i [] none
  | long {i t : Nat} (h : LineAt s i t) (hl : 1000 < t - i) : RowsR s i [] (some (4, i))
  | bad {i t : Nat} {ws j} (h : LineAt s i t) (hl : t - i ≤ 1000) (c : Cuts (s.extract i t) i 0 ws (some j)) : RowsR s i [] (some (3, (i : Int) + j))
  | skip {i t : Nat} {rs b} (h : LineAt s i t) (hl : t - i ≤ 1000) (c : Cuts (s.extract i t) i 0 [] none) (r : RowsR s (t + 1) rs b) : RowsR s i rs b
  | row {i t : Nat} {ws rs b} (h : LineAt s i t) (hl : t - i ≤ 1000) (c : Cuts (s.extract i t) i 0 ws none) (hne : ws ≠ []) (r : RowsR s (t + 1) rs b) : RowsR s i (⟨i, ws⟩ :: rs) b
theorem RowsR.one {s : ByteArray} {i : Nat} {rs : List Rw} {b : Option (Int × Int)} (h : RowsR s i rs b) : ∀ {rs' b'}, RowsR s i rs' b' → rs = rs' ∧ b = b' := by
  induction h with
  | stop h =>
    intro rs' b' k
    cases k with
    | stop _ => exact ⟨rfl, rfl⟩
    | long h1 => have := h1.le; have := h1.fits; omega
    | bad h1 => have := h1.le; have := h1.fits; omega
    | skip h1 => have := h1.le; have := h1.fits; omega
    | row h1 => have := h1.le; have := h1.fits; omega
  | long h hl =>
    intro rs' b' k
    cases k with
    | stop h1 => have := h.le; have := h.fits; omega
    | long h1 _ => exact ⟨rfl, rfl⟩
    | bad h1 hl1 c => obtain rfl := line_one h h1; omega
    | skip h1 hl1 c r => obtain rfl := line_one h h1; omega
    | row h1 hl1 c r => obtain rfl := line_one h h1; omega
  | bad h hl c =>
    intro rs' b' k
    cases k with
    | stop h1 => have := h.le; have := h.fits; omega
    | long h1 hl1 => obtain rfl := line_one h h1; omega
    | bad h1 hl1 c1 =>
      obtain rfl := line_one h h1
      obtain ⟨_, e⟩ := c.one c1
      simp only [Option.some.injEq] at e
      subst e; exact ⟨rfl, rfl⟩
    | skip h1 hl1 c1 r => obtain rfl := line_one h h1; have := (c.one c1).2; cases this
    | row h1 hl1 c1 r => obtain rfl := line_one h h1; have := (c.one c1).2; cases this
  | skip h hl c r ih =>
    intro rs' b' k
    cases k with
    | stop h1 => have := h.le; have := h.fits; omega
    | long h1 hl1 => obtain rfl := line_one h h1; omega
    | bad h1 hl1 c1 => obtain rfl := line_one h h1; have := (c.one c1).2; cases this
    | skip h1 hl1 c1 r1 => obtain rfl := line_one h h1; exact ih r1
    | row h1 hl1 c1 hne r1 => obtain rfl := line_one h h1; exact absurd (c.one c1).1.symm hne
  | row h hl c hne r ih =>
    intro rs' b' k
    cases k with
    | stop h1 => have := h.le; have := h.fits; omega
    | long h1 hl1 => obtain rfl := line_one h h1; omega
    | bad h1 hl1 c1 => obtain rfl := line_one h h1; have := (c.one c1).2; cases this
    | skip h1 hl1 c1 r1 => obtain rfl := line_one h h1; exact absurd (c.one c1).1 hne
    | row h1 hl1 c1 hne1 r1 =>
      obtain rfl := line_one h h1
      obtain ⟨rfl, _⟩ := c.one c1
      obtain ⟨rfl, rfl⟩ := ih r1
      exact ⟨rfl, rfl⟩
/-- What a text's rows are, and which fault it has. -/
def RowsRes (s : ByteArray) (rs : List Rw) (b : Option (Int × Int)) : Prop :=
  (20000 < s.size ∧ rs = [] ∧ b = some (4, 20000)) ∨ (s.size ≤ 20000 ∧ ∃ rs', RowsR s 0 rs' b ∧ rs = if b = none then rs' else [])
theorem RowsRes.one {s : ByteArray} {rs rs' : List Rw} {b b' : Option (Int × Int)} (h : RowsRes s rs b) (h' : RowsRes s rs' b') : rs = rs' ∧ b = b' := by
  rcases h with ⟨x, rfl, rfl⟩ | ⟨x, r, hr, rfl⟩
  · rcases h' with ⟨_, rfl, rfl⟩ | ⟨y, _⟩
    · exact ⟨rfl, rfl⟩
    · omega
  · rcases h' with ⟨y, _⟩ | ⟨_, r', hr', rfl⟩
    · omega
    · obtain ⟨rfl, rfl⟩ := hr.one hr'
      exact ⟨rfl, rfl⟩
/-- A slice of words as a value. -/
def WordsV (w : World) (v : Value) (ws : List Wd) : Prop := ∃ p cap, v = .slice p ws.length cap ∧ SliceP w p cap ws.length 3 (flatW ws)
theorem WordsV.later {w w1 : World} {v : Value} {ws : List Wd} (h : WordsV w v ws) (k : Below w.heap.size w w1) : WordsV w1 v ws := by
  obtain ⟨p, cap, e, hs⟩ := h; exact ⟨p, cap, e, hs.later k⟩
theorem WordsV.grown {w w1 : World} {v : Value} {ws : List Wd} {row : Option Nat} (h : WordsV w v ws) (hg : w.grownBy w1 row) (hne : 0 < ws.length → v.ownBlock ≠ row) : WordsV w1 v ws := by
  obtain ⟨p, cap, rfl, hs⟩ := h
  refine ⟨p, cap, rfl, hs.fit, hs.max, hs.nil, hs.len, fun h0 => ?_⟩
  obtain ⟨b, off, rfl, hb, hc⟩ := hs.at_ h0
  have hk : w1.heap[b]? = w.heap[b]? := hg.block b hb (fun e => hne h0 e)
  exact ⟨b, off, rfl, Nat.lt_of_lt_of_le hb hg.size, fun j u hu => by rw [← hc j u hu]; exact World.cell?_of_block (w := w) (a := ⟨b, off + j, none⟩) hk⟩
theorem WordsV.block {w : World} {v : Value} {ws : List Wd} (h : WordsV w v ws) (h0 : 0 < ws.length) : ∃ b, v.ownBlock = some b ∧ b < w.heap.size := by
  obtain ⟨p, cap, rfl, hs⟩ := h
  obtain ⟨b, off, rfl, hb, _⟩ := hs.at_ h0
  exact ⟨b, rfl, hb⟩
def flatR : List (Int × Value) → List Value
  | [] => []
  | x :: t => .int .i64 x.1 :: x.2 :: flatR t
theorem flatR_len : ∀ l, (flatR l).length = l.length * 2
  | [] => rfl
  | x :: t => by have := flatR_len t; simp only [flatR, List.length_cons]; omega
theorem flatR_app : ∀ l m, flatR (l ++ m) = flatR l ++ flatR m
  | [], _ => rfl
  | x :: t, m => by show flatR (x :: (t ++ m)) = _; simp [flatR, flatR_app t m]
/-- The rows' words lie where the rows say, none of them in block o. -/
def AllR (w : World) (o : Option Nat) : List (Int × Value) → List Rw → Prop
  | [], [] => True
  | x :: xs, r :: rs => (x.1 = r.at_ ∧ WordsV w x.2 r.words ∧ (0 < r.words.length → x.2.ownBlock ≠ o)) ∧ AllR w o xs rs
  | _, _ => False
theorem AllR.mono {w w1 : World} {o o' : Option Nat} (hp : ∀ v ws, WordsV w v ws → (0 < ws.length → v.ownBlock ≠ o) → WordsV w1 v ws ∧ (0 < ws.length → v.ownBlock ≠ o')) :
    ∀ {vs rs}, AllR w o vs rs → AllR w1 o' vs rs
  | [], [], _ => trivial
  | x :: xs, r :: rs, h => by
    obtain ⟨⟨h1, h2, h3⟩, h4⟩ := h
    obtain ⟨k1, k2⟩ := hp _ _ h2 h3
    exact ⟨⟨h1, k1, k2⟩, AllR.mono hp h4⟩
  | [], _ :: _, h => h.elim
  | _ :: _, [], h => h.elim
theorem AllR.later {w w1 : World} {o : Option Nat} {vs rs} (h : AllR w o vs rs) (k : Below w.heap.size w w1) : AllR w1 o vs rs := h.mono fun _ _ a b => ⟨a.later k, b⟩
theorem AllR.grown {w w1 : World} {o : Option Nat} {vs rs} (h : AllR w o vs rs) (k : w.grownBy w1 o) : AllR w1 o vs rs := h.mono fun _ _ a b => ⟨a.grown k b, b⟩
theorem AllR.fresh {w : World} {o : Option Nat} {n : Nat} {vs rs} (h : AllR w o vs rs) (hn : w.heap.size ≤ n) : AllR w (some n) vs rs :=
  h.mono fun _ _ a _ => ⟨a, fun h0 e => by
    obtain ⟨b, e1, e2⟩ := a.block h0
    rw [e1] at e
    simp only [Option.some.injEq] at e
    omega⟩
theorem AllR.len {w : World} {o : Option Nat} : ∀ {vs rs}, AllR w o vs rs → vs.length = rs.length
  | [], [], _ => rfl
  | x :: xs, r :: rs, h => by have := AllR.len h.2; simp [this]
  | [], _ :: _, h => h.elim
  | _ :: _, [], h => h.elim
theorem AllR.app {w : World} {o : Option Nat} {x : Int × Value} {r : Rw} (hx : x.1 = r.at_ ∧ WordsV w x.2 r.words ∧ (0 < r.words.length → x.2.ownBlock ≠ o)) :
    ∀ {vs rs}, AllR w o vs rs → AllR w o (vs ++ [x]) (rs ++ [r])
  | [], [], _ => ⟨hx, trivial⟩
  | _ :: _, _ :: _, h => ⟨h.1, AllR.app hx h.2⟩
  | [], _ :: _, h => h.elim
  | _ :: _, [], h => h.elim
/-- A list of rows that the call owns. -/
def RowsI (w : World) (base : Nat) (v : Value) (rs : List Rw) : Prop := ∃ vs, w.ownsRow base 62 2 v rs.length (flatR vs) ∧ AllR w v.ownBlock vs rs
theorem rowsI_nil (w : World) (base : Nat) : RowsI w base (.slice none 0 0) [] := ⟨[], World.ownsRow_nil _ _ _ _, trivial⟩
theorem RowsI.later {w w1 : World} {base : Nat} {v : Value} {rs : List Rw} (h : RowsI w base v rs) (k : Below w.heap.size w w1) : RowsI w1 base v rs := by
  obtain ⟨vs, ho, ha⟩ := h; exact ⟨vs, w_own ho k (Nat.le_refl _), ha.later k⟩
theorem RowsI.more {w2 w3 : World} {base : Nat} {v v' vw : Value} {vs : List (Int × Value)} {rs : List Rw} {a : Int} {ws : List Wd} (hall : AllR w2 v.ownBlock vs rs)
    (hw : WordsV w2 vw ws) (hne : 0 < ws.length → vw.ownBlock ≠ v.ownBlock) (hown : w3.ownsRow base 62 2 v' (rs.length + 1) (flatR vs ++ flatR [(a, vw)]))
    (hg : w2.grownBy w3 v.ownBlock) (hat : v'.ownBlock = v.ownBlock ∨ v'.ownBlock = some w2.heap.size) : RowsI w3 base v' (rs ++ [⟨a, ws⟩]) := by
  refine ⟨vs ++ [(a, vw)], by rw [flatR_app, List.length_append]; exact hown, ?_⟩
  have h2 : AllR w2 v.ownBlock (vs ++ [(a, vw)]) (rs ++ [⟨a, ws⟩]) := hall.app ⟨rfl, hw, hne⟩
  have h3 := h2.grown hg
  rcases hat with e | e
  · rw [e]; exact h3
  · rw [e]
    exact (AllR.mono (w := w2) (o := v.ownBlock) (o' := some w2.heap.size) (w1 := w3) (fun vv ww x y => ⟨x.grown hg y, fun h0 e => by
      obtain ⟨b, e1, e2⟩ := x.block h0
      rw [e1] at e
      simp only [Option.some.injEq] at e
      omega⟩) h2)
/-- A list of rows as a value, to be read. -/
def RowsV (w : World) (v : Value) (rs : List Rw) : Prop := ∃ p cap vs o, v = .slice p rs.length cap ∧ SliceP w p cap rs.length 2 (flatR vs) ∧ AllR w o vs rs
theorem RowsV.later {w w1 : World} {v : Value} {rs : List Rw} (h : RowsV w v rs) (k : Below w.heap.size w w1) : RowsV w1 v rs := by
  obtain ⟨p, cap, vs, o, e, hs, ha⟩ := h; exact ⟨p, cap, vs, o, e, hs.later k, ha.later k⟩
theorem RowsI.val {w : World} {base : Nat} {v : Value} {rs : List Rw} (h : RowsI w base v rs) : RowsV w v rs := by
  obtain ⟨vs, ho, ha⟩ := h
  obtain ⟨p, cap, e, hs⟩ := slice_of_own ho
  exact ⟨p, cap, vs, _, e, hs, ha⟩
/-- Every cell reads as it did. -/
structure Keeps (w w1 : World) : Prop where
  size : w.heap.size ≤ w1.heap.size
  cell : ∀ a v, w.cell? a = some v → w1.cell? a = some v
theorem SliceP.keeps {w w1 : World} {p : Option Addr} {cap n size : Nat} {xs : List Value} (h : SliceP w p cap n size xs) (k : Keeps w w1) : SliceP w1 p cap n size xs :=
  ⟨h.fit, h.max, h.nil, h.len, fun h0 => by
    obtain ⟨b, off, e, hb, hc⟩ := h.at_ h0
    exact ⟨b, off, e, Nat.lt_of_lt_of_le hb k.size, fun j u hu => k.cell _ _ (hc j u hu)⟩⟩
theorem WordsV.keeps {w w1 : World} {v : Value} {ws : List Wd} (h : WordsV w v ws) (k : Keeps w w1) : WordsV w1 v ws := by
  obtain ⟨p, cap, e, hs⟩ := h; exact ⟨p, cap, e, hs.keeps k⟩
theorem RowsV.keeps {w w1 : World} {v : Value} {rs : List Rw} (h : RowsV w v rs) (k : Keeps w w1) : RowsV w1 v rs := by
  obtain ⟨p, cap, vs, o, e, hs, ha⟩ := h; exact ⟨p, cap, vs, o, e, hs.keeps k, ha.mono fun _ _ a b => ⟨a.keeps k, b⟩⟩
end Go.Proofs.YtdmedealdhadcaaGreatDoor

namespace Go.Proofs.YtdmedealdhadcaaGreatDoor
open Go.RowKit
def fE : Option (Int × Int) → Int
  | none => 0
  | some x => x.1
def fA : Option (Int × Int) → Int
  | none => 0
  | some x => x.2
/-- What Rows hands back. -/
def RowsPost (s : ByteArray) (w : World) (e : Ending) (w' : World) : Prop :=
  ∃ rs b v, RowsRes s rs b ∧ Below w.heap.size w w' ∧ e = .returned (.tuple #[v, .agg #[.int .i64 (fE b), .int .i64 (fA b)]]) ∧ RowsV w' v rs
structure RowsInv (s : ByteArray) (w wr : World) (i : Nat) (acc : List Rw) (v : Value) : Prop where
  rows : RowsI wr (w.heap.size + 1) v acc
  bel : Below (w.heap.size + 1) (w.alloc (.cells #[.int .i64 0, .int .i64 0] 43)) wr
  ok : ∀ rs b, RowsR s i rs b → RowsR s 0 (acc ++ rs) b
theorem rowsV_nil (w : World) : RowsV w (.slice none 0 0) [] := (rowsI_nil w 0).val
/-- Two cells of the call's own: the fault. -/
structure Cell2 (w : World) (b : Nat) (n d : Int) : Prop where
  inb : b < w.heap.size
  c0 : w.cell? ⟨b, 0, none⟩ = some (.int .i64 n)
  c1 : w.cell? ⟨b, 1, none⟩ = some (.int .i64 d)
  f0 : w.frozen? ⟨b, 0, none⟩ = false
  f1 : w.frozen? ⟨b, 1, none⟩ = false
theorem Cell2.made (w : World) (n d : Int) (t : TypeId) : Cell2 (w.alloc (.cells #[.int .i64 n, .int .i64 d] t)) w.heap.size n d := ⟨by simp, by go_simp, by go_simp, by go_simp, by go_simp⟩
theorem Cell2.below {w w1 : World} {b B : Nat} {n d : Int} (h : Cell2 w b n d) (k : Below B w w1) (hB : b < B) : Cell2 w1 b n d :=
  ⟨Nat.lt_of_lt_of_le h.inb k.size, by rw [← h.c0]; exact k.cell (p := ⟨b, 0, none⟩) hB, by rw [← h.c1]; exact k.cell (p := ⟨b, 1, none⟩) hB, by rw [← h.f0]; exact k.frozen (p := ⟨b, 0, none⟩) hB, by rw [← h.f1]; exact k.frozen (p := ⟨b, 1, none⟩) hB⟩
theorem Cell2.keeps {w : World} {b : Nat} {n d : Int} (h : Cell2 w b n d) : Keeps w ((w.setCell ⟨b, 0, none⟩ (.int .i64 n)).setCell ⟨b, 1, none⟩ (.int .i64 d)) := by
  have one : ∀ (x : World) (p a : Addr) (u v : Value), x.cell? p = some u → x.cell? a = some v → (x.setCell p u).cell? a = some v := fun x p a u v h1 h2 => by
    by_cases e : a = p
    · subst e
      rw [h1] at h2; cases h2
      exact World.cell?_setCell_same _ _ _ h1
    · rw [World.cell?_setCell_other _ _ _ _ (fun x => e x.symm)]; exact h2
  refine ⟨by simp, fun a v ha => ?_⟩
  exact one _ _ _ _ _ (one _ _ _ _ _ h.c0 h.c1) (one _ _ _ _ _ h.c0 ha)
theorem RowsInv.fault {s : ByteArray} {w wr : World} {i : Nat} {acc : List Rw} {v : Value} (h : RowsInv s w wr i acc v) : Cell2 wr w.heap.size 0 0 := (Cell2.made w 0 0 43).below h.bel (by omega)
theorem RowsInv.all {s : ByteArray} {w wr : World} {i : Nat} {acc : List Rw} {v : Value} (h : RowsInv s w wr i acc v) : Below w.heap.size w wr :=
  (w_alloc (w_refl w) _).trans (h.bel.mono (by omega))
/-- A fault at the end. -/
theorem RowsInv.bad {s : ByteArray} {w wr w2 : World} {i : Nat} {acc : List Rw} {v : Value} {x : Int × Int} (h : RowsInv s w wr i acc v) (hs : s.size ≤ 20000) (hr : RowsR s i [] (some x)) (hb : Below w.heap.size w w2) :
    RowsPost s w (.returned (.tuple #[.slice none 0 0, .agg #[.int .i64 x.1, .int .i64 x.2]])) w2 :=
  ⟨[], some x, _, .inr ⟨hs, acc ++ [], h.ok [] (some x) hr, rfl⟩, hb, rfl, rowsV_nil w2⟩
theorem RowsInv.done {s : ByteArray} {w wr w2 : World} {i : Nat} {acc : List Rw} {v : Value} (h : RowsInv s w wr i acc v) (hs : s.size ≤ 20000) (hi : s.size < i) (hb : Below w.heap.size w w2) (hv : RowsV w2 v acc) :
    RowsPost s w (.returned (.tuple #[v, .agg #[.int .i64 0, .int .i64 0]])) w2 :=
  ⟨acc, none, _, .inr ⟨hs, acc ++ [], h.ok [] none (.stop hi), by simp⟩, hb, rfl, hv⟩
theorem RowsInv.skip {s : ByteArray} {w wr w1 : World} {i t : Nat} {acc : List Rw} {v : Value} (h : RowsInv s w wr i acc v) (hl : LineAt s i t) (hs : t - i ≤ 1000) (hc : Cuts (s.extract i t) i 0 [] none) (hb : Below wr.heap.size wr w1) :
    RowsInv s w w1 (t + 1) acc v :=
  ⟨h.rows.later hb, h.bel.trans (hb.mono (by have := h.bel.size; simp at this; omega)), fun rs b r => h.ok rs b (.skip hl hs hc r)⟩
theorem new_row (w : World) (a : Int) (v : Value) (ty : TypeId) : ∀ j u, (flatR [(a, v)])[j]? = some u → (w.alloc (.cells #[.int .i64 a, v] ty)).cell? ((⟨w.heap.size, 0, none⟩ : Addr).add j) = some u := by
  intro j u hu
  rw [w_addr]
  match j, hu with
  | 0, hu => simp [flatR] at hu; subst hu; simp [go_sem]
  | 1, hu => simp [flatR] at hu; subst hu; simp [go_sem]
  | j + 2, hu => simp [flatR] at hu
theorem row_one (a : Int) (p : Option Addr) (n c : Nat) : ∀ u ∈ flatR [(a, .slice p n c)], u.oneCell' = true := by
  intro u hu
  simp only [flatR, List.mem_cons, List.not_mem_nil, or_false] at hu
  rcases hu with rfl | rfl
  · rfl
  · rfl
end Go.Proofs.YtdmedealdhadcaaGreatDoor

namespace Go.Proofs.YtdmedealdhadcaaGreatDoor
open Go.RowKit
/-- Can a word be written? -/
def okW (x : Wd) : Bool := if x.quoted = true then x.text.data.toList.all (fun c => insideI c.toNat) else (x.text.data.toList.all (fun c => plainI c.toNat) && decide (0 < x.text.size))
def writtenB (x : Wd) : ByteArray := if x.quoted = true then (⟨#[34]⟩ : ByteArray) ++ x.text ++ ⟨#[34]⟩ else x.text
def wv (x : Wd) : Value := .agg #[.int .i64 x.at_, .string x.text, .bool x.quoted]
end Go.Proofs.YtdmedealdhadcaaGreatDoor

namespace Go.Proofs.YtdmedealdhadcaaGreatDoor
open Go.RowKit
theorem rdTk_some {m : UInt8} {x y : Cu} (h : rdTk m x = some y) : x.1 = m :: y.1 ∧ y.2 = x.2 := by
  simp only [rdTk, Option.map_eq_some_iff] at h
  obtain ⟨t, ht, rfl⟩ := h
  exact ⟨tk_some ht, rfl⟩
theorem rdVal_some {x y : Cu} (h : rdVal x = some y) : ∃ c, x.1 = c :: y.1 ∧ valC c ≠ 0 ∧ y.2 = { x.2 with val := valC c } := by
  unfold rdVal at h
  split at h
  · rename_i c t e
    split at h
    · cases h
    · rename_i h0
      simp only [Option.some.injEq] at h
      subst h
      exact ⟨c, e, h0, rfl⟩
  · cases h
theorem rdPlc_some {x y : Cu} (h : rdPlc x = some y) : ∃ n, signO (plcT x.1) = (n, true) ∧ x.1 = plcT x.1 ++ y.1 ∧ y.2 = { x.2 with place := n } := by
  unfold rdPlc at h
  split at h
  · rename_i e
    simp only [Option.some.injEq] at h
    subst h
    exact ⟨(signO (plcT x.1)).1, Prod.ext rfl e, plc_split _, rfl⟩
  · cases h
theorem rdAcc_some {x y : Cu} (h : rdAcc x = some y) : ∃ v, x.1 = accL v ++ y.1 ∧ y.2 = { x.2 with acc := v } := by
  unfold rdAcc at h
  simp only [Option.some.injEq] at h
  subst h
  exact ⟨_, acc_split _, rfl⟩
theorem rdCol_some {x y : Cu} (h : rdCol x = some y) : ∃ v, x.1 = mkL v 42 ++ y.1 ∧ y.2 = { x.2 with col := v } := by
  unfold rdCol at h
  simp only [Option.some.injEq] at h
  subst h
  exact ⟨_, opt_split _ _, rfl⟩
theorem rdStem_some {x y : Cu} (h : rdStem x = some y) : ∃ v, x.1 = stemL v ++ y.1 ∧ y.2 = { x.2 with stem := v } := by
  unfold rdStem at h
  simp only [Option.some.injEq] at h
  subst h
  exact ⟨_, stem_split _, rfl⟩
theorem rdObl_some {x y : Cu} (h : rdObl x = some y) : ∃ v, x.1 = mkL v 126 ++ y.1 ∧ y.2 = { x.2 with obl := v } := by
  unfold rdObl at h
  simp only [Option.some.injEq] at h
  subst h
  exact ⟨_, opt_split _ _, rfl⟩
theorem rdLast_some {x y : Cu} (h : rdLast x = some y) : ∃ v, x.1 = mkL v 33 ++ y.1 ∧ y.2 = { x.2 with last := v } := by
  unfold rdLast at h
  simp only [Option.some.injEq] at h
  subst h
  exact ⟨_, opt_split _ _, rfl⟩
theorem rdStk_some {x y : Cu} (h : rdStk x = some y) : ∃ v, x.1 = mkL v 124 ++ y.1 ∧ y.2 = { x.2 with stk := v } := by
  unfold rdStk at h
  simp only [Option.some.injEq] at h
  subst h
  exact ⟨_, opt_split _ _, rfl⟩
theorem rdN_some {x y : Cu} (h : rdN x = some y) : ∃ n ds, numberV ds = some n ∧ x.1 = ds ++ y.1 ∧ y.2 = { x.2 with n := n } := by
  simp only [rdN, Option.map_eq_some_iff] at h
  obtain ⟨n, hn, rfl⟩ := h
  exact ⟨n, _, hn, num_split _, rfl⟩
theorem rdStep_some {x y : Cu} (h : rdStep x = some y) : ∃ v, x.1 = clfL v ++ y.1 ∧ y.2 = { x.2 with c0 := v } := by
  unfold rdStep at h
  split at h
  · rename_i t ht
    simp only [Option.some.injEq] at h
    subst h
    exact ⟨0, tk_some ht, rfl⟩
  · split at h
    · rename_i t ht
      simp only [Option.some.injEq] at h
      subst h
      exact ⟨3, tk_some ht, rfl⟩
    · split at h
      · rename_i t ht
        simp only [Option.some.injEq] at h
        subst h
        exact ⟨4, tk_some ht, rfl⟩
      · cases h
theorem rdMens_some {x y : Cu} (h : rdMens x = some y) : ∃ t, parE (bytes t) = 0 ∧ x.1 = 40 :: (t ++ 41 :: y.1) ∧ y.2 = putM (parQ (bytes t)) x.2 := by
  simp only [rdMens, Option.bind_eq_some_iff] at h
  obtain ⟨t, ht, r, hr, h⟩ := h
  split at h
  · rename_i he
    simp only [Option.some.injEq] at h
    subst h
    exact ⟨_, he, (tk_some ht).trans (congrArg (40 :: ·) (upto_split 41 t hr)), rfl⟩
  · cases h
theorem word_kind {s : Sg} {k : Nat} (h : s.kind = (k : Int)) : wordT s = wordK k s := by unfold wordT; rw [h]; simp
/-! ### What texts of signs are -/
def plainB (c : UInt8) : Bool := plainI c.toNat
theorem itoa_plain : ∀ n ∈ List.range 101, (Lib.itoa ((n : Nat) : Int)).all plainB = true ∧ Lib.itoa ((n : Nat) : Int) ≠ [] ∧ (Lib.itoa ((n : Nat) : Int)).length ≤ 3 := by decide +kernel
theorem itoa_pl {n : Int} (h0 : 0 ≤ n) (h1 : n ≤ 100) : (Lib.itoa n).all plainB = true ∧ Lib.itoa n ≠ [] ∧ (Lib.itoa n).length ≤ 3 := by
  obtain ⟨m, rfl⟩ : ∃ m : Nat, n = m := ⟨n.toNat, by omega⟩
  exact itoa_plain m (List.mem_range.2 (by omega))
theorem plc_plain {n : Int} (h0 : -4 ≤ n) (h1 : n ≤ 12) : (Lib.itoa n).all plainB = true ∧ Lib.itoa n ≠ [] ∧ (Lib.itoa n).length ≤ 2 := by
  have c : n = -4 ∨ n = -3 ∨ n = -2 ∨ n = -1 ∨ n = 0 ∨ n = 1 ∨ n = 2 ∨ n = 3 ∨ n = 4 ∨ n = 5 ∨ n = 6 ∨ n = 7 ∨ n = 8 ∨ n = 9 ∨ n = 10 ∨ n = 11 ∨ n = 12 := by omega
  rcases c with rfl | rfl | rfl | rfl | rfl | rfl | rfl | rfl | rfl | rfl | rfl | rfl | rfl | rfl | rfl | rfl | rfl <;> decide +kernel
theorem let_plain {v : Int} (h : 1 ≤ v ∧ v ≤ 8) : (letV v).all plainB = true ∧ letV v ≠ [] ∧ (letV v).length ≤ 1 := by
  obtain ⟨h1, h2⟩ := h
  have c : v = 1 ∨ v = 2 ∨ v = 3 ∨ v = 4 ∨ v = 5 ∨ v = 6 ∨ v = 7 ∨ v = 8 := by omega
  rcases c with rfl | rfl | rfl | rfl | rfl | rfl | rfl | rfl <;> decide
theorem acc_plain (a : Int) : (accL a).all plainB = true ∧ (accL a).length ≤ 1 := by
  unfold accL; split
  · decide
  · split
    · decide
    · split <;> decide
theorem stem_plain (a : Int) : (stemL a).all plainB = true ∧ (stemL a).length ≤ 1 := by
  unfold stemL; split
  · decide
  · split
    · decide
    · split <;> decide
theorem clf_plain (a : Int) : (clfL a).all plainB = true ∧ (clfL a).length ≤ 1 := by
  unfold clfL; split
  · decide
  · split
    · decide
    · split <;> decide
theorem mk_plain (b : Bool) (c : UInt8) (h : plainB c = true) : (mkL b c).all plainB = true ∧ (mkL b c).length ≤ 1 := by
  cases b
  · exact ⟨rfl, Nat.zero_le _⟩
  · exact ⟨by simp [mkL, h], by simp [mkL]⟩
theorem tex_plain : ∀ n ∈ List.range 16, (texL (ofN ((n : Nat) : Int))).all plainB = true ∧ (texL (ofN ((n : Nat) : Int))).length ≤ 4 := by decide +kernel
/-- The text of a valid sign is one plain word, of at most nine bytes. -/
theorem word_plain {s : Sg} (h : oneE s = 0) : (wordT s).all plainB = true ∧ wordT s ≠ [] ∧ (wordT s).length ≤ 9 := by
  obtain ⟨hk, _, hm, hr, _⟩ := one_zero h
  obtain ⟨k, k1, k2, ek⟩ := kind_nat hk
  rw [word_kind ek]
  have c : k = 1 ∨ k = 2 ∨ k = 3 ∨ k = 4 ∨ k = 5 ∨ k = 6 ∨ k = 7 ∨ k = 8 ∨ k = 9 ∨ k = 10 ∨ k = 11 ∨ k = 12 := by omega
  rcases c with rfl | rfl | rfl | rfl | rfl | rfl | rfl | rfl | rfl | rfl | rfl | rfl
  · obtain ⟨hv, hp, _⟩ := rng1 ek hr
    have a1 := let_plain hv
    have a2 := plc_plain hp.1 hp.2
    have a3 := acc_plain s.acc
    have a4 := mk_plain s.col 42 (by decide)
    refine ⟨by simp [wordK, headL, a1.1, a2.1, a3.1, a4.1], by simp [wordK, a1.2.1], ?_⟩
    simp only [wordK, headL, List.length_append]; omega
  · have a1 := let_plain (rng2 ek hr)
    refine ⟨by simp only [wordK, List.all_cons, a1.1]; decide, by simp [wordK], ?_⟩
    simp only [wordK, List.length_cons]; omega
  · show ([46] : List UInt8).all plainB = true ∧ ([46] : List UInt8) ≠ [] ∧ ([46] : List UInt8).length ≤ 9
    decide +kernel
  · obtain ⟨⟨hp, _⟩, _⟩ := rng4 ek hr
    have a2 := plc_plain hp.1 hp.2
    have a3 := acc_plain s.acc
    have a4 := mk_plain s.col 42 (by decide)
    have a5 := stem_plain s.stem
    have a6 := mk_plain s.obl 126 (by decide)
    have a7 := mk_plain s.last 33 (by decide)
    refine ⟨by simp only [wordK, headL, List.all_cons, List.all_append, a2.1, a3.1, a4.1, a5.1, a6.1, a7.1]; decide, by simp [wordK], ?_⟩
    simp only [wordK, headL, List.length_append, List.length_cons]; omega
  · obtain ⟨n, hn, e⟩ := okM_of (hm ek)
    have a1 := tex_plain n (List.mem_range.2 hn)
    rw [← e] at a1
    have a2 := mk_plain s.stk 124 (by decide)
    refine ⟨by simp only [wordK, List.all_cons, List.all_append, a1.1, a2.1]; decide, by simp [wordK], ?_⟩
    simp only [wordK, List.length_append, List.length_cons, List.length_nil]; omega
  · obtain ⟨hn, hd⟩ := rng6 ek hr
    have a1 := itoa_pl (n := s.n) (by omega) hn.2
    have a2 := itoa_pl (n := s.d) (by omega) hd.2
    refine ⟨by simp only [wordK, List.all_append, a1.1, a2.1]; decide, by simp [wordK], ?_⟩
    simp only [wordK, List.length_append, List.length_cons, List.length_nil]; omega
  · obtain ⟨_, hl⟩ := rng7 ek hr
    have a1 := clf_plain s.c0
    have a2 := itoa_pl (n := s.c1) (by omega) (by omega)
    refine ⟨by simp only [wordK, List.all_cons, List.all_append, a1.1, a2.1]; decide, by simp [wordK], ?_⟩
    simp only [wordK, List.length_append, List.length_cons]; omega
  · have hn := rng8 ek hr
    have a1 := itoa_pl (n := s.n) (by omega) (by omega)
    refine ⟨by simp only [wordK, List.all_cons, a1.1]; decide, by simp [wordK], ?_⟩
    simp only [wordK, List.length_cons]; omega
  · show ([91] : List UInt8).all plainB = true ∧ ([91] : List UInt8) ≠ [] ∧ ([91] : List UInt8).length ≤ 9
    decide +kernel
  · have hn := rng10 ek hr
    have a1 := itoa_pl (n := s.n) (by omega) (by omega)
    refine ⟨by simp only [wordK, List.all_cons, a1.1]; decide, by simp [wordK], ?_⟩
    simp only [wordK, List.length_cons]; omega
  · show (turnL : List UInt8).all plainB = true ∧ (turnL : List UInt8) ≠ [] ∧ (turnL : List UInt8).length ≤ 9
    decide +kernel
  · show (sigL : List UInt8).all plainB = true ∧ (sigL : List UInt8) ≠ [] ∧ (sigL : List UInt8).length ≤ 9
    decide +kernel
theorem word_wd {s : Sg} (h : oneE s = 0) (a : Int) : okW ⟨a, bytes (wordT s), false⟩ = true := by
  obtain ⟨h1, h2, _⟩ := word_plain h
  show ((bytes (wordT s)).data.toList.all (fun c => plainI c.toNat) && decide (0 < (bytes (wordT s)).size)) = true
  have e : (bytes (wordT s)).data.toList = wordT s := by simp [bytes]
  have z : (bytes (wordT s)).size = (wordT s).length := by show (wordT s).toArray.size = _; simp
  rw [e, z, Bool.and_eq_true]
  exact ⟨h1, decide_eq_true (List.length_pos_iff.2 h2)⟩
end Go.Proofs.YtdmedealdhadcaaGreatDoor

namespace Go.Proofs.YtdmedealdhadcaaGreatDoor
open Go.RowKit
/-- A method of a cursor takes a piece. -/
def Pc (f : FuncId) (F : Cu → Option Cu) : Prop := ∀ (W : World) (b : Nat) (x : Cu), x.1.length ≤ 1000000 → CuX W b x → Calls Tryz.prog f #[.pointer (some ⟨b, 0, none⟩)] W
  fun e W' => Mv b W W' ∧ (∀ y, F x = some y → e = .returned (.bool true) ∧ CuX W' b y) ∧ (F x = none → e = .returned (.bool false))
theorem opt_yes {m : UInt8} {l t : List UInt8} (h : tk m l = some t) : opt m l = (true, t) := by unfold opt; rw [h]
theorem opt_no {m : UInt8} {l : List UInt8} (h : tk m l = none) : opt m l = (false, l) := by unfold opt; rw [h]
set_option maxRecDepth 100000 in
set_option maxHeartbeats 2000000 in
theorem pcol_any : Pc 123 rdCol := by
  intro W b x _ h
  obtain ⟨l, s⟩ := x
  have HX := Lib.hid h
  clear h
  cases e : tk 42 l with
  | some t =>
    have T := Lib.hid (take_yes (x := (l, s)) e b W HX.out)
    have fin := Lib.hid (show rdCol (l, s) = some (t, { s with col := true }) by unfold rdCol; rw [opt_yes e])
    clear e HX
    go_enter Tryz.func123, Tryz.ntmps123
    go_wp2_with fail
    refine T.out.mono ?_
    rintro e w1 ⟨rfl, hc, hm⟩
    have HX := Lib.hid hc
    have HM := Lib.hid hm
    unfold CuX at HX
    clear hc hm T
    go_wp2_with (first | (refine wl_cell 4 b 5 123 _ (.bool true) (by kernel_rfl) (by kernel_rfl) HX.out (show 5 < 18 by decide) sz_bool rfl rfl ?_) | fail)
    intro W2 h2 h3
    have H2 := Lib.hid h2
    have H3 := Lib.hid (HM.out.trans h3)
    clear h2 h3 HX HM
    go_wp2_with fail
    go_ret
    refine ⟨H3.out, fun y hy => ?_, fun hn => ?_⟩
    · obtain rfl := Option.some.inj (hy.symm.trans fin.out)
      exact ⟨rfl, H2.out⟩
    · rw [fin.out] at hn; cases hn
  | none =>
    have T := Lib.hid (take_no (x := (l, s)) e b W HX.out)
    have fin := Lib.hid (show rdCol (l, s) = some (l, { s with col := false }) by unfold rdCol; rw [opt_no e])
    clear e HX
    go_enter Tryz.func123, Tryz.ntmps123
    go_wp2_with fail
    refine T.out.mono ?_
    rintro e w1 ⟨rfl, hc, hm⟩
    have HX := Lib.hid hc
    have HM := Lib.hid hm
    unfold CuX at HX
    clear hc hm T
    go_wp2_with (first | (refine wl_cell 4 b 5 123 _ (.bool false) (by kernel_rfl) (by kernel_rfl) HX.out (show 5 < 18 by decide) sz_bool rfl rfl ?_) | fail)
    intro W2 h2 h3
    have H2 := Lib.hid h2
    have H3 := Lib.hid (HM.out.trans h3)
    clear h2 h3 HX HM
    go_wp2_with fail
    go_ret
    refine ⟨H3.out, fun y hy => ?_, fun hn => ?_⟩
    · obtain rfl := Option.some.inj (hy.symm.trans fin.out)
      exact ⟨rfl, H2.out⟩
    · rw [fin.out] at hn; cases hn
set_option maxRecDepth 100000 in
set_option maxHeartbeats 2000000 in
theorem pobl_any : Pc 130 rdObl := by
  intro W b x _ h
  obtain ⟨l, s⟩ := x
  have HX := Lib.hid h
  clear h
  cases e : tk 126 l with
  | some t =>
    have T := Lib.hid (take_yes (x := (l, s)) e b W HX.out)
    have fin := Lib.hid (show rdObl (l, s) = some (t, { s with obl := true }) by unfold rdObl; rw [opt_yes e])
    clear e HX
    go_enter Tryz.func130, Tryz.ntmps130
    go_wp2_with fail
    refine T.out.mono ?_
    rintro e w1 ⟨rfl, hc, hm⟩
    have HX := Lib.hid hc
    have HM := Lib.hid hm
    unfold CuX at HX
    clear hc hm T
    go_wp2_with (first | (refine wl_cell 4 b 7 123 _ (.bool true) (by kernel_rfl) (by kernel_rfl) HX.out (show 7 < 18 by decide) sz_bool rfl rfl ?_) | fail)
    intro W2 h2 h3
    have H2 := Lib.hid h2
    have H3 := Lib.hid (HM.out.trans h3)
    clear h2 h3 HX HM
    go_wp2_with fail
    go_ret
    refine ⟨H3.out, fun y hy => ?_, fun hn => ?_⟩
    · obtain rfl := Option.some.inj (hy.symm.trans fin.out)
      exact ⟨rfl, H2.out⟩
    · rw [fin.out] at hn; cases hn
  | none =>
    have T := Lib.hid (take_no (x := (l, s)) e b W HX.out)
    have fin := Lib.hid (show rdObl (l, s) = some (l, { s with obl := false }) by unfold rdObl; rw [opt_no e])
    clear e HX
    go_enter Tryz.func130, Tryz.ntmps130
    go_wp2_with fail
    refine T.out.mono ?_
    rintro e w1 ⟨rfl, hc, hm⟩
    have HX := Lib.hid hc
    have HM := Lib.hid hm
    unfold CuX at HX
    clear hc hm T
    go_wp2_with (first | (refine wl_cell 4 b 7 123 _ (.bool false) (by kernel_rfl) (by kernel_rfl) HX.out (show 7 < 18 by decide) sz_bool rfl rfl ?_) | fail)
    intro W2 h2 h3
    have H2 := Lib.hid h2
    have H3 := Lib.hid (HM.out.trans h3)
    clear h2 h3 HX HM
    go_wp2_with fail
    go_ret
    refine ⟨H3.out, fun y hy => ?_, fun hn => ?_⟩
    · obtain rfl := Option.some.inj (hy.symm.trans fin.out)
      exact ⟨rfl, H2.out⟩
    · rw [fin.out] at hn; cases hn
set_option maxRecDepth 100000 in
set_option maxHeartbeats 2000000 in
theorem plast_any : Pc 131 rdLast := by
  intro W b x _ h
  obtain ⟨l, s⟩ := x
  have HX := Lib.hid h
  clear h
  cases e : tk 33 l with
  | some t =>
    have T := Lib.hid (take_yes (x := (l, s)) e b W HX.out)
    have fin := Lib.hid (show rdLast (l, s) = some (t, { s with last := true }) by unfold rdLast; rw [opt_yes e])
    clear e HX
    go_enter Tryz.func131, Tryz.ntmps131
    go_wp2_with fail
    refine T.out.mono ?_
    rintro e w1 ⟨rfl, hc, hm⟩
    have HX := Lib.hid hc
    have HM := Lib.hid hm
    unfold CuX at HX
    clear hc hm T
    go_wp2_with (first | (refine wl_cell 4 b 8 123 _ (.bool true) (by kernel_rfl) (by kernel_rfl) HX.out (show 8 < 18 by decide) sz_bool rfl rfl ?_) | fail)
    intro W2 h2 h3
    have H2 := Lib.hid h2
    have H3 := Lib.hid (HM.out.trans h3)
    clear h2 h3 HX HM
    go_wp2_with fail
    go_ret
    refine ⟨H3.out, fun y hy => ?_, fun hn => ?_⟩
    · obtain rfl := Option.some.inj (hy.symm.trans fin.out)
      exact ⟨rfl, H2.out⟩
    · rw [fin.out] at hn; cases hn
  | none =>
    have T := Lib.hid (take_no (x := (l, s)) e b W HX.out)
    have fin := Lib.hid (show rdLast (l, s) = some (l, { s with last := false }) by unfold rdLast; rw [opt_no e])
    clear e HX
    go_enter Tryz.func131, Tryz.ntmps131
    go_wp2_with fail
    refine T.out.mono ?_
    rintro e w1 ⟨rfl, hc, hm⟩
    have HX := Lib.hid hc
    have HM := Lib.hid hm
    unfold CuX at HX
    clear hc hm T
    go_wp2_with (first | (refine wl_cell 4 b 8 123 _ (.bool false) (by kernel_rfl) (by kernel_rfl) HX.out (show 8 < 18 by decide) sz_bool rfl rfl ?_) | fail)
    intro W2 h2 h3
    have H2 := Lib.hid h2
    have H3 := Lib.hid (HM.out.trans h3)
    clear h2 h3 HX HM
    go_wp2_with fail
    go_ret
    refine ⟨H3.out, fun y hy => ?_, fun hn => ?_⟩
    · obtain rfl := Option.some.inj (hy.symm.trans fin.out)
      exact ⟨rfl, H2.out⟩
    · rw [fin.out] at hn; cases hn
set_option maxRecDepth 100000 in
set_option maxHeartbeats 2000000 in
theorem pstk_any : Pc 134 rdStk := by
  intro W b x _ h
  obtain ⟨l, s⟩ := x
  have HX := Lib.hid h
  clear h
  cases e : tk 124 l with
  | some t =>
    have T := Lib.hid (take_yes (x := (l, s)) e b W HX.out)
    have fin := Lib.hid (show rdStk (l, s) = some (t, { s with stk := true }) by unfold rdStk; rw [opt_yes e])
    clear e HX
    go_enter Tryz.func134, Tryz.ntmps134
    go_wp2_with fail
    refine T.out.mono ?_
    rintro e w1 ⟨rfl, hc, hm⟩
    have HX := Lib.hid hc
    have HM := Lib.hid hm
    unfold CuX at HX
    clear hc hm T
    go_wp2_with (first | (refine wl_cell 4 b 13 123 _ (.bool true) (by kernel_rfl) (by kernel_rfl) HX.out (show 13 < 18 by decide) sz_bool rfl rfl ?_) | fail)
    intro W2 h2 h3
    have H2 := Lib.hid h2
    have H3 := Lib.hid (HM.out.trans h3)
    clear h2 h3 HX HM
    go_wp2_with fail
    go_ret
    refine ⟨H3.out, fun y hy => ?_, fun hn => ?_⟩
    · obtain rfl := Option.some.inj (hy.symm.trans fin.out)
      exact ⟨rfl, H2.out⟩
    · rw [fin.out] at hn; cases hn
  | none =>
    have T := Lib.hid (take_no (x := (l, s)) e b W HX.out)
    have fin := Lib.hid (show rdStk (l, s) = some (l, { s with stk := false }) by unfold rdStk; rw [opt_no e])
    clear e HX
    go_enter Tryz.func134, Tryz.ntmps134
    go_wp2_with fail
    refine T.out.mono ?_
    rintro e w1 ⟨rfl, hc, hm⟩
    have HX := Lib.hid hc
    have HM := Lib.hid hm
    unfold CuX at HX
    clear hc hm T
    go_wp2_with (first | (refine wl_cell 4 b 13 123 _ (.bool false) (by kernel_rfl) (by kernel_rfl) HX.out (show 13 < 18 by decide) sz_bool rfl rfl ?_) | fail)
    intro W2 h2 h3
    have H2 := Lib.hid h2
    have H3 := Lib.hid (HM.out.trans h3)
    clear h2 h3 HX HM
    go_wp2_with fail
    go_ret
    refine ⟨H3.out, fun y hy => ?_, fun hn => ?_⟩
    · obtain rfl := Option.some.inj (hy.symm.trans fin.out)
      exact ⟨rfl, H2.out⟩
    · rw [fin.out] at hn; cases hn
end Go.Proofs.YtdmedealdhadcaaGreatDoor
