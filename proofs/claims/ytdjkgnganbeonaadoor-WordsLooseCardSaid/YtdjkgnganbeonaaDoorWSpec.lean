/- Rows of words: what is asked of a text, and how lists of rows lie in memory. -/
import Derived.Test.YtdjkgnganbeonaaDoorWCut
import Derived.Maps.AppendAt
namespace Go.Proofs.YtdjkgnganbeonaaDoor
open Go.RowKit

structure Rw where
  at_ : Int
  words : List Wd

/-- A line from i to t, t excluded. -/
structure LineAt (s : ByteArray) (i t : Nat) : Prop where
  le : i ≤ t
  fits : t ≤ s.size
  inside : ∀ m, i ≤ m → m < t → bt s m ≠ 10
  ends : t = s.size ∨ bt s t = 10

theorem line_one {s : ByteArray} {i t t' : Nat} (h : LineAt s i t) (h' : LineAt s i t') : t = t' := by
  have l1 := h.le
  have l2 := h'.le
  have z1 := h.fits
  have z2 := h'.fits
  rcases Nat.lt_trichotomy t t' with x | x | x
  · rcases h.ends with y | y
    · omega
    · exact absurd y (h'.inside t l1 x)
  · exact x
  · rcases h'.ends with y | y
    · omega
    · exact absurd y (h.inside t' l2 x)

/-- From the beginning of a line on: the rows, and the first fault. -/
inductive RowsR (s : ByteArray) : Nat → List Rw → Option (Int × Int) → Prop
  | stop {i : Nat} (h : s.size < i) : RowsR s i [] none
  | long {i t : Nat} (h : LineAt s i t) (hl : 1000 < t - i) : RowsR s i [] (some (4, i))
  | bad {i t : Nat} {ws j} (h : LineAt s i t) (hl : t - i ≤ 1000) (c : Cuts (s.extract i t) i 0 ws (some j)) : RowsR s i [] (some (3, (i : Int) + j))
  | skip {i t : Nat} {rs b} (h : LineAt s i t) (hl : t - i ≤ 1000) (c : Cuts (s.extract i t) i 0 [] none) (r : RowsR s (t + 1) rs b) : RowsR s i rs b
  | row {i t : Nat} {ws rs b} (h : LineAt s i t) (hl : t - i ≤ 1000) (c : Cuts (s.extract i t) i 0 ws none) (hne : ws ≠ []) (r : RowsR s (t + 1) rs b) : RowsR s i (⟨i, ws⟩ :: rs) b

theorem RowsR.one {s : ByteArray} {i : Nat} {rs : List Rw} {b : Option (Int × Int)} (h : RowsR s i rs b) : ∀ {rs' b'}, RowsR s i rs' b' → rs = rs' ∧ b = b' := by
  induction h with
  | stop h =>
    intro rs' b' k
    cases k with
    | stop _ => exact ⟨rfl, rfl⟩
    | long h1 => have := h1.le; have := h1.fits; omega
    | bad h1 => have := h1.le; have := h1.fits; omega
    | skip h1 => have := h1.le; have := h1.fits; omega
    | row h1 => have := h1.le; have := h1.fits; omega
  | long h hl =>
    intro rs' b' k
    cases k with
    | stop h1 => have := h.le; have := h.fits; omega
    | long h1 _ => exact ⟨rfl, rfl⟩
    | bad h1 hl1 c => obtain rfl := line_one h h1; omega
    | skip h1 hl1 c r => obtain rfl := line_one h h1; omega
    | row h1 hl1 c r => obtain rfl := line_one h h1; omega
  | bad h hl c =>
    intro rs' b' k
    cases k with
    | stop h1 => have := h.le; have := h.fits; omega
    | long h1 hl1 => obtain rfl := line_one h h1; omega
    | bad h1 hl1 c1 =>
      obtain rfl := line_one h h1
      obtain ⟨_, e⟩ := c.one c1
      simp only [Option.some.injEq] at e
      subst e; exact ⟨rfl, rfl⟩
    | skip h1 hl1 c1 r => obtain rfl := line_one h h1; have := (c.one c1).2; cases this
    | row h1 hl1 c1 r => obtain rfl := line_one h h1; have := (c.one c1).2; cases this
  | skip h hl c r ih =>
    intro rs' b' k
    cases k with
    | stop h1 => have := h.le; have := h.fits; omega
    | long h1 hl1 => obtain rfl := line_one h h1; omega
    | bad h1 hl1 c1 => obtain rfl := line_one h h1; have := (c.one c1).2; cases this
    | skip h1 hl1 c1 r1 => obtain rfl := line_one h h1; exact ih r1
    | row h1 hl1 c1 hne r1 => obtain rfl := line_one h h1; exact absurd (c.one c1).1.symm hne
  | row h hl c hne r ih =>
    intro rs' b' k
    cases k with
    | stop h1 => have := h.le; have := h.fits; omega
    | long h1 hl1 => obtain rfl := line_one h h1; omega
    | bad h1 hl1 c1 => obtain rfl := line_one h h1; have := (c.one c1).2; cases this
    | skip h1 hl1 c1 r1 => obtain rfl := line_one h h1; exact absurd (c.one c1).1 hne
    | row h1 hl1 c1 hne1 r1 =>
      obtain rfl := line_one h h1
      obtain ⟨rfl, _⟩ := c.one c1
      obtain ⟨rfl, rfl⟩ := ih r1
      exact ⟨rfl, rfl⟩

/-- What a text's rows are, and which fault it has. -/
def RowsRes (s : ByteArray) (rs : List Rw) (b : Option (Int × Int)) : Prop :=
  (20000 < s.size ∧ rs = [] ∧ b = some (4, 20000)) ∨ (s.size ≤ 20000 ∧ ∃ rs', RowsR s 0 rs' b ∧ rs = if b = none then rs' else [])

theorem RowsRes.one {s : ByteArray} {rs rs' : List Rw} {b b' : Option (Int × Int)} (h : RowsRes s rs b) (h' : RowsRes s rs' b') : rs = rs' ∧ b = b' := by
  rcases h with ⟨x, rfl, rfl⟩ | ⟨x, r, hr, rfl⟩
  · rcases h' with ⟨_, rfl, rfl⟩ | ⟨y, _⟩
    · exact ⟨rfl, rfl⟩
    · omega
  · rcases h' with ⟨y, _⟩ | ⟨_, r', hr', rfl⟩
    · omega
    · obtain ⟨rfl, rfl⟩ := hr.one hr'
      exact ⟨rfl, rfl⟩

/-- A slice of words as a value. -/
def WordsV (w : World) (v : Value) (ws : List Wd) : Prop := ∃ p cap, v = .slice p ws.length cap ∧ SliceP w p cap ws.length 3 (flatW ws)
theorem WordsV.later {w w1 : World} {v : Value} {ws : List Wd} (h : WordsV w v ws) (k : Below w.heap.size w w1) : WordsV w1 v ws := by
  obtain ⟨p, cap, e, hs⟩ := h; exact ⟨p, cap, e, hs.later k⟩
theorem WordsV.grown {w w1 : World} {v : Value} {ws : List Wd} {row : Option Nat} (h : WordsV w v ws) (hg : w.grownBy w1 row) (hne : 0 < ws.length → v.ownBlock ≠ row) : WordsV w1 v ws := by
  obtain ⟨p, cap, rfl, hs⟩ := h
  refine ⟨p, cap, rfl, hs.fit, hs.max, hs.nil, hs.len, fun h0 => ?_⟩
  obtain ⟨b, off, rfl, hb, hc⟩ := hs.at_ h0
  have hk : w1.heap[b]? = w.heap[b]? := hg.block b hb (fun e => hne h0 e)
  exact ⟨b, off, rfl, Nat.lt_of_lt_of_le hb hg.size, fun j u hu => by rw [← hc j u hu]; exact World.cell?_of_block (w := w) (a := ⟨b, off + j, none⟩) hk⟩
theorem WordsV.block {w : World} {v : Value} {ws : List Wd} (h : WordsV w v ws) (h0 : 0 < ws.length) : ∃ b, v.ownBlock = some b ∧ b < w.heap.size := by
  obtain ⟨p, cap, rfl, hs⟩ := h
  obtain ⟨b, off, rfl, hb, _⟩ := hs.at_ h0
  exact ⟨b, rfl, hb⟩

def flatR : List (Int × Value) → List Value
  | [] => []
  | x :: t => .int .i64 x.1 :: x.2 :: flatR t
theorem flatR_len : ∀ l, (flatR l).length = l.length * 2
  | [] => rfl
  | x :: t => by have := flatR_len t; simp only [flatR, List.length_cons]; omega
theorem flatR_app : ∀ l m, flatR (l ++ m) = flatR l ++ flatR m
  | [], _ => rfl
  | x :: t, m => by show flatR (x :: (t ++ m)) = _; simp [flatR, flatR_app t m]

/-- The rows' words lie where the rows say, none of them in block o. -/
def AllR (w : World) (o : Option Nat) : List (Int × Value) → List Rw → Prop
  | [], [] => True
  | x :: xs, r :: rs => (x.1 = r.at_ ∧ WordsV w x.2 r.words ∧ (0 < r.words.length → x.2.ownBlock ≠ o)) ∧ AllR w o xs rs
  | _, _ => False

theorem AllR.mono {w w1 : World} {o o' : Option Nat} (hp : ∀ v ws, WordsV w v ws → (0 < ws.length → v.ownBlock ≠ o) → WordsV w1 v ws ∧ (0 < ws.length → v.ownBlock ≠ o')) :
    ∀ {vs rs}, AllR w o vs rs → AllR w1 o' vs rs
  | [], [], _ => trivial
  | x :: xs, r :: rs, h => by
    obtain ⟨⟨h1, h2, h3⟩, h4⟩ := h
    obtain ⟨k1, k2⟩ := hp _ _ h2 h3
    exact ⟨⟨h1, k1, k2⟩, AllR.mono hp h4⟩
  | [], _ :: _, h => h.elim
  | _ :: _, [], h => h.elim
theorem AllR.later {w w1 : World} {o : Option Nat} {vs rs} (h : AllR w o vs rs) (k : Below w.heap.size w w1) : AllR w1 o vs rs := h.mono fun _ _ a b => ⟨a.later k, b⟩
theorem AllR.grown {w w1 : World} {o : Option Nat} {vs rs} (h : AllR w o vs rs) (k : w.grownBy w1 o) : AllR w1 o vs rs := h.mono fun _ _ a b => ⟨a.grown k b, b⟩
theorem AllR.fresh {w : World} {o : Option Nat} {n : Nat} {vs rs} (h : AllR w o vs rs) (hn : w.heap.size ≤ n) : AllR w (some n) vs rs :=
  h.mono fun _ _ a _ => ⟨a, fun h0 e => by
    obtain ⟨b, e1, e2⟩ := a.block h0
    rw [e1] at e
    simp only [Option.some.injEq] at e
    omega⟩
theorem AllR.len {w : World} {o : Option Nat} : ∀ {vs rs}, AllR w o vs rs → vs.length = rs.length
  | [], [], _ => rfl
  | x :: xs, r :: rs, h => by have := AllR.len h.2; simp [this]
  | [], _ :: _, h => h.elim
  | _ :: _, [], h => h.elim
theorem AllR.app {w : World} {o : Option Nat} {x : Int × Value} {r : Rw} (hx : x.1 = r.at_ ∧ WordsV w x.2 r.words ∧ (0 < r.words.length → x.2.ownBlock ≠ o)) :
    ∀ {vs rs}, AllR w o vs rs → AllR w o (vs ++ [x]) (rs ++ [r])
  | [], [], _ => ⟨hx, trivial⟩
  | _ :: _, _ :: _, h => ⟨h.1, AllR.app hx h.2⟩
  | [], _ :: _, h => h.elim
  | _ :: _, [], h => h.elim

/-- A list of rows that the call owns. -/
def RowsI (w : World) (base : Nat) (v : Value) (rs : List Rw) : Prop := ∃ vs, w.ownsRow base 44 2 v rs.length (flatR vs) ∧ AllR w v.ownBlock vs rs

theorem rowsI_nil (w : World) (base : Nat) : RowsI w base (.slice none 0 0) [] := ⟨[], World.ownsRow_nil _ _ _ _, trivial⟩
theorem RowsI.later {w w1 : World} {base : Nat} {v : Value} {rs : List Rw} (h : RowsI w base v rs) (k : Below w.heap.size w w1) : RowsI w1 base v rs := by
  obtain ⟨vs, ho, ha⟩ := h; exact ⟨vs, w_own ho k (Nat.le_refl _), ha.later k⟩

theorem RowsI.more {w2 w3 : World} {base : Nat} {v v' vw : Value} {vs : List (Int × Value)} {rs : List Rw} {a : Int} {ws : List Wd} (hall : AllR w2 v.ownBlock vs rs)
    (hw : WordsV w2 vw ws) (hne : 0 < ws.length → vw.ownBlock ≠ v.ownBlock) (hown : w3.ownsRow base 44 2 v' (rs.length + 1) (flatR vs ++ flatR [(a, vw)]))
    (hg : w2.grownBy w3 v.ownBlock) (hat : v'.ownBlock = v.ownBlock ∨ v'.ownBlock = some w2.heap.size) : RowsI w3 base v' (rs ++ [⟨a, ws⟩]) := by
  refine ⟨vs ++ [(a, vw)], by rw [flatR_app, List.length_append]; exact hown, ?_⟩
  have h2 : AllR w2 v.ownBlock (vs ++ [(a, vw)]) (rs ++ [⟨a, ws⟩]) := hall.app ⟨rfl, hw, hne⟩
  have h3 := h2.grown hg
  rcases hat with e | e
  · rw [e]; exact h3
  · rw [e]
    exact (AllR.mono (w := w2) (o := v.ownBlock) (o' := some w2.heap.size) (w1 := w3) (fun vv ww x y => ⟨x.grown hg y, fun h0 e => by
      obtain ⟨b, e1, e2⟩ := x.block h0
      rw [e1] at e
      simp only [Option.some.injEq] at e
      omega⟩) h2)

/-- A list of rows as a value, to be read. -/
def RowsV (w : World) (v : Value) (rs : List Rw) : Prop := ∃ p cap vs o, v = .slice p rs.length cap ∧ SliceP w p cap rs.length 2 (flatR vs) ∧ AllR w o vs rs
theorem RowsV.later {w w1 : World} {v : Value} {rs : List Rw} (h : RowsV w v rs) (k : Below w.heap.size w w1) : RowsV w1 v rs := by
  obtain ⟨p, cap, vs, o, e, hs, ha⟩ := h; exact ⟨p, cap, vs, o, e, hs.later k, ha.later k⟩
theorem RowsI.val {w : World} {base : Nat} {v : Value} {rs : List Rw} (h : RowsI w base v rs) : RowsV w v rs := by
  obtain ⟨vs, ho, ha⟩ := h
  obtain ⟨p, cap, e, hs⟩ := slice_of_own ho
  exact ⟨p, cap, vs, _, e, hs, ha⟩

/-- Every cell reads as it did. -/
structure Keeps (w w1 : World) : Prop where
  size : w.heap.size ≤ w1.heap.size
  cell : ∀ a v, w.cell? a = some v → w1.cell? a = some v
theorem SliceP.keeps {w w1 : World} {p : Option Addr} {cap n size : Nat} {xs : List Value} (h : SliceP w p cap n size xs) (k : Keeps w w1) : SliceP w1 p cap n size xs :=
  ⟨h.fit, h.max, h.nil, h.len, fun h0 => by
    obtain ⟨b, off, e, hb, hc⟩ := h.at_ h0
    exact ⟨b, off, e, Nat.lt_of_lt_of_le hb k.size, fun j u hu => k.cell _ _ (hc j u hu)⟩⟩
theorem WordsV.keeps {w w1 : World} {v : Value} {ws : List Wd} (h : WordsV w v ws) (k : Keeps w w1) : WordsV w1 v ws := by
  obtain ⟨p, cap, e, hs⟩ := h; exact ⟨p, cap, e, hs.keeps k⟩
theorem RowsV.keeps {w w1 : World} {v : Value} {rs : List Rw} (h : RowsV w v rs) (k : Keeps w w1) : RowsV w1 v rs := by
  obtain ⟨p, cap, vs, o, e, hs, ha⟩ := h; exact ⟨p, cap, vs, o, e, hs.keeps k, ha.mono fun _ _ a b => ⟨a.keeps k, b⟩⟩

end Go.Proofs.YtdjkgnganbeonaaDoor
