/- Words of a line: what is asked, and what the reference's ends and quoted answer, for every line. Slices of words and of rows in memory: what they look like, and how they last. The reference's cut: the words of a line, for every line. Rows of words: what is asked of a text, and how lists of rows lie in memory. The reference's Rows: for every text. The reference's written and Text: for every list of rows. -/
import Derived.Test.YtdmedealdhadcaaGreatDoorG03
import Derived.WalkSpells
import Derived.OwnWalk
import Derived.Deep.AppendLies
import Derived.Maps.AppendAt

namespace Go.Proofs.YtdmedealdhadcaaGreatDoor
open Go.RowKit
/-- The byte at a place, -1 behind the end. -/
def bt (s : ByteArray) (j : Nat) : Int := if h : j < s.size then (s[j].toNat : Int) else -1
theorem bt_in {s : ByteArray} {j : Nat} (h : j < s.size) : bt s j = (s[j].toNat : Int) := by unfold bt; rw [dif_pos h]
theorem bt_out {s : ByteArray} {j : Nat} (h : ¬ j < s.size) : bt s j = -1 := by unfold bt; rw [dif_neg h]
theorem bt_lt {s : ByteArray} {j : Nat} (h : 0 ≤ bt s j) : j < s.size := by
  apply Classical.byContradiction; intro hx
  rw [bt_out hx] at h; omega
structure Wd where
  at_ : Int
  text : ByteArray
  quoted : Bool
def endsI (c : Int) : Bool := decide (c = -1 ∨ c = 32 ∨ c = 59)
/-- A quoted word from i to k, k excluded. -/
structure QuotedAt (s : ByteArray) (i k : Nat) : Prop where
  first : bt s i = 34
  before : i = 0 ∨ bt s (i - 1) = 32
  long : i + 2 ≤ k
  fits : k ≤ s.size
  inside : ∀ j, i < j → j < k - 1 → insideI (bt s j) = true
  last : bt s (k - 1) = 34
  ends : endsI (bt s k) = true
/-- A plain word from i to k, k excluded. -/
structure PlainAt (s : ByteArray) (i k : Nat) : Prop where
  long : i < k
  fits : k ≤ s.size
  plain : ∀ j, i ≤ j → j < k → plainI (bt s j) = true
  ends : plainI (bt s k) = false
/-- From a place of a line on: its words, and where the first thing is wrong. -/
inductive Cuts (s : ByteArray) (from_ : Int) : Nat → List Wd → Option Nat → Prop
  | stop {i : Nat} (h : i = s.size) : Cuts s from_ i [] none
  | note {i : Nat} (h : bt s i = 59) : Cuts s from_ i [] none
  | blank {i : Nat} {ws b} (h : bt s i = 32) (t : Cuts s from_ (i + 1) ws b) : Cuts s from_ i ws b
  | quote {i k : Nat} {ws b} (h : QuotedAt s i k) (t : Cuts s from_ k ws b) : Cuts s from_ i (⟨from_ + i, s.extract (i + 1) (k - 1), true⟩ :: ws) b
  | word {i k : Nat} {ws b} (h : PlainAt s i k) (t : Cuts s from_ k ws b) : Cuts s from_ i (⟨from_ + i, s.extract i k, false⟩ :: ws) b
  | badq {i : Nat} (h : bt s i = 34) (q : ∀ k, ¬ QuotedAt s i k) : Cuts s from_ i [] (some i)
  | bad {i : Nat} (h : 0 ≤ bt s i) (h1 : bt s i ≠ 59) (h2 : bt s i ≠ 32) (h3 : bt s i ≠ 34) (h4 : plainI (bt s i) = false) : Cuts s from_ i [] (some i)
theorem inside34 : insideI 34 = false := by decide
theorem quoted_one {s : ByteArray} {i k k' : Nat} (h : QuotedAt s i k) (h' : QuotedAt s i k') : k = k' := by
  have l1 := h.long
  have l2 := h'.long
  rcases Nat.lt_trichotomy k k' with x | x | x
  · have := h'.inside (k - 1) (by omega) (by omega)
    rw [h.last, inside34] at this; cases this
  · exact x
  · have := h.inside (k' - 1) (by omega) (by omega)
    rw [h'.last, inside34] at this; cases this
theorem plain_one {s : ByteArray} {i k k' : Nat} (h : PlainAt s i k) (h' : PlainAt s i k') : k = k' := by
  have l1 := h.long
  have l2 := h'.long
  rcases Nat.lt_trichotomy k k' with x | x | x
  · have := h'.plain k (by omega) x
    rw [h.ends] at this; cases this
  · exact x
  · have := h.plain k' (by omega) x
    rw [h'.ends] at this; cases this
theorem plain_first {s : ByteArray} {i k : Nat} (h : PlainAt s i k) : plainI (bt s i) = true := h.plain i (Nat.le_refl _) h.long
theorem plainI_iff {c : Int} : plainI c = true ↔ 33 ≤ c ∧ c ≤ 126 ∧ c ≠ 59 ∧ c ≠ 34 := by unfold plainI; exact decide_eq_true_iff
/-- There is one answer. -/
theorem Cuts.one {s : ByteArray} {f : Int} {i : Nat} {ws : List Wd} {b : Option Nat} (h : Cuts s f i ws b) : ∀ {ws' b'}, Cuts s f i ws' b' → ws = ws' ∧ b = b' := by
  induction h with
  | stop h =>
    rename_i i
    have hb : bt s i = -1 := bt_out (by omega)
    intro ws' b' k
    cases k with
    | stop _ => exact ⟨rfl, rfl⟩
    | note h1 => omega
    | blank h1 t => omega
    | quote h1 t => have := h1.first; omega
    | word h1 t => have := plainI_iff.1 (plain_first h1); omega
    | badq h1 q => omega
    | bad h0 => omega
  | note h =>
    rename_i i
    intro ws' b' k
    cases k with
    | stop h1 => have : bt s i = -1 := bt_out (by omega); omega
    | note _ => exact ⟨rfl, rfl⟩
    | blank h1 t => omega
    | quote h1 t => have := h1.first; omega
    | word h1 t => have := plainI_iff.1 (plain_first h1); omega
    | badq h1 q => omega
    | bad h0 h1 => exact absurd h h1
  | blank h t ih =>
    rename_i i _ _
    intro ws' b' k
    cases k with
    | stop h1 => have : bt s i = -1 := bt_out (by omega); omega
    | note h1 => omega
    | blank h1 t => exact ih t
    | quote h1 t => have := h1.first; omega
    | word h1 t => have := plainI_iff.1 (plain_first h1); omega
    | badq h1 q => omega
    | bad h0 h1 h2 => exact absurd h h2
  | quote h t ih =>
    rename_i i _ _ _
    have hf := h.first
    intro ws' b' k
    cases k with
    | stop h1 => have : bt s i = -1 := bt_out (by omega); omega
    | note h1 => omega
    | blank h1 t => omega
    | quote h1 t1 =>
      obtain rfl := quoted_one h h1
      obtain ⟨rfl, rfl⟩ := ih t1
      exact ⟨rfl, rfl⟩
    | word h1 t => have := plainI_iff.1 (plain_first h1); omega
    | badq h1 q => exact absurd h (q _)
    | bad h0 h1 h2 h3 => exact absurd hf h3
  | word h t ih =>
    rename_i i _ _ _
    have hf := plainI_iff.1 (plain_first h)
    intro ws' b' k
    cases k with
    | stop h1 => have : bt s i = -1 := bt_out (by omega); omega
    | note h1 => omega
    | blank h1 t => omega
    | quote h1 t1 => have := h1.first; omega
    | word h1 t1 =>
      obtain rfl := plain_one h h1
      obtain ⟨rfl, rfl⟩ := ih t1
      exact ⟨rfl, rfl⟩
    | badq h1 q => omega
    | bad h0 h1 h2 h3 h4 => rw [plain_first h] at h4; cases h4
  | badq h q =>
    rename_i i
    intro ws' b' k
    cases k with
    | stop h1 => have : bt s i = -1 := bt_out (by omega); omega
    | note h1 => omega
    | blank h1 t => omega
    | quote h1 t => exact absurd h1 (q _)
    | word h1 t => have := plainI_iff.1 (plain_first h1); omega
    | badq _ _ => exact ⟨rfl, rfl⟩
    | bad h0 h1 h2 h3 => exact absurd h h3
  | bad h0 h1 h2 h3 h4 =>
    rename_i i
    intro ws' b' k
    cases k with
    | stop h => have : bt s i = -1 := bt_out (by omega); omega
    | note h => exact absurd h h1
    | blank h t => exact absurd h h2
    | quote h t => exact absurd h.first h3
    | word h t => rw [plain_first h] at h4; cases h4
    | badq h q => exact absurd h h3
    | bad _ _ _ _ _ => exact ⟨rfl, rfl⟩
/-- Behind the bytes that may stand inside: the end of the line, or a byte that may not, decides. -/
theorem quoted_end {s : ByteArray} {i j : Nat} (hi : i < j) (hin : ∀ m, i < m → m < j → insideI (bt s m) = true) (hj : insideI (bt s j) = false) (k : Nat) (q : QuotedAt s i k) : k = j + 1 := by
  have l := q.long
  rcases Nat.lt_trichotomy (k - 1) j with x | x | x
  · have := hin (k - 1) (by omega) x
    rw [q.last, inside34] at this; cases this
  · omega
  · have := q.inside j hi x
    rw [hj] at this; cases this
end Go.Proofs.YtdmedealdhadcaaGreatDoor

namespace Go.Proofs.YtdmedealdhadcaaGreatDoor
open Go.RowKit
/-- A slice, nil or not: n elements of so many cells. -/
structure SliceP (w : World) (p : Option Addr) (cap n size : Nat) (xs : List Value) : Prop where
  fit : n ≤ cap
  max : cap ≤ 9223372036854775807
  nil : p = none → cap = 0
  len : xs.length = n * size
  at_ : 0 < n → ∃ b off, p = some ⟨b, off, none⟩ ∧ b < w.heap.size ∧ ∀ j u, xs[j]? = some u → w.cell? ⟨b, off + j, none⟩ = some u
theorem SliceP.later {w w1 : World} {p : Option Addr} {cap n size : Nat} {xs : List Value} (h : SliceP w p cap n size xs) (k : Below w.heap.size w w1) : SliceP w1 p cap n size xs :=
  ⟨h.fit, h.max, h.nil, h.len, fun h0 => by
    obtain ⟨b, off, e, hb, hc⟩ := h.at_ h0
    exact ⟨b, off, e, Nat.lt_of_lt_of_le hb k.size, fun j u hu => by rw [← hc j u hu]; exact k.cell (p := ⟨b, off + j, none⟩) hb⟩⟩
theorem SliceP.below {w w1 : World} {B : Nat} {p : Option Addr} {cap n size : Nat} {xs : List Value} (h : SliceP w p cap n size xs) (k : Below B w w1) (hB : w.heap.size ≤ B) : SliceP w1 p cap n size xs :=
  ⟨h.fit, h.max, h.nil, h.len, fun h0 => by
    obtain ⟨b, off, e, hb, hc⟩ := h.at_ h0
    exact ⟨b, off, e, Nat.lt_of_lt_of_le hb k.size, fun j u hu => by rw [← hc j u hu]; exact k.cell (p := ⟨b, off + j, none⟩) (by show b < B; omega)⟩⟩
theorem slice_of_own {w : World} {base size : Nat} {e : TypeId} {v : Value} {n : Nat} {xs : List Value} (h : w.ownsRow base e size v n xs) : ∃ p cap, v = .slice p n cap ∧ SliceP w p cap n size xs := by
  have hlen := h.1
  rcases h.2 with ⟨rfl, hn⟩ | ⟨g, cap, cur, rfl, hb, hg, hnc, hcm, hcs, ht⟩
  · exact ⟨none, 0, by rw [hn], by omega, by omega, fun _ => rfl, hlen, fun h0 => by omega⟩
  · unfold maxLen at hcm
    refine ⟨some ⟨g, 0, none⟩, cap, rfl, hnc, by omega, fun e => (by cases e), hlen, fun _ => ⟨g, 0, rfl, (Array.getElem?_eq_some_iff.1 hg).1, fun j u hu => ?_⟩⟩
    have hj := (List.getElem?_eq_some_iff.1 hu).1
    rw [Nat.zero_add, h.cellAt j (by omega), hu]
theorem w_own {w w1 : World} {base size B : Nat} {e : TypeId} {v : Value} {n : Nat} {xs : List Value} (h : w.ownsRow base e size v n xs) (k : Below B w w1) (hB : w.heap.size ≤ B) : w1.ownsRow base e size v n xs := by
  refine ⟨h.1, ?_⟩
  rcases h.2 with hn | ⟨g, cap, cur, hv, hb, hg, rest⟩
  · exact .inl hn
  · exact .inr ⟨g, cap, cur, hv, hb, by rw [k.block g (by have := (Array.getElem?_eq_some_iff.1 hg).1; omega)]; exact hg, rest⟩
theorem w_addr (b off j : Nat) : (⟨b, off, none⟩ : Addr).add j = ⟨b, off + j, none⟩ := by
  unfold Addr.add; split
  · rename_i h; subst h; rfl
  · rfl
def flatW : List Wd → List Value
  | [] => []
  | x :: t => .int .i64 x.at_ :: .string x.text :: .bool x.quoted :: flatW t
def noWd : Wd := ⟨0, ⟨#[]⟩, false⟩
theorem flatW_app : ∀ l m, flatW (l ++ m) = flatW l ++ flatW m
  | [], _ => rfl
  | x :: t, m => by show flatW (x :: (t ++ m)) = _; simp [flatW, flatW_app t m]
theorem flatW_one : ∀ (l : List Wd), ∀ u ∈ flatW l, u.oneCell' = true
  | [], u, h => by simp [flatW] at h
  | x :: t, u, h => by
    simp only [flatW, List.mem_cons] at h
    rcases h with rfl | rfl | rfl | h
    · rfl
    · rfl
    · rfl
    · exact flatW_one t u h
theorem flatW_get : ∀ (l : List Wd) (k : Nat), k < l.length → (flatW l)[k * 3]? = some (.int .i64 (l.getD k noWd).at_) ∧ (flatW l)[k * 3 + 1]? = some (.string (l.getD k noWd).text) ∧ (flatW l)[k * 3 + 2]? = some (.bool (l.getD k noWd).quoted)
  | [], k, h => by simp at h
  | x :: t, 0, _ => ⟨rfl, rfl, rfl⟩
  | x :: t, k + 1, h => by
    have := flatW_get t k (by simpa using h)
    rw [show (k + 1) * 3 = k * 3 + 1 + 1 + 1 by omega]
    simpa [flatW] using this
/-- A new word, as its block holds it. -/
theorem new_word (w : World) (a : Int) (t : ByteArray) (q : Bool) (ty : TypeId) : ∀ j u, (flatW [⟨a, t, q⟩])[j]? = some u → (w.alloc (.cells #[.int .i64 a, .string t, .bool q] ty)).cell? ((⟨w.heap.size, 0, none⟩ : Addr).add j) = some u := by
  intro j u hu
  rw [w_addr]
  match j, hu with
  | 0, hu => simp [flatW] at hu; subst hu; simp [go_sem]
  | 1, hu => simp [flatW] at hu; subst hu; simp [go_sem]
  | 2, hu => simp [flatW] at hu; subst hu; simp [go_sem]
  | j + 3, hu => simp [flatW] at hu
theorem info_word : (Tryz.prog.info? 101).map (fun i => (i.zero, i.size, i.bytes)) = some (some (.agg #[.int .i64 0, .string ⟨#[]⟩, .bool false]), 3, 32) := by kernel_rfl
theorem info_row : (Tryz.prog.info? 62).map (fun i => (i.zero, i.size, i.bytes)) = some (some (.agg #[.int .i64 0, .slice none 0 0]), 2, 32) := by kernel_rfl
/-- Draws change nothing that is read. -/
theorem bel_drewN {B : Nat} {a w : World} (h : Below B a w) (n : Nat) : Below B a (w.drewN n) := ⟨h.os, h.tape, h.output, h.size, h.block⟩
end Go.Proofs.YtdmedealdhadcaaGreatDoor

namespace Go.Proofs.YtdmedealdhadcaaGreatDoor
open Go.RowKit
/-- What the words of a line come back as. -/
def CutPost (s : ByteArray) (f : Int) (w : World) (e : Ending) (w' : World) : Prop :=
  ∃ ws b, Cuts s f 0 ws b ∧ ws.length ≤ s.size ∧ Below w.heap.size w w' ∧
    match b with
    | none => ∃ v, e = .returned (.tuple #[v, .int .i64 (-1)]) ∧ w'.ownsRow w.heap.size 101 3 v ws.length (flatW ws)
    | some j => e = .returned (.tuple #[.slice none 0 0, .int .i64 (j : Nat)]) ∧ j < s.size
/-- The words so far, at a place. -/
structure CutInv (s : ByteArray) (f : Int) (w wr : World) (i : Nat) (acc : List Wd) (v : Value) : Prop where
  own : wr.ownsRow w.heap.size 101 3 v acc.length (flatW acc)
  bel : Below w.heap.size w wr
  cuts : ∀ ws b, Cuts s f i ws b → Cuts s f 0 (acc ++ ws) b
theorem CutInv.blank {s : ByteArray} {f : Int} {w wr : World} {i : Nat} {acc : List Wd} {v : Value} (h : CutInv s f w wr i acc v) (hb : bt s i = 32) : CutInv s f w wr (i + 1) acc v :=
  ⟨h.own, h.bel, fun ws b t => h.cuts ws b (.blank hb t)⟩
theorem CutInv.stop {s : ByteArray} {f : Int} {w wr : World} {i : Nat} {acc : List Wd} {v : Value} (h : CutInv s f w wr i acc v) (hl : acc.length ≤ s.size) (hc : Cuts s f i [] none) :
    CutPost s f w (.returned (.tuple #[v, .int .i64 (-1)])) wr :=
  ⟨acc, none, by have := h.cuts [] none hc; rwa [List.append_nil] at this, hl, h.bel, v, rfl, h.own⟩
theorem CutInv.bad {s : ByteArray} {f : Int} {w wr : World} {i : Nat} {acc : List Wd} {v : Value} (h : CutInv s f w wr i acc v) (hl : acc.length ≤ s.size) (hi : i < s.size) (hc : Cuts s f i [] (some i)) :
    CutPost s f w (.returned (.tuple #[.slice none 0 0, .int .i64 i])) wr :=
  ⟨acc, some i, by have := h.cuts [] (some i) hc; rwa [List.append_nil] at this, hl, h.bel, rfl, hi⟩
theorem CutInv.more {s : ByteArray} {f : Int} {w wr w2 : World} {i k : Nat} {acc : List Wd} {v v' : Value} {x : Wd} (h : CutInv s f w wr i acc v)
    (hown : w2.ownsRow w.heap.size 101 3 v' (acc ++ [x]).length (flatW (acc ++ [x]))) (hb : Below w.heap.size w w2) (hc : ∀ ws b, Cuts s f k ws b → Cuts s f i (x :: ws) b) : CutInv s f w w2 k (acc ++ [x]) v' :=
  ⟨hown, hb, fun ws b t => by have := h.cuts (x :: ws) b (hc ws b t); rwa [List.append_assoc]⟩
end Go.Proofs.YtdmedealdhadcaaGreatDoor

namespace Go.Proofs.YtdmedealdhadcaaGreatDoor
open Go.RowKit
structure Rw where
  at_ : Int
  words : List Wd
/-- A line from i to t, t excluded. -/
structure LineAt (s : ByteArray) (i t : Nat) : Prop where
  le : i ≤ t
  fits : t ≤ s.size
  inside : ∀ m, i ≤ m → m < t → bt s m ≠ 10
  ends : t = s.size ∨ bt s t = 10
theorem line_one {s : ByteArray} {i t t' : Nat} (h : LineAt s i t) (h' : LineAt s i t') : t = t' := by
  have l1 := h.le
  have l2 := h'.le
  have z1 := h.fits
  have z2 := h'.fits
  rcases Nat.lt_trichotomy t t' with x | x | x
  · rcases h.ends with y | y
    · omega
    · exact absurd y (h'.inside t l1 x)
  · exact x
  · rcases h'.ends with y | y
    · omega
    · exact absurd y (h.inside t' l2 x)
/-- From the beginning of a line on: the rows, and the first fault. -/
inductive RowsR (s : ByteArray) : Nat → List Rw → Option (Int × Int) → Prop
  | stop {i : Nat} (h : s.size < i) : RowsR s i [] none
  | long {i t : Nat} (h : LineAt s i t) (hl : 1000 < t - i) : RowsR s i [] (some (4, i))
  | bad {i t : Nat} {ws j} (h : LineAt s i t) (hl : t - i ≤ 1000) (c : Cuts (s.extract i t) i 0 ws (some j)) : RowsR s i [] (some (3, (i : Int) + j))
  | skip {i t : Nat} {rs b} (h : LineAt s i t) (hl : t - i ≤ 1000) (c : Cuts (s.extract i t) i 0 [] none) (r : RowsR s (t + 1) rs b) : RowsR s i rs b
  | row {i t : Nat} {ws rs b} (h : LineAt s i t) (hl : t - i ≤ 1000) (c : Cuts (s.extract i t) i 0 ws none) (hne : ws ≠ []) (r : RowsR s (t + 1) rs b) : RowsR s i (⟨i, ws⟩ :: rs) b
theorem RowsR.one {s : ByteArray} {i : Nat} {rs : List Rw} {b : Option (Int × Int)} (h : RowsR s i rs b) : ∀ {rs' b'}, RowsR s i rs' b' → rs = rs' ∧ b = b' := by
  induction h with
  | stop h =>
    intro rs' b' k
    cases k with
    | stop _ => exact ⟨rfl, rfl⟩
    | long h1 => have := h1.le; have := h1.fits; omega
    | bad h1 => have := h1.le; have := h1.fits; omega
    | skip h1 => have := h1.le; have := h1.fits; omega
    | row h1 => have := h1.le; have := h1.fits; omega
  | long h hl =>
    intro rs' b' k
    cases k with
    | stop h1 => have := h.le; have := h.fits; omega
    | long h1 _ => exact ⟨rfl, rfl⟩
    | bad h1 hl1 c => obtain rfl := line_one h h1; omega
    | skip h1 hl1 c r => obtain rfl := line_one h h1; omega
    | row h1 hl1 c r => obtain rfl := line_one h h1; omega
  | bad h hl c =>
    intro rs' b' k
    cases k with
    | stop h1 => have := h.le; have := h.fits; omega
    | long h1 hl1 => obtain rfl := line_one h h1; omega
    | bad h1 hl1 c1 =>
      obtain rfl := line_one h h1
      obtain ⟨_, e⟩ := c.one c1
      simp only [Option.some.injEq] at e
      subst e; exact ⟨rfl, rfl⟩
    | skip h1 hl1 c1 r => obtain rfl := line_one h h1; have := (c.one c1).2; cases this
    | row h1 hl1 c1 r => obtain rfl := line_one h h1; have := (c.one c1).2; cases this
  | skip h hl c r ih =>
    intro rs' b' k
    cases k with
    | stop h1 => have := h.le; have := h.fits; omega
    | long h1 hl1 => obtain rfl := line_one h h1; omega
    | bad h1 hl1 c1 => obtain rfl := line_one h h1; have := (c.one c1).2; cases this
    | skip h1 hl1 c1 r1 => obtain rfl := line_one h h1; exact ih r1
    | row h1 hl1 c1 hne r1 => obtain rfl := line_one h h1; exact absurd (c.one c1).1.symm hne
  | row h hl c hne r ih =>
    intro rs' b' k
    cases k with
    | stop h1 => have := h.le; have := h.fits; omega
    | long h1 hl1 => obtain rfl := line_one h h1; omega
    | bad h1 hl1 c1 => obtain rfl := line_one h h1; have := (c.one c1).2; cases this
    | skip h1 hl1 c1 r1 => obtain rfl := line_one h h1; exact absurd (c.one c1).1 hne
    | row h1 hl1 c1 hne1 r1 =>
      obtain rfl := line_one h h1
      obtain ⟨rfl, _⟩ := c.one c1
      obtain ⟨rfl, rfl⟩ := ih r1
      exact ⟨rfl, rfl⟩
/-- What a text's rows are, and which fault it has. -/
def RowsRes (s : ByteArray) (rs : List Rw) (b : Option (Int × Int)) : Prop :=
  (20000 < s.size ∧ rs = [] ∧ b = some (4, 20000)) ∨ (s.size ≤ 20000 ∧ ∃ rs', RowsR s 0 rs' b ∧ rs = if b = none then rs' else [])
theorem RowsRes.one {s : ByteArray} {rs rs' : List Rw} {b b' : Option (Int × Int)} (h : RowsRes s rs b) (h' : RowsRes s rs' b') : rs = rs' ∧ b = b' := by
  rcases h with ⟨x, rfl, rfl⟩ | ⟨x, r, hr, rfl⟩
  · rcases h' with ⟨_, rfl, rfl⟩ | ⟨y, _⟩
    · exact ⟨rfl, rfl⟩
    · omega
  · rcases h' with ⟨y, _⟩ | ⟨_, r', hr', rfl⟩
    · omega
    · obtain ⟨rfl, rfl⟩ := hr.one hr'
      exact ⟨rfl, rfl⟩
/-- A slice of words as a value. -/
def WordsV (w : World) (v : Value) (ws : List Wd) : Prop := ∃ p cap, v = .slice p ws.length cap ∧ SliceP w p cap ws.length 3 (flatW ws)
theorem WordsV.later {w w1 : World} {v : Value} {ws : List Wd} (h : WordsV w v ws) (k : Below w.heap.size w w1) : WordsV w1 v ws := by
  obtain ⟨p, cap, e, hs⟩ := h; exact ⟨p, cap, e, hs.later k⟩
theorem WordsV.grown {w w1 : World} {v : Value} {ws : List Wd} {row : Option Nat} (h : WordsV w v ws) (hg : w.grownBy w1 row) (hne : 0 < ws.length → v.ownBlock ≠ row) : WordsV w1 v ws := by
  obtain ⟨p, cap, rfl, hs⟩ := h
  refine ⟨p, cap, rfl, hs.fit, hs.max, hs.nil, hs.len, fun h0 => ?_⟩
  obtain ⟨b, off, rfl, hb, hc⟩ := hs.at_ h0
  have hk : w1.heap[b]? = w.heap[b]? := hg.block b hb (fun e => hne h0 e)
  exact ⟨b, off, rfl, Nat.lt_of_lt_of_le hb hg.size, fun j u hu => by rw [← hc j u hu]; exact World.cell?_of_block (w := w) (a := ⟨b, off + j, none⟩) hk⟩
theorem WordsV.block {w : World} {v : Value} {ws : List Wd} (h : WordsV w v ws) (h0 : 0 < ws.length) : ∃ b, v.ownBlock = some b ∧ b < w.heap.size := by
  obtain ⟨p, cap, rfl, hs⟩ := h
  obtain ⟨b, off, rfl, hb, _⟩ := hs.at_ h0
  exact ⟨b, rfl, hb⟩
def flatR : List (Int × Value) → List Value
  | [] => []
  | x :: t => .int .i64 x.1 :: x.2 :: flatR t
theorem flatR_len : ∀ l, (flatR l).length = l.length * 2
  | [] => rfl
  | x :: t => by have := flatR_len t; simp only [flatR, List.length_cons]; omega
theorem flatR_app : ∀ l m, flatR (l ++ m) = flatR l ++ flatR m
  | [], _ => rfl
  | x :: t, m => by show flatR (x :: (t ++ m)) = _; simp [flatR, flatR_app t m]
/-- The rows' words lie where the rows say, none of them in block o. -/
def AllR (w : World) (o : Option Nat) : List (Int × Value) → List Rw → Prop
  | [], [] => True
  | x :: xs, r :: rs => (x.1 = r.at_ ∧ WordsV w x.2 r.words ∧ (0 < r.words.length → x.2.ownBlock ≠ o)) ∧ AllR w o xs rs
  | _, _ => False
theorem AllR.mono {w w1 : World} {o o' : Option Nat} (hp : ∀ v ws, WordsV w v ws → (0 < ws.length → v.ownBlock ≠ o) → WordsV w1 v ws ∧ (0 < ws.length → v.ownBlock ≠ o')) :
    ∀ {vs rs}, AllR w o vs rs → AllR w1 o' vs rs
  | [], [], _ => trivial
  | x :: xs, r :: rs, h => by
    obtain ⟨⟨h1, h2, h3⟩, h4⟩ := h
    obtain ⟨k1, k2⟩ := hp _ _ h2 h3
    exact ⟨⟨h1, k1, k2⟩, AllR.mono hp h4⟩
  | [], _ :: _, h => h.elim
  | _ :: _, [], h => h.elim
theorem AllR.later {w w1 : World} {o : Option Nat} {vs rs} (h : AllR w o vs rs) (k : Below w.heap.size w w1) : AllR w1 o vs rs := h.mono fun _ _ a b => ⟨a.later k, b⟩
theorem AllR.grown {w w1 : World} {o : Option Nat} {vs rs} (h : AllR w o vs rs) (k : w.grownBy w1 o) : AllR w1 o vs rs := h.mono fun _ _ a b => ⟨a.grown k b, b⟩
theorem AllR.fresh {w : World} {o : Option Nat} {n : Nat} {vs rs} (h : AllR w o vs rs) (hn : w.heap.size ≤ n) : AllR w (some n) vs rs :=
  h.mono fun _ _ a _ => ⟨a, fun h0 e => by
    obtain ⟨b, e1, e2⟩ := a.block h0
    rw [e1] at e
    simp only [Option.some.injEq] at e
    omega⟩
theorem AllR.len {w : World} {o : Option Nat} : ∀ {vs rs}, AllR w o vs rs → vs.length = rs.length
  | [], [], _ => rfl
  | x :: xs, r :: rs, h => by have := AllR.len h.2; simp [this]
  | [], _ :: _, h => h.elim
  | _ :: _, [], h => h.elim
theorem AllR.app {w : World} {o : Option Nat} {x : Int × Value} {r : Rw} (hx : x.1 = r.at_ ∧ WordsV w x.2 r.words ∧ (0 < r.words.length → x.2.ownBlock ≠ o)) :
    ∀ {vs rs}, AllR w o vs rs → AllR w o (vs ++ [x]) (rs ++ [r])
  | [], [], _ => ⟨hx, trivial⟩
  | _ :: _, _ :: _, h => ⟨h.1, AllR.app hx h.2⟩
  | [], _ :: _, h => h.elim
  | _ :: _, [], h => h.elim
/-- A list of rows that the call owns. -/
def RowsI (w : World) (base : Nat) (v : Value) (rs : List Rw) : Prop := ∃ vs, w.ownsRow base 62 2 v rs.length (flatR vs) ∧ AllR w v.ownBlock vs rs
theorem rowsI_nil (w : World) (base : Nat) : RowsI w base (.slice none 0 0) [] := ⟨[], World.ownsRow_nil _ _ _ _, trivial⟩
theorem RowsI.later {w w1 : World} {base : Nat} {v : Value} {rs : List Rw} (h : RowsI w base v rs) (k : Below w.heap.size w w1) : RowsI w1 base v rs := by
  obtain ⟨vs, ho, ha⟩ := h; exact ⟨vs, w_own ho k (Nat.le_refl _), ha.later k⟩
theorem RowsI.more {w2 w3 : World} {base : Nat} {v v' vw : Value} {vs : List (Int × Value)} {rs : List Rw} {a : Int} {ws : List Wd} (hall : AllR w2 v.ownBlock vs rs)
    (hw : WordsV w2 vw ws) (hne : 0 < ws.length → vw.ownBlock ≠ v.ownBlock) (hown : w3.ownsRow base 62 2 v' (rs.length + 1) (flatR vs ++ flatR [(a, vw)]))
    (hg : w2.grownBy w3 v.ownBlock) (hat : v'.ownBlock = v.ownBlock ∨ v'.ownBlock = some w2.heap.size) : RowsI w3 base v' (rs ++ [⟨a, ws⟩]) := by
  refine ⟨vs ++ [(a, vw)], by rw [flatR_app, List.length_append]; exact hown, ?_⟩
  have h2 : AllR w2 v.ownBlock (vs ++ [(a, vw)]) (rs ++ [⟨a, ws⟩]) := hall.app ⟨rfl, hw, hne⟩
  have h3 := h2.grown hg
  rcases hat with e | e
  · rw [e]; exact h3
  · rw [e]
    exact (AllR.mono (w := w2) (o := v.ownBlock) (o' := some w2.heap.size) (w1 := w3) (fun vv ww x y => ⟨x.grown hg y, fun h0 e => by
      obtain ⟨b, e1, e2⟩ := x.block h0
      rw [e1] at e
      simp only [Option.some.injEq] at e
      omega⟩) h2)
/-- A list of rows as a value, to be read. -/
def RowsV (w : World) (v : Value) (rs : List Rw) : Prop := ∃ p cap vs o, v = .slice p rs.length cap ∧ SliceP w p cap rs.length 2 (flatR vs) ∧ AllR w o vs rs
theorem RowsV.later {w w1 : World} {v : Value} {rs : List Rw} (h : RowsV w v rs) (k : Below w.heap.size w w1) : RowsV w1 v rs := by
  obtain ⟨p, cap, vs, o, e, hs, ha⟩ := h; exact ⟨p, cap, vs, o, e, hs.later k, ha.later k⟩
theorem RowsI.val {w : World} {base : Nat} {v : Value} {rs : List Rw} (h : RowsI w base v rs) : RowsV w v rs := by
  obtain ⟨vs, ho, ha⟩ := h
  obtain ⟨p, cap, e, hs⟩ := slice_of_own ho
  exact ⟨p, cap, vs, _, e, hs, ha⟩
/-- Every cell reads as it did. -/
structure Keeps (w w1 : World) : Prop where
  size : w.heap.size ≤ w1.heap.size
  cell : ∀ a v, w.cell? a = some v → w1.cell? a = some v
theorem SliceP.keeps {w w1 : World} {p : Option Addr} {cap n size : Nat} {xs : List Value} (h : SliceP w p cap n size xs) (k : Keeps w w1) : SliceP w1 p cap n size xs :=
  ⟨h.fit, h.max, h.nil, h.len, fun h0 => by
    obtain ⟨b, off, e, hb, hc⟩ := h.at_ h0
    exact ⟨b, off, e, Nat.lt_of_lt_of_le hb k.size, fun j u hu => k.cell _ _ (hc j u hu)⟩⟩
theorem WordsV.keeps {w w1 : World} {v : Value} {ws : List Wd} (h : WordsV w v ws) (k : Keeps w w1) : WordsV w1 v ws := by
  obtain ⟨p, cap, e, hs⟩ := h; exact ⟨p, cap, e, hs.keeps k⟩
theorem RowsV.keeps {w w1 : World} {v : Value} {rs : List Rw} (h : RowsV w v rs) (k : Keeps w w1) : RowsV w1 v rs := by
  obtain ⟨p, cap, vs, o, e, hs, ha⟩ := h; exact ⟨p, cap, vs, o, e, hs.keeps k, ha.mono fun _ _ a b => ⟨a.keeps k, b⟩⟩
end Go.Proofs.YtdmedealdhadcaaGreatDoor

namespace Go.Proofs.YtdmedealdhadcaaGreatDoor
open Go.RowKit
def fE : Option (Int × Int) → Int
  | none => 0
  | some x => x.1
def fA : Option (Int × Int) → Int
  | none => 0
  | some x => x.2
/-- What Rows hands back. -/
def RowsPost (s : ByteArray) (w : World) (e : Ending) (w' : World) : Prop :=
  ∃ rs b v, RowsRes s rs b ∧ Below w.heap.size w w' ∧ e = .returned (.tuple #[v, .agg #[.int .i64 (fE b), .int .i64 (fA b)]]) ∧ RowsV w' v rs
structure RowsInv (s : ByteArray) (w wr : World) (i : Nat) (acc : List Rw) (v : Value) : Prop where
  rows : RowsI wr (w.heap.size + 1) v acc
  bel : Below (w.heap.size + 1) (w.alloc (.cells #[.int .i64 0, .int .i64 0] 43)) wr
  ok : ∀ rs b, RowsR s i rs b → RowsR s 0 (acc ++ rs) b
theorem rowsV_nil (w : World) : RowsV w (.slice none 0 0) [] := (rowsI_nil w 0).val
/-- Two cells of the call's own: the fault. -/
structure Cell2 (w : World) (b : Nat) (n d : Int) : Prop where
  inb : b < w.heap.size
  c0 : w.cell? ⟨b, 0, none⟩ = some (.int .i64 n)
  c1 : w.cell? ⟨b, 1, none⟩ = some (.int .i64 d)
  f0 : w.frozen? ⟨b, 0, none⟩ = false
  f1 : w.frozen? ⟨b, 1, none⟩ = false
theorem Cell2.made (w : World) (n d : Int) (t : TypeId) : Cell2 (w.alloc (.cells #[.int .i64 n, .int .i64 d] t)) w.heap.size n d := ⟨by simp, by go_simp, by go_simp, by go_simp, by go_simp⟩
theorem Cell2.below {w w1 : World} {b B : Nat} {n d : Int} (h : Cell2 w b n d) (k : Below B w w1) (hB : b < B) : Cell2 w1 b n d :=
  ⟨Nat.lt_of_lt_of_le h.inb k.size, by rw [← h.c0]; exact k.cell (p := ⟨b, 0, none⟩) hB, by rw [← h.c1]; exact k.cell (p := ⟨b, 1, none⟩) hB, by rw [← h.f0]; exact k.frozen (p := ⟨b, 0, none⟩) hB, by rw [← h.f1]; exact k.frozen (p := ⟨b, 1, none⟩) hB⟩
theorem Cell2.keeps {w : World} {b : Nat} {n d : Int} (h : Cell2 w b n d) : Keeps w ((w.setCell ⟨b, 0, none⟩ (.int .i64 n)).setCell ⟨b, 1, none⟩ (.int .i64 d)) := by
  have one : ∀ (x : World) (p a : Addr) (u v : Value), x.cell? p = some u → x.cell? a = some v → (x.setCell p u).cell? a = some v := fun x p a u v h1 h2 => by
    by_cases e : a = p
    · subst e
      rw [h1] at h2; cases h2
      exact World.cell?_setCell_same _ _ _ h1
    · rw [World.cell?_setCell_other _ _ _ _ (fun x => e x.symm)]; exact h2
  refine ⟨by simp, fun a v ha => ?_⟩
  exact one _ _ _ _ _ (one _ _ _ _ _ h.c0 h.c1) (one _ _ _ _ _ h.c0 ha)
theorem RowsInv.fault {s : ByteArray} {w wr : World} {i : Nat} {acc : List Rw} {v : Value} (h : RowsInv s w wr i acc v) : Cell2 wr w.heap.size 0 0 := (Cell2.made w 0 0 43).below h.bel (by omega)
theorem RowsInv.all {s : ByteArray} {w wr : World} {i : Nat} {acc : List Rw} {v : Value} (h : RowsInv s w wr i acc v) : Below w.heap.size w wr :=
  (w_alloc (w_refl w) _).trans (h.bel.mono (by omega))
/-- A fault at the end. -/
theorem RowsInv.bad {s : ByteArray} {w wr w2 : World} {i : Nat} {acc : List Rw} {v : Value} {x : Int × Int} (h : RowsInv s w wr i acc v) (hs : s.size ≤ 20000) (hr : RowsR s i [] (some x)) (hb : Below w.heap.size w w2) :
    RowsPost s w (.returned (.tuple #[.slice none 0 0, .agg #[.int .i64 x.1, .int .i64 x.2]])) w2 :=
  ⟨[], some x, _, .inr ⟨hs, acc ++ [], h.ok [] (some x) hr, rfl⟩, hb, rfl, rowsV_nil w2⟩
theorem RowsInv.done {s : ByteArray} {w wr w2 : World} {i : Nat} {acc : List Rw} {v : Value} (h : RowsInv s w wr i acc v) (hs : s.size ≤ 20000) (hi : s.size < i) (hb : Below w.heap.size w w2) (hv : RowsV w2 v acc) :
    RowsPost s w (.returned (.tuple #[v, .agg #[.int .i64 0, .int .i64 0]])) w2 :=
  ⟨acc, none, _, .inr ⟨hs, acc ++ [], h.ok [] none (.stop hi), by simp⟩, hb, rfl, hv⟩
theorem RowsInv.skip {s : ByteArray} {w wr w1 : World} {i t : Nat} {acc : List Rw} {v : Value} (h : RowsInv s w wr i acc v) (hl : LineAt s i t) (hs : t - i ≤ 1000) (hc : Cuts (s.extract i t) i 0 [] none) (hb : Below wr.heap.size wr w1) :
    RowsInv s w w1 (t + 1) acc v :=
  ⟨h.rows.later hb, h.bel.trans (hb.mono (by have := h.bel.size; simp at this; omega)), fun rs b r => h.ok rs b (.skip hl hs hc r)⟩
theorem new_row (w : World) (a : Int) (v : Value) (ty : TypeId) : ∀ j u, (flatR [(a, v)])[j]? = some u → (w.alloc (.cells #[.int .i64 a, v] ty)).cell? ((⟨w.heap.size, 0, none⟩ : Addr).add j) = some u := by
  intro j u hu
  rw [w_addr]
  match j, hu with
  | 0, hu => simp [flatR] at hu; subst hu; simp [go_sem]
  | 1, hu => simp [flatR] at hu; subst hu; simp [go_sem]
  | j + 2, hu => simp [flatR] at hu
theorem row_one (a : Int) (p : Option Addr) (n c : Nat) : ∀ u ∈ flatR [(a, .slice p n c)], u.oneCell' = true := by
  intro u hu
  simp only [flatR, List.mem_cons, List.not_mem_nil, or_false] at hu
  rcases hu with rfl | rfl
  · rfl
  · rfl
end Go.Proofs.YtdmedealdhadcaaGreatDoor

namespace Go.Proofs.YtdmedealdhadcaaGreatDoor
open Go.RowKit
/-- Can a word be written? -/
def okW (x : Wd) : Bool := if x.quoted = true then x.text.data.toList.all (fun c => insideI c.toNat) else (x.text.data.toList.all (fun c => plainI c.toNat) && decide (0 < x.text.size))
def writtenB (x : Wd) : ByteArray := if x.quoted = true then (⟨#[34]⟩ : ByteArray) ++ x.text ++ ⟨#[34]⟩ else x.text
def wv (x : Wd) : Value := .agg #[.int .i64 x.at_, .string x.text, .bool x.quoted]
end Go.Proofs.YtdmedealdhadcaaGreatDoor
