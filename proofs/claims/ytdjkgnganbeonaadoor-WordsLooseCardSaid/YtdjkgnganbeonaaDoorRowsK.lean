/- A list of rows that a call builds: where its words lie, and how it lasts. -/
import Derived.Test.YtdjkgnganbeonaaDoorCount
namespace Go.Proofs.YtdjkgnganbeonaaDoor
open Go.RowKit

/-- The rows' words lie where the rows say, each list of them in a block that is ok. -/
def AllP (W : World) (ok : Nat → Prop) : List (Int × Value) → List Rw → Prop
  | [], [] => True
  | x :: xs, r :: rs => (x.1 = r.at_ ∧ WordsV W x.2 r.words ∧ (0 < r.words.length → ∃ b, x.2.ownBlock = some b ∧ ok b)) ∧ AllP W ok xs rs
  | _, _ => False
theorem AllP.mono {W W1 : World} {ok ok' : Nat → Prop} (hp : ∀ v ws, WordsV W v ws → (0 < ws.length → ∃ b, v.ownBlock = some b ∧ ok b) → WordsV W1 v ws ∧ (0 < ws.length → ∃ b, v.ownBlock = some b ∧ ok' b)) :
    ∀ {vs rs}, AllP W ok vs rs → AllP W1 ok' vs rs
  | [], [], _ => trivial
  | x :: xs, r :: rs, h => by
    obtain ⟨⟨h1, h2, h3⟩, h4⟩ := h
    obtain ⟨k1, k2⟩ := hp _ _ h2 h3
    exact ⟨⟨h1, k1, k2⟩, AllP.mono hp h4⟩
  | [], _ :: _, h => h.elim
  | _ :: _, [], h => h.elim
theorem AllP.app {W : World} {ok : Nat → Prop} {x : Int × Value} {r : Rw} (hx : x.1 = r.at_ ∧ WordsV W x.2 r.words ∧ (0 < r.words.length → ∃ b, x.2.ownBlock = some b ∧ ok b)) :
    ∀ {vs rs}, AllP W ok vs rs → AllP W ok (vs ++ [x]) (rs ++ [r])
  | [], [], _ => ⟨hx, trivial⟩
  | _ :: _, _ :: _, h => ⟨h.1, AllP.app hx h.2⟩
  | [], _ :: _, h => h.elim
  | _ :: _, [], h => h.elim
theorem AllP.all {W : World} {ok : Nat → Prop} : ∀ {vs rs}, AllP W ok vs rs → AllR W none vs rs
  | [], [], _ => trivial
  | x :: xs, r :: rs, h => ⟨⟨h.1.1, h.1.2.1, fun h0 => by obtain ⟨b, e, _⟩ := h.1.2.2 h0; rw [e]; simp⟩, AllP.all h.2⟩
  | [], _ :: _, h => h.elim
  | _ :: _, [], h => h.elim

theorem WordsV.turn {n₀ B : Nat} {W W1 : World} {v : Value} {ws : List Wd} (h : WordsV W v ws) (ht : Turn n₀ B W W1) (hb : 0 < ws.length → v.ownBlock ≠ some B) : WordsV W1 v ws := by
  obtain ⟨p, cap, rfl, hs⟩ := h
  refine ⟨p, cap, rfl, hs.fit, hs.max, hs.nil, hs.len, fun h0 => ?_⟩
  obtain ⟨b, off, rfl, hbl, hc⟩ := hs.at_ h0
  have hne : b ≠ B := fun e => hb h0 (by rw [e]; rfl)
  exact ⟨b, off, rfl, Nat.lt_of_lt_of_le hbl ht.size, fun j u hu => ht.cell (hc j u hu) hne⟩
theorem WordsV.grownP {W W1 : World} {v : Value} {ws : List Wd} {row : Option Nat} (h : WordsV W v ws) (hg : W.grownBy W1 row) (hb : 0 < ws.length → v.ownBlock ≠ row) : WordsV W1 v ws := h.grown hg hb

/-- A list of rows of the call's own: its row from block base on, its words from block m on. -/
def RowsK (W : World) (base m : Nat) (v : Value) (rs : List Rw) : Prop :=
  ∃ vs, W.ownsRow base 44 2 v rs.length (flatR vs) ∧ AllP W (fun b => m ≤ b ∧ v.ownBlock ≠ some b) vs rs

theorem RowsK.turn {n₀ B base m : Nat} {W W1 : World} {v : Value} {rs : List Rw} (h : RowsK W base m v rs) (ht : Turn n₀ B W W1) (hv : v.ownBlock ≠ some B) (hm : B < m) : RowsK W1 base m v rs := by
  obtain ⟨vs, ho, ha⟩ := h
  exact ⟨vs, ht.own ho hv, ha.mono fun _ _ a b => ⟨a.turn ht fun h0 e => by obtain ⟨q, e1, e2, _⟩ := b h0; rw [e1] at e; simp only [Option.some.injEq] at e; omega, b⟩⟩
theorem RowsK.grown {base m r : Nat} {W W1 : World} {v : Value} {rs : List Rw} (h : RowsK W base m v rs) (hg : W.grownBy W1 (some r)) (hv : v.ownBlock ≠ some r) (hm : r < m) : RowsK W1 base m v rs := by
  obtain ⟨vs, ho, ha⟩ := h
  exact ⟨vs, ho.kept hg (.inr hv), ha.mono fun _ _ a b => ⟨a.grown hg fun h0 e => by obtain ⟨q, e1, e2, _⟩ := b h0; rw [e1] at e; simp only [Option.some.injEq] at e; omega, b⟩⟩
theorem RowsK.later {base m : Nat} {W W1 : World} {v : Value} {rs : List Rw} (h : RowsK W base m v rs) (k : Below W.heap.size W W1) : RowsK W1 base m v rs := by
  obtain ⟨vs, ho, ha⟩ := h
  exact ⟨vs, w_own ho k (Nat.le_refl _), ha.mono fun _ _ a b => ⟨a.later k, b⟩⟩
theorem RowsK.lt {base m : Nat} {W : World} {v : Value} {rs : List Rw} (h : RowsK W base m v rs) : ∀ k, v.ownBlock = some k → base ≤ k ∧ k < W.heap.size := by
  obtain ⟨vs, ho, ha⟩ := h; exact ho.lt
theorem RowsK.val {base m : Nat} {W : World} {v : Value} {rs : List Rw} (h : RowsK W base m v rs) : RowsV W v rs := by
  obtain ⟨vs, ho, ha⟩ := h
  obtain ⟨p, cap, e, hs⟩ := slice_of_own ho
  exact ⟨p, cap, vs, none, e, hs, ha.all⟩
/-- One row more. -/
theorem RowsK.more {base m : Nat} {W2 W3 : World} {v v' vw : Value} {rs : List Rw} {a : Int} {ws : List Wd} {vs : List (Int × Value)} (ha : AllP W2 (fun b => m ≤ b ∧ v.ownBlock ≠ some b) vs rs)
    (hw : WordsV W2 vw ws) (hb : 0 < ws.length → ∃ b, vw.ownBlock = some b ∧ m ≤ b ∧ b < W2.heap.size ∧ v.ownBlock ≠ some b)
    (hown : W3.ownsRow base 44 2 v' (rs.length + 1) (flatR vs ++ flatR [(a, vw)])) (hg : W2.grownBy W3 v.ownBlock) (hat : v'.ownBlock = v.ownBlock ∨ v'.ownBlock = some W2.heap.size) : RowsK W3 base m v' (rs ++ [⟨a, ws⟩]) := by
  refine ⟨vs ++ [(a, vw)], by rw [flatR_app, List.length_append]; exact hown, ?_⟩
  have h2 : AllP W2 (fun b => m ≤ b ∧ v.ownBlock ≠ some b) (vs ++ [(a, vw)]) (rs ++ [⟨a, ws⟩]) :=
    ha.app ⟨rfl, hw, fun h0 => by obtain ⟨b, e1, e2, _, e4⟩ := hb h0; exact ⟨b, e1, e2, e4⟩⟩
  refine h2.mono fun vv ww x y => ⟨x.grown hg fun h0 e => ?_, fun h0 => ?_⟩
  · obtain ⟨b, e1, _, e3⟩ := y h0
    rw [e1] at e; exact e3 e.symm
  · obtain ⟨b, e1, e2, e3⟩ := y h0
    refine ⟨b, e1, e2, ?_⟩
    rcases hat with e | e
    · rw [e]; exact e3
    · rw [e]
      obtain ⟨b', f1, f2⟩ := x.block h0
      rw [e1] at f1
      simp only [Option.some.injEq] at f1
      simp only [ne_eq, Option.some.injEq]; omega

theorem keeps_below {W W1 : World} (h : Below W.heap.size W W1) : KeepsOthers W W1 := ⟨h.size, fun k _ hk _ => (h.block k (Array.getElem?_eq_some_iff.1 hk).1).trans hk⟩

end Go.Proofs.YtdjkgnganbeonaaDoor
