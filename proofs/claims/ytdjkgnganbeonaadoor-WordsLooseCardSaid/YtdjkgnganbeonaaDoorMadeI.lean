/- The rows that the statements make of numbers: what holds along the way. -/
import Derived.Test.YtdjkgnganbeonaaDoorInt2
import Derived.Test.YtdjkgnganbeonaaDoorBkSize
import Derived.Test.YtdjkgnganbeonaaDoorWake
namespace Go.Proofs.YtdjkgnganbeonaaDoor
open Go.RowKit

def txts : List ByteArray := [⟨#[97]⟩, ⟨#[98, 52]⟩, ⟨#[115, 45, 50, 42]⟩, ⟨#[40, 79, 41, 124]⟩, ⟨#[51, 47, 50]⟩, ⟨#[35]⟩, ⟨#[126]⟩, ⟨#[67, 97, 110, 116, 117, 115]⟩, ⟨#[120, 59]⟩, ⟨#[97, 32, 98]⟩, ⟨#[]⟩, ⟨#[92]⟩, ⟨#[125]⟩]
def RowOk (ws : List Wd) : Prop := ws ≠ [] ∧ ws.length ≤ 8 ∧ ws.all okW = true ∧ ∀ x ∈ ws, x.text.size ≤ 6
/-- Rows that are made of numbers. -/
def MadeR (rs : List Rw) : Prop := rs.length ≤ 13 ∧ ∀ r ∈ rs, RowOk r.words

theorem grown_set (W : World) (p : Addr) (v : Value) : W.grownBy (W.setCell p v) (some p.block) :=
  ⟨rfl, rfl, rfl, by simp, fun k _ hk => Below.heap_setCell _ _ _ k (fun e => hk (by rw [e]))⟩

structure MInv (w W : World) (u vr : Value) (acc : List Rw) (ws : List Wd) : Prop where
  tab : ∀ j, j < 13 → W.cell? ⟨w.heap.size, j, none⟩ = some (.string (txts.getD j ⟨#[]⟩))
  r0 : W.cell? ⟨w.heap.size + 1, 0, none⟩ = some (.int .i64 0)
  r1 : W.cell? ⟨w.heap.size + 1, 1, none⟩ = some vr
  f0 : W.frozen? ⟨w.heap.size + 1, 0, none⟩ = false
  f1 : W.frozen? ⟨w.heap.size + 1, 1, none⟩ = false
  row : W.ownsRow (w.heap.size + 1 + 1) 53 3 vr ws.length (flatW ws)
  out : ∃ vs, W.ownsRow (w.heap.size + 1 + 1) 44 2 u acc.length (flatR vs) ∧ AllP W (fun b => w.heap.size + 1 + 1 ≤ b ∧ u.ownBlock ≠ some b ∧ vr.ownBlock ≠ some b) vs acc
  sep : ∀ b, vr.ownBlock = some b → u.ownBlock ≠ some b
  bel : Below w.heap.size w W
  big : w.heap.size + 1 + 1 ≤ W.heap.size
  oka : ∀ r ∈ acc, RowOk r.words
  okr : ws.all okW = true ∧ ∀ x ∈ ws, x.text.size ≤ 6

theorem kept_set {W : World} {b j k : Nat} {u v : Value} (h : W.cell? ⟨b, j, none⟩ = some u) (hj : j ≠ k) : (W.setCell ⟨b, k, none⟩ v).cell? ⟨b, j, none⟩ = some u := by
  rw [World.cell?_setCell_other _ _ _ _ (by intro e; injection e with _ e2 _; exact hj e2.symm)]; exact h

/-- A word more. -/
theorem MInv.word {w W Wa W2 : World} {u vr v' : Value} {acc : List Rw} {ws : List Wd} {x : Wd} (h : MInv w W u vr acc ws) (ha : Below W.heap.size W Wa)
    (hown : W2.ownsRow (w.heap.size + 1 + 1) 53 3 v' (ws.length + 1) (flatW ws ++ flatW [x])) (hg : Wa.grownBy W2 vr.ownBlock) (hat : vr.ownBlock = v'.ownBlock ∨ v'.ownBlock = some Wa.heap.size)
    (hx : okW x = true) (hx6 : x.text.size ≤ 6) : MInv w (W2.setCell ⟨w.heap.size + 1, 1, none⟩ v') u v' acc (ws ++ [x]) := by
  have hs1 := ha.size
  have hs2 := hg.size
  have hbig := h.big
  have hne : ∀ b, b < w.heap.size + 1 + 1 → vr.ownBlock ≠ some b := fun b hb e => by have := (h.row.lt b e).1; omega
  have hne' : ∀ b, b < w.heap.size + 1 + 1 → v'.ownBlock ≠ some b := fun b hb e => by have := (hown.lt b e).1; omega
  have hblk : ∀ b, b < W.heap.size → vr.ownBlock ≠ some b → W2.heap[b]? = W.heap[b]? := fun b hb hv => (hg.block b (by omega) (fun e => hv e.symm)).trans (ha.block b hb)
  have g3 := grown_set W2 ⟨w.heap.size + 1, 1, none⟩ v'
  obtain ⟨vs, ho, hal⟩ := h.out
  have hu : ∀ b, u.ownBlock = some b → w.heap.size + 1 + 1 ≤ b ∧ b < W.heap.size := ho.lt
  have huv : u.ownBlock = none ∨ u.ownBlock ≠ vr.ownBlock := by
    cases e : u.ownBlock with
    | none => exact .inl rfl
    | some b => exact .inr fun e2 => h.sep b e2.symm e
  refine ⟨fun j hj => ?_, ?_, ?_, ?_, ?_, ?_, ⟨vs, ?_, ?_⟩, fun b hb e => ?_, ?_, by simp; omega, h.oka, ?_, fun y hy => ?_⟩
  · rw [World.cell?_of_block (w := W) (a := ⟨w.heap.size, j, none⟩) ((Below.heap_setCell _ _ _ _ (by simp)).trans (hblk _ (by show w.heap.size < _; omega) (hne _ (by show w.heap.size < _; omega))))]
    exact h.tab j hj
  · refine kept_set ?_ (by decide)
    rw [World.cell?_of_block (w := W) (a := ⟨w.heap.size + 1, 0, none⟩) (hblk _ (by show w.heap.size + 1 < _; omega) (hne _ (by show w.heap.size + 1 < _; omega)))]
    exact h.r0
  · refine World.cell?_setCell_same' _ _ _ ?_
    rw [World.cell?_of_block (w := W) (a := ⟨w.heap.size + 1, 1, none⟩) (hblk _ (by show w.heap.size + 1 < _; omega) (hne _ (by show w.heap.size + 1 < _; omega))), h.r1]
    rfl
  · rw [World.frozen?_setCell, World.frozen?_of_block (w := W) (a := ⟨w.heap.size + 1, 0, none⟩) (hblk _ (by show w.heap.size + 1 < _; omega) (hne _ (by show w.heap.size + 1 < _; omega)))]
    exact h.f0
  · rw [World.frozen?_setCell, World.frozen?_of_block (w := W) (a := ⟨w.heap.size + 1, 1, none⟩) (hblk _ (by show w.heap.size + 1 < _; omega) (hne _ (by show w.heap.size + 1 < _; omega)))]
    exact h.f1
  · rw [List.length_append, flatW_app]
    exact hown.kept g3 (.inr (hne' _ (by show w.heap.size + 1 < _; omega)))
  · exact ((w_own ho ha (Nat.le_refl _)).kept hg huv).kept g3 (.inr fun e => by have := (hu _ e).1; change _ ≤ w.heap.size + 1 at this; omega)
  · refine hal.mono fun vv ww x y => ⟨((x.later ha).grown hg fun h0 e => ?_).grown g3 fun h0 e => ?_, fun h0 => ?_⟩
    · obtain ⟨b, e1, _, _, e4⟩ := y h0
      rw [e1] at e; exact e4 e.symm
    · obtain ⟨b, e1, e2, _⟩ := y h0
      rw [e1] at e
      simp only [Option.some.injEq] at e
      omega
    · obtain ⟨b, e1, e2, e3, e4⟩ := y h0
      refine ⟨b, e1, e2, e3, fun e => ?_⟩
      rcases hat with k | k
      · rw [← k] at e; exact e4 e
      · rw [k] at e
        obtain ⟨b', f1, f2⟩ := x.block h0
        rw [e1] at f1
        simp only [Option.some.injEq] at f1 e
        omega
  · rcases hat with k | k
    · rw [← k] at hb; exact h.sep b hb e
    · rw [k] at hb
      have := (hu b e).2
      simp only [Option.some.injEq] at hb
      omega
  · exact w_set ((w_below h.bel ha).grown hg (by have := h.bel.size; omega) fun k e => by have := (h.row.lt k e).1; omega) (by show w.heap.size ≤ w.heap.size + 1; omega) _
  · rw [List.all_append, h.okr.1]; simp [hx]
  · rcases List.mem_append.1 hy with hy | hy
    · exact h.okr.2 y hy
    · rw [List.mem_singleton] at hy; rw [hy]; exact hx6

/-- A row more, as it is appended. -/
theorem MInv.push {w W Wa W4 : World} {u vr u' : Value} {acc : List Rw} {ws : List Wd} {vs : List (Int × Value)} (h : MInv w W u vr acc ws) (hw : ws ≠ []) (hl : ws.length ≤ 8)
    (ho : W.ownsRow (w.heap.size + 1 + 1) 44 2 u acc.length (flatR vs)) (hal : AllP W (fun b => w.heap.size + 1 + 1 ≤ b ∧ u.ownBlock ≠ some b ∧ vr.ownBlock ≠ some b) vs acc) (ha : Below W.heap.size W Wa)
    (hown : W4.ownsRow (w.heap.size + 1 + 1) 44 2 u' (acc.length + 1) (flatR vs ++ flatR [(0, vr)])) (hg : Wa.grownBy W4 u.ownBlock) (hat : u.ownBlock = u'.ownBlock ∨ u'.ownBlock = some Wa.heap.size) :
    RowsV W4 u' (acc ++ [⟨0, ws⟩]) ∧ Below w.heap.size w W4 ∧
      MInv w ((W4.setCell ⟨w.heap.size + 1, 0, none⟩ (.int .i64 0)).setCell ⟨w.heap.size + 1, 1, none⟩ (.slice none 0 0)) u' (.slice none 0 0) (acc ++ [⟨0, ws⟩]) [] := by
  have hs1 := ha.size
  have hs2 := hg.size
  have hbig := h.big
  have hu : ∀ b, u.ownBlock = some b → w.heap.size + 1 + 1 ≤ b ∧ b < W.heap.size := ho.lt
  have hne : ∀ b, b < w.heap.size + 1 + 1 → u.ownBlock ≠ some b := fun b hb e => by have := (hu b e).1; omega
  have hne' : ∀ b, b < w.heap.size + 1 + 1 → u'.ownBlock ≠ some b := fun b hb e => by have := (hown.lt b e).1; omega
  have hblk : ∀ b, b < W.heap.size → u.ownBlock ≠ some b → W4.heap[b]? = W.heap[b]? := fun b hb hv => (hg.block b (by omega) (fun e => hv e.symm)).trans (ha.block b hb)
  have hrl : 0 < ws.length := List.length_pos_iff.2 hw
  obtain ⟨p, cap, ev, hsl⟩ := slice_of_own h.row
  have hwv : WordsV W vr ws := ⟨p, cap, ev, hsl⟩
  obtain ⟨bv, hbv, hbvl⟩ := hwv.block hrl
  have hall : AllP W4 (fun b => w.heap.size + 1 + 1 ≤ b ∧ u'.ownBlock ≠ some b) (vs ++ [(0, vr)]) (acc ++ [⟨0, ws⟩]) := by
    have h1 : AllP W (fun b => w.heap.size + 1 + 1 ≤ b ∧ u.ownBlock ≠ some b) (vs ++ [(0, vr)]) (acc ++ [⟨0, ws⟩]) :=
      (hal.mono fun _ _ x y => ⟨x, fun h0 => by obtain ⟨b, e1, e2, e3, _⟩ := y h0; exact ⟨b, e1, e2, e3⟩⟩).app ⟨rfl, hwv, fun _ => ⟨bv, hbv, (h.row.lt bv hbv).1, h.sep bv hbv⟩⟩
    refine h1.mono fun vv ww x y => ⟨(x.later ha).grown hg fun h0 e => ?_, fun h0 => ?_⟩
    · obtain ⟨b, e1, _, e3⟩ := y h0
      rw [e1] at e; exact e3 e.symm
    · obtain ⟨b, e1, e2, e3⟩ := y h0
      refine ⟨b, e1, e2, fun e => ?_⟩
      rcases hat with k | k
      · rw [← k] at e; exact e3 e
      · rw [k] at e
        obtain ⟨b', f1, f2⟩ := x.block h0
        rw [e1] at f1
        simp only [Option.some.injEq] at f1 e
        omega
  have hown2 : W4.ownsRow (w.heap.size + 1 + 1) 44 2 u' (acc ++ [(⟨0, ws⟩ : Rw)]).length (flatR (vs ++ [(0, vr)])) := by rw [List.length_append, flatR_app]; exact hown
  have hbel : Below w.heap.size w W4 := (w_below h.bel ha).grown hg (by have := h.bel.size; omega) fun k e => by have := (hu k e).1; omega
  refine ⟨?_, hbel, ?_⟩
  · obtain ⟨p, cap, e, hs⟩ := slice_of_own hown2
    exact ⟨p, cap, _, none, e, hs, hall.all⟩
  · have g3 := grown_set W4 ⟨w.heap.size + 1, 0, none⟩ (.int .i64 0)
    have g4 := grown_set (W4.setCell ⟨w.heap.size + 1, 0, none⟩ (.int .i64 0)) ⟨w.heap.size + 1, 1, none⟩ (.slice none 0 0)
    have c0 : W4.cell? ⟨w.heap.size + 1, 0, none⟩ = some (.int .i64 0) := by
      rw [World.cell?_of_block (w := W) (a := ⟨w.heap.size + 1, 0, none⟩) (hblk _ (by show w.heap.size + 1 < _; omega) (hne _ (by show w.heap.size + 1 < _; omega)))]
      exact h.r0
    have c1 : W4.cell? ⟨w.heap.size + 1, 1, none⟩ = some vr := by
      rw [World.cell?_of_block (w := W) (a := ⟨w.heap.size + 1, 1, none⟩) (hblk _ (by show w.heap.size + 1 < _; omega) (hne _ (by show w.heap.size + 1 < _; omega)))]
      exact h.r1
    refine ⟨fun j hj => ?_, ?_, ?_, ?_, ?_, World.ownsRow_nil _ _ _ _, ⟨vs ++ [(0, vr)], ?_, ?_⟩, fun b hb => (by cases hb), ?_, by simp; omega, fun r hr => ?_, rfl, by simp⟩
    · rw [World.cell?_of_block (w := W) (a := ⟨w.heap.size, j, none⟩) ((Below.heap_setCell _ _ _ _ (by simp)).trans ((Below.heap_setCell _ _ _ _ (by simp)).trans (hblk _ (by show w.heap.size < _; omega) (hne _ (by show w.heap.size < _; omega)))))]
      exact h.tab j hj
    · exact kept_set (World.cell?_setCell_same' _ _ _ (by rw [c0]; rfl)) (by decide)
    · exact World.cell?_setCell_same' _ _ _ (by rw [kept_set c1 (by decide)]; rfl)
    · rw [World.frozen?_setCell, World.frozen?_setCell, World.frozen?_of_block (w := W) (a := ⟨w.heap.size + 1, 0, none⟩) (hblk _ (by show w.heap.size + 1 < _; omega) (hne _ (by show w.heap.size + 1 < _; omega)))]
      exact h.f0
    · rw [World.frozen?_setCell, World.frozen?_setCell, World.frozen?_of_block (w := W) (a := ⟨w.heap.size + 1, 1, none⟩) (hblk _ (by show w.heap.size + 1 < _; omega) (hne _ (by show w.heap.size + 1 < _; omega)))]
      exact h.f1
    · exact (hown2.kept g3 (.inr (hne' _ (by show w.heap.size + 1 < _; omega)))).kept g4 (.inr (hne' _ (by show w.heap.size + 1 < _; omega)))
    · refine hall.mono fun vv ww x y => ⟨(x.grown g3 fun h0 e => ?_).grown g4 fun h0 e => ?_, fun h0 => ?_⟩
      · obtain ⟨b, e1, e2, _⟩ := y h0
        rw [e1] at e
        simp only [Option.some.injEq] at e
        omega
      · obtain ⟨b, e1, e2, _⟩ := y h0
        rw [e1] at e
        simp only [Option.some.injEq] at e
        omega
      · obtain ⟨b, e1, e2, e3⟩ := y h0
        exact ⟨b, e1, e2, e3, by simp [Value.ownBlock]⟩
    · exact w_set (w_set hbel (by show w.heap.size ≤ w.heap.size + 1; omega) _) (by show w.heap.size ≤ w.heap.size + 1; omega) _
    · rcases List.mem_append.1 hr with hr | hr
      · exact h.oka r hr
      · rw [List.mem_singleton] at hr; subst hr
        exact ⟨hw, hl, h.okr.1, h.okr.2⟩

/-- The cells of the row's variable, behind an append. -/
theorem MInv.room {w W Wa W2 : World} {u vr : Value} {acc : List Rw} {ws : List Wd} (h : MInv w W u vr acc ws) (ha : Below W.heap.size W Wa) (hg : Wa.grownBy W2 vr.ownBlock) :
    W2.cell? ⟨w.heap.size + 1, 1, none⟩ = some vr ∧ W2.frozen? ⟨w.heap.size + 1, 1, none⟩ = false := by
  have hs1 := ha.size
  have hbig := h.big
  have hne : vr.ownBlock ≠ some (w.heap.size + 1) := fun e => by have := (h.row.lt _ e).1; omega
  have hb : W2.heap[w.heap.size + 1]? = W.heap[w.heap.size + 1]? := (hg.block _ (by omega) (fun e => hne e.symm)).trans (ha.block _ (by omega))
  exact ⟨(World.cell?_of_block (w := W) (a := ⟨w.heap.size + 1, 1, none⟩) hb).trans h.r1, (World.frozen?_of_block (w := W) (a := ⟨w.heap.size + 1, 1, none⟩) hb).trans h.f1⟩
theorem MInv.room2 {w W Wa W4 : World} {u vr : Value} {acc : List Rw} {ws : List Wd} (h : MInv w W u vr acc ws) (ha : Below W.heap.size W Wa) (hg : Wa.grownBy W4 u.ownBlock) :
    W4.cell? ⟨w.heap.size + 1, 0, none⟩ = some (.int .i64 0) ∧ W4.frozen? ⟨w.heap.size + 1, 0, none⟩ = false ∧ W4.cell? ⟨w.heap.size + 1, 1, none⟩ = some vr ∧ W4.frozen? ⟨w.heap.size + 1, 1, none⟩ = false := by
  have hs1 := ha.size
  have hbig := h.big
  obtain ⟨vs, ho, _⟩ := h.out
  have hne : u.ownBlock ≠ some (w.heap.size + 1) := fun e => by have := (ho.lt _ e).1; omega
  have hb : W4.heap[w.heap.size + 1]? = W.heap[w.heap.size + 1]? := (hg.block _ (by omega) (fun e => hne e.symm)).trans (ha.block _ (by omega))
  exact ⟨(World.cell?_of_block (w := W) (a := ⟨w.heap.size + 1, 0, none⟩) hb).trans h.r0, (World.frozen?_of_block (w := W) (a := ⟨w.heap.size + 1, 0, none⟩) hb).trans h.f0,
    (World.cell?_of_block (w := W) (a := ⟨w.heap.size + 1, 1, none⟩) hb).trans h.r1, (World.frozen?_of_block (w := W) (a := ⟨w.heap.size + 1, 1, none⟩) hb).trans h.f1⟩

/-- What the rows that have been appended are. -/
theorem MInv.val {w W : World} {u vr : Value} {acc : List Rw} {ws : List Wd} (h : MInv w W u vr acc ws) : RowsV W u acc := by
  obtain ⟨vs, ho, ha⟩ := h.out
  obtain ⟨p, cap, e, hs⟩ := slice_of_own ho
  exact ⟨p, cap, vs, none, e, hs, ha.all⟩

theorem MInv.start (w : World) (ty : TypeId) : MInv w ((w.alloc (.cells (txts.map Value.string).toArray ty)).alloc (.cells #[.int .i64 0, .slice none 0 0] 44)) (.slice none 0 0) (.slice none 0 0) [] [] := by
  have hsz : ((w.alloc (.cells (txts.map Value.string).toArray ty)).alloc (.cells #[.int .i64 0, .slice none 0 0] 44)).heap.size = w.heap.size + 1 + 1 := by simp
  refine ⟨fun j hj => ?_, by go_simp, by go_simp, by go_simp, by go_simp, World.ownsRow_nil _ _ _ _, ⟨[], World.ownsRow_nil _ _ _ _, trivial⟩, fun b hb => (by cases hb), w_alloc (w_alloc (w_refl w) _) _, by omega, by simp, rfl, by simp⟩
  refine ka ?_ _
  rw [lit_cells, List.getElem?_map]
  have hj' : j < txts.length := hj
  rw [List.getD, List.getElem?_eq_getElem hj']
  rfl

end Go.Proofs.YtdjkgnganbeonaaDoor
