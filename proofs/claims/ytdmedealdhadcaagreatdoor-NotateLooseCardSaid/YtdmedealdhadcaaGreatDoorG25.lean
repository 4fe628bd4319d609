/- The program's Rows: the rows of a text, or its first fault, for every text. -/
import Derived.Test.YtdmedealdhadcaaGreatDoorG24
import Derived.Maps.OwnIn

namespace Go.Proofs.YtdmedealdhadcaaGreatDoor
open Go.RowKit Go.Shelf
attribute [local go_sem] Oper.semAt_some
/-- The rows so far, ahead of the line at p. M: the heap's size behind the making of the list. -/
structure RInv (T : ByteArray) (w : World) (M p : Nat) (W : World) : Prop where
  rows : ∃ (acc : List Rw) (v : Value), acc.length ≤ p ∧ Boxed W M 57 v ∧ RowsK W (w.heap.size + 1 + 1) (M + 1 + 1 + 1 + 1 + 1) v acc ∧ (∀ k, v.ownBlock = some k → k < M ∨ M + 1 + 1 + 1 + 1 + 1 ≤ k) ∧ (∃ q n c, v = .slice q n c) ∧ ∀ rs b, RowsR T p rs b → RowsR T 0 (acc ++ rs) b
  at_ : Boxed W (M + 1) 3 (.int .i64 p)
  r2 : W.cell? ⟨w.heap.size, 0, none⟩ = some (.slice none 0 0)
  r2f : W.frozen? ⟨w.heap.size, 0, none⟩ = false
  r3 : Cell2 W (w.heap.size + 1) 0 0
  bel : Below w.heap.size w W
  big : M + 1 + 1 + 1 + 1 + 1 ≤ W.heap.size
/-- A fault has been found. -/
structure RBad (T : ByteArray) (w : World) (W : World) : Prop where
  bad : ∃ (rs : List Rw) (x : Int × Int), RowsR T 0 rs (some x) ∧ W.cell? ⟨w.heap.size, 0, none⟩ = some (.slice none 0 0) ∧ Cell2 W (w.heap.size + 1) x.1 x.2
  bel : Below w.heap.size w W
theorem Boxed.turn {n₀ B b : Nat} {W W1 : World} {t : TypeId} {v : Value} (h : Boxed W b t v) (ht : Turn n₀ B W W1) (hb : b ≠ B) : Boxed W1 b t v := ht.cells b _ h rfl hb
theorem Cell2.turn {n₀ B b : Nat} {W W1 : World} {n d : Int} (h : Cell2 W b n d) (ht : Turn n₀ B W W1) (hb : b ≠ B) : Cell2 W1 b n d :=
  ⟨Nat.lt_of_lt_of_le h.inb ht.size, ht.cell h.c0 hb, ht.cell h.c1 hb, (ht.frozen h.c0 hb).trans h.f0, (ht.frozen h.c1 hb).trans h.f1⟩
theorem RInv.turn {T : ByteArray} {w A C : World} {M n₀ p : Nat} (h : RInv T w M p A) (hM : w.heap.size + 1 + 1 ≤ M) (ht : Turn n₀ (M + 1 + 1) A C) (hn : w.heap.size ≤ n₀) : RInv T w M p C := by
  obtain ⟨⟨acc, v, h1, h2, h3, h4, h5, h6⟩, h7, h8, h9, h10, h11, h12⟩ := h
  exact ⟨⟨acc, v, h1, Boxed.turn h2 ht (by omega), h3.turn ht (fun e => by have := h4 _ e; omega) (by omega), h4, h5, h6⟩, Boxed.turn h7 ht (by omega), ht.cell h8 (by simp; omega), (ht.frozen h8 (by simp; omega)).trans h9, h10.turn ht (by omega), ht.below h11 hn (by omega), Nat.le_trans h12 ht.size⟩
theorem RBad.turn {T : ByteArray} {w A C : World} {M n₀ : Nat} (h : RBad T w A) (hM : w.heap.size + 1 + 1 ≤ M) (ht : Turn n₀ (M + 1 + 1) A C) (hn : w.heap.size ≤ n₀) : RBad T w C := by
  obtain ⟨⟨rs, x, h1, h2, h3⟩, h4⟩ := h
  exact ⟨⟨rs, x, h1, ht.cell h2 (by simp; omega), h3.turn ht (by omega)⟩, ht.below h4 hn (by omega)⟩
theorem Cell2.put {W : World} {b : Nat} {n d n' d' : Int} (h : Cell2 W b n d) : Cell2 ((W.setCell ⟨b, 0, none⟩ (.int .i64 n')).setCell ⟨b, 1, none⟩ (.int .i64 d')) b n' d' := by
  have h1 : (W.setCell ⟨b, 0, none⟩ (.int .i64 n')).cell? ⟨b, 1, none⟩ = some (.int .i64 d) := by rw [World.cell?_setCell_other _ _ _ _ (by simp)]; exact h.c1
  refine ⟨by simp; exact h.inb, ?_, World.cell?_setCell_same' _ _ _ (by rw [h1]; rfl), by rw [World.frozen?_setCell, World.frozen?_setCell]; exact h.f0, by rw [World.frozen?_setCell, World.frozen?_setCell]; exact h.f1⟩
  rw [World.cell?_setCell_other _ _ _ _ (by simp)]
  exact World.cell?_setCell_same' _ _ _ (by rw [h.c0]; rfl)
theorem RInv.later {T : ByteArray} {w A C : World} {M p : Nat} (h : RInv T w M p A) (hM : w.heap.size + 1 + 1 ≤ M) (hb : Below A.heap.size A C) : RInv T w M p C := by
  obtain ⟨⟨acc, v, h1, h2, h3, h4, h5, h6⟩, h7, h8, h9, h10, h11, h12⟩ := h
  exact ⟨⟨acc, v, h1, (hb.block _ (by omega)).trans h2, h3.later hb, h4, h5, h6⟩, (hb.block _ (by omega)).trans h7, (hb.cell (p := ⟨w.heap.size, 0, none⟩) (by show w.heap.size < _; omega)).trans h8, (hb.frozen (p := ⟨w.heap.size, 0, none⟩) (by show w.heap.size < _; omega)).trans h9, h10.below hb (by omega), w_below h11 hb, Nat.le_trans h12 hb.size⟩
/-- A fault is laid down. -/
theorem RInv.bad {T : ByteArray} {w W : World} {M p : Nat} {a b : Int} (h : RInv T w M p W) (hr : RowsR T p [] (some (a, b))) :
    RBad T w (((W.setCell ⟨w.heap.size, 0, none⟩ (.slice none 0 0)).setCell ⟨w.heap.size + 1, 0, none⟩ (.int .i64 a)).setCell ⟨w.heap.size + 1, 1, none⟩ (.int .i64 b)) := by
  obtain ⟨⟨acc, v, h1, h2, h3, h4, h5, h6⟩, h7, h8, h9, h10, h11, h12⟩ := h
  refine ⟨⟨acc ++ [], (a, b), h6 _ _ hr, ?_, ?_⟩, w_set (w_set (w_set h11 (Nat.le_refl _) _) (by simp) _) (by simp) _⟩
  · rw [World.cell?_setCell_other _ _ _ _ (by simp), World.cell?_setCell_other _ _ _ _ (by simp)]
    exact World.cell?_setCell_same' _ _ _ (by rw [h8]; rfl)
  · exact Cell2.put (h10.block (Below.heap_setCell W _ _ _ (by simp)) (by simp))
theorem RBad.drew {T : ByteArray} {w W : World} (h : RBad T w W) : RBad T w W.drew := by
  obtain ⟨⟨rs, x, h1, h2, h3⟩, h4⟩ := h
  exact ⟨⟨rs, x, h1, h2, ⟨h3.inb, h3.c0, h3.c1, h3.f0, h3.f1⟩⟩, h4.drew⟩
theorem Cells3.below {T : ByteArray} {B p : Nat} {W W1 : World} (h : Cells3 T B p W) (k : Below W.heap.size W W1) (hB : B + 1 + 1 < W.heap.size) : Cells3 T B p W1 :=
  ⟨(k.cell (p := ⟨B, 0, none⟩) (by show B < _; omega)).trans h.s, (k.frozen (p := ⟨B, 0, none⟩) (by show B < _; omega)).trans h.free, (k.cell (p := ⟨B + 1, 0, none⟩) (by show B + 1 < _; omega)).trans h.sep, (k.cell (p := ⟨B + 1 + 1, 0, none⟩) (by show B + 1 + 1 < _; omega)).trans h.save⟩
theorem Cells3.grown {T : ByteArray} {B p : Nat} {W W1 : World} {r : Option Nat} (h : Cells3 T B p W) (k : W.grownBy W1 r) (hB : B + 1 + 1 < W.heap.size) (h0 : r ≠ some B) (h1 : r ≠ some (B + 1)) (h2 : r ≠ some (B + 1 + 1)) : Cells3 T B p W1 :=
  ⟨(World.cell?_of_block (w := W) (a := ⟨B, 0, none⟩) (k.block B (by omega) h0.symm)).trans h.s, (World.frozen?_of_block (w := W) (a := ⟨B, 0, none⟩) (k.block B (by omega) h0.symm)).trans h.free,
    (World.cell?_of_block (w := W) (a := ⟨B + 1, 0, none⟩) (k.block (B + 1) (by omega) h1.symm)).trans h.sep, (World.cell?_of_block (w := W) (a := ⟨B + 1 + 1, 0, none⟩) (k.block (B + 1 + 1) (by omega) h2.symm)).trans h.save⟩
/-- The place of the next line is laid down. -/
theorem RInv.step {T : ByteArray} {w W : World} {M p t : Nat} (h : RInv T w M p W) (hM : w.heap.size + 1 + 1 ≤ M) (hpt : p ≤ t) (ho : ∀ rs b, RowsR T (t + 1) rs b → RowsR T p rs b) : RInv T w M (t + 1) (W.setCell ⟨M + 1, 0, none⟩ (.int .i64 ((t + 1 : Nat) : Int))) := by
  obtain ⟨⟨acc, v, h1, h2, h3, h4, h5, h6⟩, h7, h8, h9, h10, h11, h12⟩ := h
  have hg := grownBy_setCell' W (M + 1) (.int .i64 ((t + 1 : Nat) : Int))
  have hne : v.ownBlock ≠ some (M + 1) := fun e => by have := h4 _ e; omega
  exact ⟨⟨acc, v, by omega, h2.kept hg (by simp), h3.grown hg hne (by omega), h4, h5, fun rs b r => h6 _ _ (ho _ _ r)⟩, h7.set _, (World.cell?_of_block (w := W) (a := ⟨w.heap.size, 0, none⟩) (Below.heap_setCell W _ _ _ (by simp; omega))).trans h8,
    (World.frozen?_of_block (w := W) (a := ⟨w.heap.size, 0, none⟩) (Below.heap_setCell W _ _ _ (by simp; omega))).trans h9, h10.block (Below.heap_setCell W _ _ _ (by simp; omega)) (by simp), w_set h11 (by show w.heap.size ≤ M + 1; omega) _, by simp; exact h12⟩
/-- A row is laid down. -/
theorem RInv.row {T : ByteArray} {w W W5 : World} {M p : Nat} {acc : List Rw} {v v' vw : Value} {vs : List (Int × Value)} {ws : List Wd} {a : Int} (hI : RInv T w M p W) (hM : w.heap.size + 1 + 1 ≤ M) (h1 : acc.length ≤ p)
    (h2 : Boxed W M 57 v) (hr : W.ownsRow (w.heap.size + 1 + 1) 62 2 v acc.length (flatR vs)) (h4 : ∀ k, v.ownBlock = some k → k < M ∨ M + 1 + 1 + 1 + 1 + 1 ≤ k) (h6 : ∀ rs b, RowsR T p rs b → RowsR T 0 (acc ++ rs) b)
    (ha : AllP W (fun b => M + 1 + 1 + 1 + 1 + 1 ≤ b ∧ v.ownBlock ≠ some b) vs acc) (hw : WordsV W vw ws) (hb : 0 < ws.length → ∃ b, vw.ownBlock = some b ∧ M + 1 + 1 + 1 + 1 + 1 ≤ b ∧ b < W.heap.size ∧ v.ownBlock ≠ some b)
    (hown : W5.ownsRow (w.heap.size + 1 + 1) 62 2 v' (acc.length + 1) (flatR vs ++ flatR [(a, vw)])) (hg : W.grownBy W5 v.ownBlock) (hat : v'.ownBlock = v.ownBlock ∨ v'.ownBlock = some W.heap.size) :
    Boxed W5 M 57 v ∧ Boxed (W5.setCell ⟨M, 0, none⟩ v') (M + 1) 3 (.int .i64 p) ∧ KeepsOthers W (W5.setCell ⟨M, 0, none⟩ v') ∧ (∀ (t : Nat), p ≤ t → (∀ rs b, RowsR T (t + 1) rs b → RowsR T p (⟨a, ws⟩ :: rs) b) → RInv T w M (t + 1) ((W5.setCell ⟨M, 0, none⟩ v').setCell ⟨M + 1, 0, none⟩ (.int .i64 ((t + 1 : Nat) : Int)))) ∧
      (∀ B p', Cells3 T B p' W → B = M + 1 + 1 → Cells3 T B p' (W5.setCell ⟨M, 0, none⟩ v')) := by
  obtain ⟨_, h7, h8, h9, h10, h11, h12⟩ := hI
  have hne : ∀ b, b < w.heap.size + 1 + 1 ∨ (M ≤ b ∧ b < M + 1 + 1 + 1 + 1 + 1) → v.ownBlock ≠ some b := fun b hb e => by
    have e1 := (hr.lt _ e).1
    have e2 := h4 _ e
    rcases hb with x | x <;> omega
  have hv' : ∀ k, v'.ownBlock = some k → k < M ∨ M + 1 + 1 + 1 + 1 + 1 ≤ k := fun k e => by
    rcases hat with x | x
    · exact h4 k (by rw [← x]; exact e)
    · rw [x] at e; simp only [Option.some.injEq] at e; right; omega
  have hb5 : Boxed W5 M 57 v := h2.kept hg (fun e => hne M (.inr (by omega)) e.symm)
  have hb7 : Boxed W5 (M + 1) 3 (.int .i64 p) := h7.kept hg (fun e => hne (M + 1) (.inr (by omega)) e.symm)
  have hs := hg.size
  refine ⟨hb5, hb7.kept (grownBy_setCell' _ _ _) (by simp), (KeepsOthers.of_grownBy hg fun j o ej hj => ?_).trans (KeepsOthers.setCell _ _ _), fun t ht ho => ?_, fun B p' hc e => ?_⟩
  · rcases hr.2 with ⟨rfl, _⟩ | ⟨g, cap, cur, rfl, _, hgb, _⟩
    · simp [Value.ownBlock] at ej
    · obtain rfl : g = j := by simpa [Value.ownBlock] using ej
      rw [hgb] at hj; cases hj; rfl
  · have hk := RowsK.more ha hw hb hown hg hat
    have g1 := grownBy_setCell' W5 M v'
    have g2 := grownBy_setCell' (W5.setCell ⟨M, 0, none⟩ v') (M + 1) (.int .i64 ((t + 1 : Nat) : Int))
    have o : ∀ b, b ≠ M → b ≠ M + 1 → v.ownBlock ≠ some b → b < W.heap.size → ((W5.setCell ⟨M, 0, none⟩ v').setCell ⟨M + 1, 0, none⟩ (.int .i64 ((t + 1 : Nat) : Int))).heap[b]? = W.heap[b]? := fun b x y z u =>
      (Below.heap_setCell _ _ _ b y).trans ((Below.heap_setCell _ _ _ b x).trans (hg.block b u z.symm))
    obtain ⟨g, cap, hv⟩ := ownsRow_succ hown
    exact ⟨⟨acc ++ [⟨a, ws⟩], v', by rw [List.length_append]; simp; omega, (hb5.set v').kept g2 (by simp), (hk.grown g1 (fun e => by have := hv' _ e; omega) (by omega)).grown g2 (fun e => by have := hv' _ e; omega) (by omega), hv', ⟨_, _, _, hv⟩, fun rs b r => by rw [List.append_assoc]; exact h6 _ _ (ho _ _ r)⟩,
      (hb7.kept g1 (by simp)).set _, (World.cell?_of_block (w := W) (a := ⟨w.heap.size, 0, none⟩) (o w.heap.size (by omega) (by omega) (hne w.heap.size (.inl (by omega))) (by omega))).trans h8, (World.frozen?_of_block (w := W) (a := ⟨w.heap.size, 0, none⟩) (o w.heap.size (by omega) (by omega) (hne w.heap.size (.inl (by omega))) (by omega))).trans h9,
      h10.block (o (w.heap.size + 1) (by omega) (by omega) (hne (w.heap.size + 1) (.inl (by omega))) (by omega)) (by simp; omega), w_set (w_set (h11.grown hg (by omega) (fun k e => by have := (hr.lt k e).1; omega)) (by show w.heap.size ≤ M; omega) _) (by show w.heap.size ≤ M + 1; omega) _, by simp; omega⟩
  · subst e
    refine (hc.grown hg (by omega) (hne _ (.inr (by omega))) (hne _ (.inr (by omega))) (hne _ (.inr (by omega)))).other _ (by omega) (by omega) (by omega)
theorem grown_none {a c : World} (h : a.grownBy c none) : Below a.heap.size a c := ⟨h.os, h.tape, h.output, h.size, fun k hk => h.block k hk (by simp)⟩
set_option maxRecDepth 100000 in
set_option maxHeartbeats 4000000 in
theorem wrows_any (T : ByteArray) (w : World) (hT : T.size ≤ 1000000) : Calls Tryz.prog 30 #[.string T] w (RowsPost T w) := by
  obtain ⟨j0, hj0, hy0, hy1, hy2⟩ := info_parts info_row
  have S := Lib.hid (fun W => (callsIn_wide (n := 7)).2 (wsplitseq_any T ⟨#[10]⟩ W))
  have C := Lib.hid (fun W => (callsIn_wide (n := 7)).2 (wcount_any T W hT))
  refine (callsIn_wide (n := 8)).1 ?_
  by_cases hbig : 20000 < T.size
  · have hbig' : (20000 : Int) < T.size := by omega
    refine callsIn_of_wp_marks Tryz.func30 rfl trivial ?_ rfl
    simp only [Tryz.ntmps30, List.size_toArray, List.length_cons, List.length_nil, Nat.reduceAdd, Nat.reduceSub, Array.replicate_succ, Array.replicate_zero, List.push_toArray, List.append_toArray, List.nil_append, List.cons_append]
    gi_wp2
    refine ⟨.tuple #[.slice none 0 0, .agg #[.int .i64 4, .int .i64 20000]], by simp [results, Tryz.results30, go_sem], ?_⟩
    exact ⟨[], some (4, 20000), _, .inl ⟨hbig, rfl, rfl⟩, w_alloc (w_alloc (w_refl w) _) _, rfl, rowsV_nil _⟩
  · have hbig' : ¬ (20000 : Int) < T.size := by omega
    refine callsIn_of_wp_marks Tryz.func30 rfl trivial ?_ rfl
    simp only [Tryz.ntmps30, List.size_toArray, List.length_cons, List.length_nil, Nat.reduceAdd, Nat.reduceSub, Array.replicate_succ, Array.replicate_zero, List.push_toArray, List.append_toArray, List.nil_append, List.cons_append]
    gi_wp2_with (refine ⟨trivial, ?_⟩; gi_at_call 57; refine (C.out _).mono ?_; rintro e w1 ⟨⟨n, rfl, hn⟩, hb1⟩; obtain ⟨w2, hmk, hown2, hgw⟩ := run_makeSlice_owned (P := Tryz.prog) (w := w1) (w.heap.size + 1 + 1) 57 62 j0 _ 2 Tryz.underlying57 hj0 hy0 hy1 .i64 .i64 n (by omega) (by rw [hy2]; omega) (by unfold maxLen; omega) (by have := hb1.size; simpa using this))
    have hb2 : Below w.heap.size w w2 := w_below (w_below (w_alloc (w_alloc (w_refl w) _) _) hb1) (grown_none hgw)
    have hM : w.heap.size + 1 + 1 ≤ w2.heap.size := by have := hb1.size; have := hgw.size; simp at *; omega
    have o1 : w1.heap.size < w2.heap.size ∨ w1.heap.size = w2.heap.size := by have := hgw.size; omega
    have hlt1 : w1.heap.size < w2.heap.size := by
      have := hown2.lt w1.heap.size rfl
      exact this.2
    have r2a : w2.cell? ⟨w.heap.size, 0, none⟩ = some (.slice none 0 0) := by
      rw [(grown_none hgw).cell (p := ⟨w.heap.size, 0, none⟩) (by have := hb1.size; simp at this; show w.heap.size < _; omega), hb1.cell (p := ⟨w.heap.size, 0, none⟩) (by simp; omega)]; go_simp
    have r2b : w2.frozen? ⟨w.heap.size, 0, none⟩ = false := by
      rw [(grown_none hgw).frozen (p := ⟨w.heap.size, 0, none⟩) (by have := hb1.size; simp at this; show w.heap.size < _; omega), hb1.frozen (p := ⟨w.heap.size, 0, none⟩) (by simp; omega)]; go_simp
    have r3a : Cell2 w2 (w.heap.size + 1) 0 0 := by
      have := Cell2.made (w.alloc (.cells #[.slice none 0 0] 57)) 0 0 43
      rw [World.size_alloc] at this
      exact (this.below hb1 (by simp)).below (grown_none hgw) (by have := hb1.size; simp at this; omega)
    clear hmk o1
    refine ⟨trivial, (S.out _).mono ?_⟩
    rintro e w3 ⟨rfl, hw3⟩
    have hinv : RInv T w w2.heap.size 0 w3 := by
      subst hw3
      have b5 : Below w2.heap.size w2 _ := w_alloc (w_alloc (w_alloc (w_alloc (w_alloc (w_refl w2) (.cells #[.slice (some ⟨w1.heap.size, 0, none⟩) 0 n] 57)) (.cells #[.int .i64 0] 3)) (.cells #[.string T] 9)) (.cells #[.string ⟨#[10]⟩] 9)) (.cells #[.int .i64 0] 3)
      refine ⟨⟨[], _, Nat.le_refl _, (((Boxed.new w2 57 (.slice (some ⟨w1.heap.size, 0, none⟩) 0 n)).alloc _).alloc _ |>.alloc _).alloc _, ⟨[], ((((hown2.alloc _).alloc _).alloc _).alloc _).alloc _, trivial⟩, fun k e => by simp [Value.ownBlock] at e; omega, ⟨_, _, _, rfl⟩, fun rs b h => h⟩, ?_, (b5.cell (p := ⟨w.heap.size, 0, none⟩) (by show w.heap.size < _; omega)).trans r2a, (b5.frozen (p := ⟨w.heap.size, 0, none⟩) (by show w.heap.size < _; omega)).trans r2b, ?_, ?_, by simp⟩
      · have := Boxed.new (w2.alloc (.cells #[.slice (some ⟨w1.heap.size, 0, none⟩) 0 n] 57)) 3 (.int .i64 0)
        rw [World.size_alloc] at this
        exact ((this.alloc _).alloc _).alloc _
      · exact r3a.below b5 (by omega)
      · exact w_alloc (w_alloc (w_alloc (w_alloc (w_alloc hb2 _) _) _) _) _
    have hcells : Cells3 T (w2.heap.size + 1 + 1) 0 w3 := by
      rw [hw3]
      have := Cells3.made T ((w2.alloc (.cells #[.slice (some ⟨w1.heap.size, 0, none⟩) 0 n] 57)).alloc (.cells #[.int .i64 0] 3))
      simp only [World.size_alloc] at this
      exact this
    have hsz : w3.heap.size = w2.heap.size + 1 + 1 + 1 + 1 + 1 := by rw [hw3]; simp
    clear hw3 hb2 hlt1 r2a r2b r3a hown2 hgw hb1 C S hn
    have hinv' := Lib.hid hinv
    have hcells' := Lib.hid hcells
    have hsz' := Lib.hid hsz
    clear hinv hcells hsz
    gi_wp2
    generalize w2.heap.size = M at *
    have hBw : M + 1 + 1 + 1 + 1 < w3.heap.size := by rw [hsz'.out]; omega
    have hwn : w.heap.size ≤ w3.heap.size := by rw [hsz'.out]; omega
    generalize w1.heap.size = q1
    refine wpIn_split (T := T) (B := M + 1 + 1) hT (by omega) rfl rfl hBw hcells'.out (fun p W => RInv T w M p W) (fun W => RBad T w W) (fun p A C h t => h.turn hM t hwn) (fun A C h t => h.turn hM t hwn) hinv'.out
      (fun x => { tmps := #[.string T, undef, .pointer (some ⟨w.heap.size, 0, none⟩), .pointer (some ⟨w.heap.size + 1, 0, none⟩), .pointer (some ⟨M, 0, none⟩), .pointer (some ⟨M + 1, 0, none⟩), .string x, undef, undef, .string T, .int .i64 T.size, .bool false, undef, .string T, .int .i64 n, .slice (some ⟨q1, 0, none⟩) 0 n, .string T, .func (.func 155) #[] #[.pointer (some ⟨M + 1 + 1 + 1, 0, none⟩), .pointer (some ⟨M + 1 + 1, 0, none⟩), .pointer (some ⟨M + 1 + 1 + 1 + 1, 0, none⟩)], .string x, undef, undef, undef, undef, undef, undef, undef, undef, undef, undef, undef, undef, undef, undef, undef, undef, undef, undef, undef, undef, undef, undef, undef, undef, undef, undef], defers := [] }) ?assign ?body ?done ?stop
    case assign =>
      intro l x W K hK
      gi_wp2
      exact hK
    case body =>
      clear hinv' hcells'
      rintro l p t W hline hi hc hsz
      have hHl := Lib.hid hline
      have hHi := Lib.hid hi
      have hHc := Lib.hid hc
      have hle := hline.le
      have hfit := hline.fits
      have a0 := hi.at_.cell
      obtain ⟨x, hx⟩ : ∃ x, T.extract p t = x := ⟨_, rfl⟩
      have hxs : x.size = t - p := by rw [← hx, ByteArray.size_extract]; omega
      have L := Lib.hid (fun W => (callsIn_wide (n := 5)).2 (wline_any x p W (by omega) (by omega) (by omega)))
      have hxs' := Lib.hid hxs
      have hx' := Lib.hid hx
      rw [hx]
      clear hx hxs hline hi hc
      have hmix : Tryz.prog.follows .mixedOrders = true := by kernel_rfl
      gi_wp2
      refine ⟨trivial, (CallsIn.inRound l (L.out _)).mono ?_⟩
      rintro e w4 ⟨hb4, hres⟩
      have hKo := Lib.hid (keeps_below hb4)
      have hB4 := Lib.hid hb4
      have hI4 := Lib.hid (hHi.out.later hM hb4)
      clear hb4 L a0
      rcases hres with ⟨hlong, rfl⟩ | ⟨hshort, ws, b, hcut, hlen, hm⟩
      · have hbad := Lib.hid (show RowsR T p [] (some (4, (p : Int))) from .long hHl.out (by have := hxs'.out; omega))
        have hfin := Lib.hid ((hI4.out.later hM (w_alloc (w_refl _) (.cells #[.int .i64 (4 : Int), .int .i64 (p : Int)] 43))).bad hbad.out)
        have z1 := (hI4.out.later hM (w_alloc (w_refl _) (.cells #[.int .i64 (4 : Int), .int .i64 (p : Int)] 43))).r2
        have z2 := (hI4.out.later hM (w_alloc (w_refl _) (.cells #[.int .i64 (4 : Int), .int .i64 (p : Int)] 43))).r2f
        obtain ⟨_, z3, z4, z5, z6⟩ := (hI4.out.later hM (w_alloc (w_refl _) (.cells #[.int .i64 (4 : Int), .int .i64 (p : Int)] 43))).r3
        have q1 : ¬ w.heap.size = w4.heap.size := by have := hI4.out.big; omega
        have q2 : ¬ w4.heap.size = w.heap.size := by have := hI4.out.big; omega
        have q3 : ¬ w.heap.size + 1 = w4.heap.size := by have := hI4.out.big; omega
        have q4 : ¬ w4.heap.size = w.heap.size + 1 := by have := hI4.out.big; omega
        gi_wp2
        gi_region
        all_goals
          gi_wp2
          first
            | exact ⟨(((((hKo.out.trans (KeepsOthers.alloc _ _)).trans (KeepsOthers.setCell _ _ _)).trans (KeepsOthers.setCell _ _ _)).trans (KeepsOthers.setCell _ _ _))).from _, hfin.out⟩
            | exact ⟨(((((hKo.out.trans (KeepsOthers.alloc _ _)).trans (KeepsOthers.setCell _ _ _)).trans (KeepsOthers.setCell _ _ _)).trans (KeepsOthers.setCell _ _ _)).trans (KeepsOthers.drew _)).from _, hfin.out.drew⟩
      · cases b with
        | some j =>
          obtain ⟨rfl, hjs⟩ := hm
          have hbad := Lib.hid (show RowsR T p [] (some (3, ((p : Int) + (j : Nat)))) from .bad hHl.out (by have := hxs'.out; omega) (by rw [hx'.out]; exact hcut))
          have hfin := Lib.hid ((hI4.out.later hM (w_alloc (w_refl _) (.cells #[.int .i64 (3 : Int), .int .i64 ((p : Int) + (j : Nat))] 43))).bad hbad.out)
          have z1 := (hI4.out.later hM (w_alloc (w_refl _) (.cells #[.int .i64 (3 : Int), .int .i64 ((p : Int) + (j : Nat))] 43))).r2
          have z2 := (hI4.out.later hM (w_alloc (w_refl _) (.cells #[.int .i64 (3 : Int), .int .i64 ((p : Int) + (j : Nat))] 43))).r2f
          obtain ⟨_, z3, z4, z5, z6⟩ := (hI4.out.later hM (w_alloc (w_refl _) (.cells #[.int .i64 (3 : Int), .int .i64 ((p : Int) + (j : Nat))] 43))).r3
          have q1 : ¬ w.heap.size = w4.heap.size := by have := hI4.out.big; omega
          have q2 : ¬ w4.heap.size = w.heap.size := by have := hI4.out.big; omega
          have q3 : ¬ w.heap.size + 1 = w4.heap.size := by have := hI4.out.big; omega
          have q4 : ¬ w4.heap.size = w.heap.size + 1 := by have := hI4.out.big; omega
          clear hcut
          gi_wp2
          gi_region
          all_goals
            gi_wp2
            first
              | exact ⟨(((((hKo.out.trans (KeepsOthers.alloc _ _)).trans (KeepsOthers.setCell _ _ _)).trans (KeepsOthers.setCell _ _ _)).trans (KeepsOthers.setCell _ _ _))).from _, hfin.out⟩
              | exact ⟨(((((hKo.out.trans (KeepsOthers.alloc _ _)).trans (KeepsOthers.setCell _ _ _)).trans (KeepsOthers.setCell _ _ _)).trans (KeepsOthers.setCell _ _ _)).trans (KeepsOthers.drew _)).from _, hfin.out.drew⟩
        | none =>
          obtain ⟨vw, rfl, how⟩ := hm
          obtain ⟨pw, cw, rfl, hsw⟩ := slice_of_own how
          by_cases hws : ws = []
          · subst hws
            have hW : Below W.heap.size W (w4.alloc (.cells #[.int .i64 0, .int .i64 0] 43)) := hB4.out.trans ((w_alloc (w_refl w4) _).mono hB4.out.size)
            have hstep := Lib.hid ((hHi.out.later hM hW).step hM hle (fun rs b r => .skip hHl.out (by have := hxs'.out; omega) (by rw [hx'.out]; exact hcut) r))
            have hcc := Lib.hid ((hHc.out.below hW (by have := hHi.out.big; omega)).other (b := M + 1) (j := 0) (.int .i64 ((t + 1 : Nat) : Int)) (by omega) (by omega) (by omega))
            have hb7 := (hHi.out.later hM hW).at_
            have z1 := hb7.cell
            have z2 := hb7.frozen
            have e1 : ((p : Int) + ((x.size : Int) + 1)) = ((t + 1 : Nat) : Int) := by have := hxs'.out; omega
            have e2 := Lib.hid e1
            have hsmall : x.size ≤ 1000 := hshort
            have hKo := Lib.hid (keeps_below hW)
            clear hW e1 hb7 hcut how hsw
            gi_wp2
            show KeepsFrom _ _ _ ∧ Cells3 _ _ _ _ ∧ RInv _ _ _ _ _
            rw [e2.out]
            exact ⟨(hKo.out.trans (KeepsOthers.setCell _ _ _)).from _, hcc.out, hstep.out⟩
          · have hw0 : 0 < ws.length := List.length_pos_iff.2 hws
            have hw0' : (0 : Int) < ws.length := by omega
            have hB1 : Below W.heap.size W (w4.alloc (.cells #[.int .i64 0, .int .i64 0] 43)) := hB4.out.trans ((w_alloc (w_refl w4) _).mono hB4.out.size)
            have hB2 : Below W.heap.size W ((w4.alloc (.cells #[.int .i64 0, .int .i64 0] 43)).alloc (.cells #[.int .i64 p, .slice pw ws.length cw] 62)) := hB1.trans ((w_alloc (w_refl _) _).mono hB1.size)
            have hI1 := hHi.out.later hM hB1
            have hI2 := Lib.hid (hHi.out.later hM hB2)
            obtain ⟨⟨acc, v, h1, h2, ⟨vs, ho, ha⟩, h4, ⟨vq, vn, vc, hv⟩, h6⟩, h7, _, _, _, _, _⟩ := hHi.out
            obtain ⟨wb, wo, hpw, hwb, hwc⟩ := hsw.at_ hw0
            have hbig5 := hHi.out.big
            have hwb2 := (how.lt wb (by rw [hpw]; rfl)).1
            have ho2 := Lib.hid (w_own ho hB2 (Nat.le_refl _))
            have hbx2 := Lib.hid (show Boxed ((w4.alloc (.cells #[.int .i64 0, .int .i64 0] 43)).alloc (.cells #[.int .i64 p, .slice pw ws.length cw] 62)) M 57 v from (hB2.block M (by omega)).trans h2)
            have ha2 := Lib.hid (ha.mono (W1 := (w4.alloc (.cells #[.int .i64 0, .int .i64 0] 43)).alloc (.cells #[.int .i64 p, .slice pw ws.length cw] 62)) fun _ _ a b => ⟨a.later hB2, b⟩)
            have hwv := Lib.hid ((show WordsV w4 (.slice pw ws.length cw) ws from ⟨pw, cw, rfl, hsw⟩).later (w_alloc (w_alloc (w_refl w4) (.cells #[.int .i64 0, .int .i64 0] 43)) (.cells #[.int .i64 p, .slice pw ws.length cw] 62)))
            have hne := Lib.hid (show 0 < ws.length → ∃ b, Value.ownBlock (.slice pw ws.length cw) = some b ∧ M + 1 + 1 + 1 + 1 + 1 ≤ b ∧ b < ((w4.alloc (.cells #[.int .i64 0, .int .i64 0] 43)).alloc (.cells #[.int .i64 p, .slice pw ws.length cw] 62)).heap.size ∧ v.ownBlock ≠ some b from fun _ => ⟨wb, by rw [hpw]; rfl, by omega, by simp; omega, fun e => by have := (ho.lt _ e).2; omega⟩)
            have hcc := Lib.hid (hHc.out.below hB2 (by omega))
            have hKo := Lib.hid (keeps_below hB2)
            have hlt4 := Lib.hid h4
            have hok6 := Lib.hid h6
            have hacc := Lib.hid h1
            have hbase := Lib.hid (show w.heap.size + 1 + 1 ≤ ((w4.alloc (.cells #[.int .i64 0, .int .i64 0] 43)).alloc (.cells #[.int .i64 p, .slice pw ws.length cw] 62)).heap.size by have := hB2.size; omega)
            have b1 := (show Boxed (w4.alloc (.cells #[.int .i64 0, .int .i64 0] 43)) M 57 v from (hB1.block M (by omega)).trans h2).cell
            have b2 := hI1.at_.cell
            have hnext := Lib.hid (fun rs b (r : RowsR T (t + 1) rs b) => show RowsR T p (⟨(p : Int), ws⟩ :: rs) b from .row hHl.out (by have := hxs'.out; omega) (by rw [hx'.out]; exact hcut) hws r)
            have hlen63 : acc.length + 1 ≤ maxLen := by unfold maxLen; omega
            have hlen47 : (acc.length + 1) * 32 ≤ 140737488355328 := by omega
            subst hv
            clear hB1 hB2 hI1 ho h2 h7 ha h1 h4 h6 hcut how hsw hwc hwb hwb2 hpw hbig5
            gi_wp2_with (gi_at_builtin; refine wpListIn_append_own_at _ rfl _ _ 57 rfl (w.heap.size + 1 + 1) 62 j0 (.agg #[.int .i64 0, .slice none 0 0]) 2 32 Tryz.underlying57 hj0 hy0 hy1 hy2 rfl (by decide) _ acc.length (flatR vs) rfl ho2.out ⟨w4.heap.size + 1, 0, none⟩ 1 1 (flatR [((p : Int), .slice pw ws.length cw)]) rfl rfl ?c1 (row_one _ _ _ _) hlen63 hlen47 hbase.out ?_)
            case c1 => have := new_row (w4.alloc (.cells #[.int .i64 0, .int .i64 0] 43)) p (.slice pw ws.length cw) 62; simpa using this
            intro v' w5 hown5 hg5 _ hat
            obtain ⟨r1, r2, r3, r4, r5⟩ := RInv.row (a := (p : Int)) hI2.out hM hacc.out hbx2.out ho2.out hlt4.out hok6.out ha2.out hwv.out hne.out hown5 hg5 (by simpa using hat)
            obtain ⟨vg, vcap, rfl⟩ := ownsRow_succ hown5
            have y1 := r1.cell
            have y2 := r1.frozen
            have y3 := r2.cell
            have y4 := r2.frozen
            have e1 : ((p : Int) + ((x.size : Int) + 1)) = ((t + 1 : Nat) : Int) := by have := hxs'.out; omega
            have e2 := Lib.hid e1
            have hsmall : x.size ≤ 1000 := hshort
            have hK5 := Lib.hid (hKo.out.trans r3)
            have hst := Lib.hid (r4 t hle hnext.out)
            have hc5 := Lib.hid ((r5 _ _ hcc.out rfl).other (b := M + 1) (j := 0) (.int .i64 ((t + 1 : Nat) : Int)) (by omega) (by omega) (by omega))
            clear e1 r1 r2 r3 r4 r5 hown5 hg5 hat hKo hcc hnext hacc hbx2 ho2 hlt4 hok6 ha2 hwv hne hI2 b1 b2
            gi_wp2
            show KeepsFrom _ _ _ ∧ Cells3 _ _ _ _ ∧ RInv _ _ _ _ _
            rw [e2.out]
            exact ⟨(hK5.out.trans (KeepsOthers.setCell _ _ _)).from _, hc5.out, hst.out⟩
    case done =>
      rintro D W hD hi hK
      obtain ⟨⟨acc, v, h1, h2, h3, h4, ⟨vq, vn, vc, hv⟩, h6⟩, h7, h8, h9, h10, h11, h12⟩ := hi
      have b1 := h2.cell
      have hok := Lib.hid (h6 [] none (.stop (by omega)))
      subst hv
      have hne : ∀ b, b < w.heap.size + 1 + 1 → Value.ownBlock (.slice vq vn vc) ≠ some b := fun b hb e => by have := (h3.lt _ e).1; omega
      have k1 := h3.grown (grownBy_setCell' W w.heap.size (.slice vq vn vc)) (hne _ (by omega)) (by omega)
      have k2 := k1.grown (g_row (g_refl _ (some (w.heap.size + 1))) 0 (.int .i64 0)) (hne _ (by omega)) (by omega)
      have k3 := k2.grown (g_row (g_refl _ (some (w.heap.size + 1))) 1 (.int .i64 0)) (hne _ (by omega)) (by omega)
      have hKf := (((KeepsOthers.setCell W ⟨w.heap.size, 0, none⟩ (.slice vq vn vc)).trans (KeepsOthers.setCell _ ⟨w.heap.size + 1, 0, none⟩ (.int .i64 0))).trans (KeepsOthers.setCell _ ⟨w.heap.size + 1, 1, none⟩ (.int .i64 0))).same D _ hK rfl
      have tu : Turn w3.heap.size (M + 1 + 1) _ _ := Turn.put (.deferred none) hD hKf rfl
      have hrv := Lib.hid (k3.turn tu (fun e => by have := h4 _ e; omega) (by omega)).val
      have p2 := Cell2.put (n' := 0) (d' := 0) (h10.block (w1 := W.setCell ⟨w.heap.size, 0, none⟩ (.slice vq vn vc)) (Below.heap_setCell W _ _ _ (by simp)) (by simp))
      obtain ⟨_, x1, x2, _, _⟩ := p2.turn tu (by omega)
      have x0 : (((W.setCell ⟨w.heap.size, 0, none⟩ (.slice vq vn vc)).setCell ⟨w.heap.size + 1, 0, none⟩ (.int .i64 0)).setCell ⟨w.heap.size + 1, 1, none⟩ (.int .i64 0)).cell? ⟨w.heap.size, 0, none⟩ = some (.slice vq vn vc) := by
        rw [World.cell?_setCell_other _ _ _ _ (by simp), World.cell?_setCell_other _ _ _ _ (by simp)]
        exact World.cell?_setCell_same' _ _ _ (by rw [h8]; rfl)
      have x0 := tu.cell x0 (by simp; omega)
      have hbe := Lib.hid (tu.below (w_set (w_set (w_set h11 (Nat.le_refl _) (.slice vq vn vc)) (p := ⟨w.heap.size + 1, 0, none⟩) (by simp) (.int .i64 0)) (p := ⟨w.heap.size + 1, 1, none⟩) (by simp) (.int .i64 0)) hwn (by omega))
      have hKf2 := Lib.hid hKf
      obtain ⟨ii, o0, o1, o2, o3⟩ := h10
      clear h3 k1 k2 k3 hKf tu p2 h6 hne h4 hK
      gi_wp2
      refine ⟨by simp, .inl ⟨_, _, rfl, run_takeDeferred hKf2.out, ?_⟩⟩
      refine ⟨.tuple #[.slice vq vn vc, .agg #[.int .i64 0, .int .i64 0]], by simp [results, Tryz.results30, go_sem, x0, x1, x2], ?_⟩
      exact ⟨acc, none, _, .inr ⟨by omega, acc ++ [], hok.out, by simp⟩, hbe.out, rfl, hrv.out⟩
    case stop =>
      rintro D W hD ⟨⟨rs, xx, h1, h2, h3⟩, h4⟩ hK
      have tu : Turn w3.heap.size (M + 1 + 1) _ _ := Turn.put (.deferred none) hD hK rfl
      have x0 := tu.cell h2 (by simp; omega)
      obtain ⟨_, x1, x2, _, _⟩ := h3.turn tu (by omega)
      have hbe := Lib.hid (tu.below h4 hwn (by omega))
      clear tu
      gi_wp2
      refine ⟨by simp, .inl ⟨_, _, rfl, run_takeDeferred hK, ?_⟩⟩
      refine ⟨.tuple #[.slice none 0 0, .agg #[.int .i64 xx.1, .int .i64 xx.2]], by simp [results, Tryz.results30, go_sem, x0, x1, x2], ?_⟩
      exact ⟨[], some xx, _, .inr ⟨by omega, rs, h1, rfl⟩, hbe.out, rfl, rowsV_nil _⟩
end Go.Proofs.YtdmedealdhadcaaGreatDoor
