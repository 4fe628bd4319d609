/- The program's plans: better, before. -/
import Derived.Test.YtaldbjhalpgkeaaDoorGFence
import Derived.Test.YtaldbjhalpgkeaaDoorGIsIn
import Derived.Test.YtaldbjhalpgkeaaDoorGDp
namespace Go.Proofs.YtaldbjhalpgkeaaDoor
open Go.RowKit Go.Shelf
attribute [local go_sem] Oper.semAt_some

/-- A plan: costs, and the way that comes next. -/
abbrev Pl := Co × Sy
abbrev plV (p : Pl) : Value := .agg #[.int .i64 p.1.1, .int .i64 p.1.2, .int .i64 p.2.1, .int .i64 p.2.2]
abbrev plC (p : Pl) : Array Value := #[.int .i64 p.1.1, .int .i64 p.1.2, .int .i64 p.2.1, .int .i64 p.2.2]
abbrev plsV (L : Nat → Pl) : Value := .agg #[.int .i64 (L 0).1.1, .int .i64 (L 0).1.2, .int .i64 (L 0).2.1, .int .i64 (L 0).2.2, .int .i64 (L 1).1.1, .int .i64 (L 1).1.2, .int .i64 (L 1).2.1, .int .i64 (L 1).2.2, .int .i64 (L 2).1.1, .int .i64 (L 2).1.2, .int .i64 (L 2).2.1, .int .i64 (L 2).2.2, .int .i64 (L 3).1.1, .int .i64 (L 3).1.2, .int .i64 (L 3).2.1, .int .i64 (L 3).2.2, .int .i64 (L 4).1.1, .int .i64 (L 4).1.2, .int .i64 (L 4).2.1, .int .i64 (L 4).2.2, .int .i64 (L 5).1.1, .int .i64 (L 5).1.2, .int .i64 (L 5).2.1, .int .i64 (L 5).2.2, .int .i64 (L 6).1.1, .int .i64 (L 6).1.2, .int .i64 (L 6).2.1, .int .i64 (L 6).2.2, .int .i64 (L 7).1.1, .int .i64 (L 7).1.2, .int .i64 (L 7).2.1, .int .i64 (L 7).2.2]
abbrev plsC (L : Nat → Pl) : Array Value := #[.int .i64 (L 0).1.1, .int .i64 (L 0).1.2, .int .i64 (L 0).2.1, .int .i64 (L 0).2.2, .int .i64 (L 1).1.1, .int .i64 (L 1).1.2, .int .i64 (L 1).2.1, .int .i64 (L 1).2.2, .int .i64 (L 2).1.1, .int .i64 (L 2).1.2, .int .i64 (L 2).2.1, .int .i64 (L 2).2.2, .int .i64 (L 3).1.1, .int .i64 (L 3).1.2, .int .i64 (L 3).2.1, .int .i64 (L 3).2.2, .int .i64 (L 4).1.1, .int .i64 (L 4).1.2, .int .i64 (L 4).2.1, .int .i64 (L 4).2.2, .int .i64 (L 5).1.1, .int .i64 (L 5).1.2, .int .i64 (L 5).2.1, .int .i64 (L 5).2.2, .int .i64 (L 6).1.1, .int .i64 (L 6).1.2, .int .i64 (L 6).2.1, .int .i64 (L 6).2.2, .int .i64 (L 7).1.1, .int .i64 (L 7).1.2, .int .i64 (L 7).2.1, .int .i64 (L 7).2.2]
def minP {α : Type} (f : α → Co) (z : α) (l : List α) : Co × α := match firstMin f l with | none => ((0, 0), z) | some b => (f b, b)
theorem minP_snoc {α : Type} (f : α → Co) (z c : α) (l : List α) : minP f z (l ++ [c]) = if l = [] ∨ ltC (f c) (minP f z l).1 then (f c, c) else minP f z l := by
  unfold minP
  rw [firstMin_snoc]
  by_cases h : l = []
  · subst h; rw [if_pos (.inl rfl)]; rfl
  · obtain ⟨b, hb⟩ := firstMin_some (f := f) h
    rw [hb]
    simp only
    by_cases h2 : ltC (f c) (f b)
    · rw [if_pos h2, if_pos (.inr h2)]
    · rw [if_neg h2, if_neg (by rintro (x | x); exact h x; exact h2 x)]
theorem minP_mem {α : Type} {f : α → Co} {z : α} {l : List α} (h : l ≠ []) : (minP f z l).2 ∈ l ∧ (minP f z l).1 = f (minP f z l).2 := by
  obtain ⟨b, hb⟩ := firstMin_some (f := f) h
  unfold minP
  rw [hb]
  exact ⟨(firstMin_spec hb).1, rfl⟩
/-- The costs by a way b behind a way a, if a has a hexachord. -/
def stepL (L : Nat → Pl) (a b : Sy) : Co := addC (if a.1 = 0 then (0, 0) else costS a b) (L b.1.toNat).1

set_option maxHeartbeats 1000000 in
theorem wbetter_any (p q : Pl) (w : World) : Calls Tryd.prog 70 #[plV p, plV q] w fun e w' => e = .returned (.bool (decide (ltC p.1 q.1))) ∧ Below w.heap.size w w' := by
  obtain ⟨⟨m, r⟩, s1, s2⟩ := p
  obtain ⟨⟨m', r'⟩, t1, t2⟩ := q
  show Calls _ _ _ _ fun e w' => e = .returned (.bool (decide (m < m' ∨ (m = m' ∧ r < r')))) ∧ _
  have ways : (((m : Int) == m') = false ∧ m ≠ m' ∧ decide (m < m' ∨ (m = m' ∧ r < r')) = decide (m < m')) ∨ (m = m' ∧ decide (m < m' ∨ (m = m' ∧ r < r')) = decide (r < r')) := by
    by_cases e : m = m'
    · exact .inr ⟨e, by rw [decide_eq_decide]; omega⟩
    · exact .inl ⟨by rw [beq_eq_false_iff_ne]; omega, e, by rw [decide_eq_decide]; omega⟩
  rcases ways with ⟨e1, e2, e3⟩ | ⟨rfl, e3⟩
  · rw [e3]
    have e4 : ¬ ((m : Int) = m') := by omega
    clear e3 e2
    go_enter Tryd.func70, Tryd.ntmps70
    go_wp2_with fail
    go_ret
    exact ⟨rfl, w_alloc (w_alloc (w_refl w) _) _⟩
  · rw [e3]
    clear e3
    go_enter Tryd.func70, Tryd.ntmps70
    go_wp2_with fail
    go_ret
    exact ⟨rfl, w_alloc (w_alloc (w_refl w) _) _⟩

/-- What stands in a round of before. -/
structure BfF (w A : World) (n2 b1 b3 b4 b5 : Nat) (PC : Array Value) (a : Sy) (q : Pi3) (best : Pl) (Bx : Nat) (x : Sy) (W : World) : Prop where
  bel : Below w.heap.size w W
  pit : HoldsB W b5 23 #[.int .i64 q.1, .int .i64 q.2.1, .int .i64 q.2.2]
  pl : HoldsB W w.heap.size 81 PC
  aa : HoldsB W b1 25 #[.int .i64 a.1, .int .i64 a.2]
  best : HoldsB W b4 79 (plC best)
  res : HoldsB W b3 79 (plC ((0, 0), (0, 0)))
  way : HoldsB W Bx 25 #[.int .i64 x.1, .int .i64 x.2]
  mid : Mid n2 A W
theorem holds_ne' {W : World} {a b : Nat} {t u : TypeId} {cs ds : Array Value} (h : HoldsB W a t cs) (k : HoldsB W b u ds) (hne : t ≠ u) : a ≠ b := by
  rintro rfl
  have := h.symm.trans k
  simp only [Option.some.injEq, Obj.cells.injEq] at this
  exact hne this.2.1
theorem BfF.later {w A : World} {n2 b1 b3 b4 b5 : Nat} {PC : Array Value} {a : Sy} {q : Pi3} {best : Pl} {Bx : Nat} {x : Sy} {W W' : World} (h : BfF w A n2 b1 b3 b4 b5 PC a q best Bx x W) (k : Below W.heap.size W W') : BfF w A n2 b1 b3 b4 b5 PC a q best Bx x W' :=
  ⟨w_below h.bel k, h.pit.later k, h.pl.later k, h.aa.later k, h.best.later k, h.res.later k, h.way.later k, h.mid.trans (Mid.bel _ k)⟩
/-- A store into a plan of the round's own. -/
theorem BfF.side {w A : World} {n2 b1 b3 b4 b5 : Nat} {PC : Array Value} {a : Sy} {q : Pi3} {best : Pl} {Bx : Nat} {x : Sy} {W : World} (h : BfF w A n2 b1 b3 b4 b5 PC a q best Bx x W) {k9 : Nat} {cs : Array Value} (hp : HoldsB W k9 79 cs)
    (hA : A.heap.size ≤ k9) (h4 : b4 < A.heap.size) (h3 : b3 < A.heap.size) (hw : w.heap.size ≤ k9) (j : Nat) (u : Value) : BfF w A n2 b1 b3 b4 b5 PC a q best Bx x (W.setCell ⟨k9, j, none⟩ u) :=
  ⟨h.bel.setCell (p := ⟨k9, j, none⟩) hw u, h.pit.other (holds_ne' h.pit hp (by decide)) _ _, h.pl.other (holds_ne' h.pl hp (by decide)) _ _, h.aa.other (holds_ne' h.aa hp (by decide)) _ _, h.best.other (by omega) _ _, h.res.other (by omega) _ _, h.way.other (holds_ne' h.way hp (by decide)) _ _,
    ⟨by have := h.mid.size; simpa using this, fun k o hk ho hpl => (Below.heap_setCell _ _ _ _ (by have := (Array.getElem?_eq_some_iff.1 ho).1; show k ≠ k9; omega)).trans (h.mid.same k o hk ho hpl)⟩⟩
abbrev lay4 (W : World) (b : Nat) (p : Pl) : World := (((W.setCell ⟨b, 0, none⟩ (.int .i64 p.1.1)).setCell ⟨b, 1, none⟩ (.int .i64 p.1.2)).setCell ⟨b, 2, none⟩ (.int .i64 p.2.1)).setCell ⟨b, 3, none⟩ (.int .i64 p.2.2)
theorem HoldsB.lay4 {W : World} {b : Nat} {t : TypeId} {p : Pl} (h : HoldsB W b t (plC p)) (q : Pl) : HoldsB (lay4 W b q) b t (plC q) := (((h.set 0 _).set 1 _).set 2 _).set 3 _
theorem HoldsB.beside4 {W : World} {b c : Nat} {t : TypeId} {cs : Array Value} (h : HoldsB W b t cs) (hne : b ≠ c) (q : Pl) : HoldsB (Go.Proofs.YtaldbjhalpgkeaaDoor.lay4 W c q) b t cs := (((h.other hne _ _).other hne _ _).other hne _ _).other hne _ _
theorem BfF.lay {w A : World} {n2 b1 b3 b4 b5 : Nat} {PC : Array Value} {a : Sy} {q : Pi3} {best : Pl} {Bx : Nat} {x : Sy} {W : World} (h : BfF w A n2 b1 b3 b4 b5 PC a q best Bx x W) (p : Pl) (h4 : b4 < n2) (h34 : b3 ≠ b4) (hw : w.heap.size ≤ b4) :
    BfF w A n2 b1 b3 b4 b5 PC a q p Bx x (lay4 W b4 p) :=
  ⟨(((h.bel.setCell (p := ⟨b4, 0, none⟩) hw _).setCell (p := ⟨b4, 1, none⟩) hw _).setCell (p := ⟨b4, 2, none⟩) hw _).setCell (p := ⟨b4, 3, none⟩) hw _,
    h.pit.beside4 (holds_ne' h.pit h.best (by decide)) _, h.pl.beside4 (holds_ne' h.pl h.best (by decide)) _, h.aa.beside4 (holds_ne' h.aa h.best (by decide)) _, h.best.lay4 _, h.res.beside4 h34 _, h.way.beside4 (holds_ne' h.way h.best (by decide)) _,
    h.mid.trans ((Mid.set _ _ h4 _ _).trans ((Mid.set _ _ h4 _ _).trans ((Mid.set _ _ h4 _ _).trans (Mid.set _ _ h4 _ _))))⟩

set_option maxRecDepth 100000 in
set_option maxHeartbeats 4000000 in
theorem wbefore_any (L : Nat → Pl) (hL : ∀ i, (L i).1.1 ≤ 1000 ∧ (L i).1.2 ≤ 1000) (a : Sy) (ha : a = (0, 0) ∨ okS a) (q : Pi3) (hq : okP q) (w : World) (T : TabG w) :
    Calls Tryd.prog 57 #[plsV L, sv a, pv q] w fun e w' => e = .returned (plV (minP (stepL L a) (0, 0) (waysL q))) ∧ Below w.heap.size w w' := by
  refine (callsIn_wide (n := 1)).1 ?_
  obtain ⟨PC, hPC⟩ : ∃ PC, plsC L = PC := ⟨_, rfl⟩
  rw [show plsV L = .agg PC from congrArg Value.agg hPC]
  have HPC := Lib.hid (show ∀ i, i < 8 → PC[i * 4]? = some (.int .i64 (L i).1.1) ∧ PC[i * 4 + 1]? = some (.int .i64 (L i).1.2) from fun i hi => by
    rw [← hPC]
    have c : i = 0 ∨ i = 1 ∨ i = 2 ∨ i = 3 ∨ i = 4 ∨ i = 5 ∨ i = 6 ∨ i = 7 := by omega
    rcases c with rfl | rfl | rfl | rfl | rfl | rfl | rfl | rfl <;> exact ⟨rfl, rfl⟩)
  clear hPC
  have HT := Lib.hid (fun W (b : Below w.heap.size w W) => T.later b)
  have WF := Lib.hid (fun W => callsIn_wide (n := 0) |>.2 (wwaysf_any q W))
  have G := Lib.hid (fun b => ways_gives q hq b)
  have HA := Lib.hid ha
  have HL := Lib.hid hL
  clear hq ha hL T
  obtain ⟨W5, hW5⟩ : ∃ W5, ((((w.alloc (.cells PC 81)).alloc (sO a)).alloc (pO q)).alloc (.cells #[.int .i64 0, .int .i64 0, .int .i64 0, .int .i64 0] 79)).alloc (.cells #[.int .i64 0, .int .i64 0, .int .i64 0, .int .i64 0] 79) = W5 := ⟨_, rfl⟩
  have sz : W5.heap.size = w.heap.size + 5 := by rw [← hW5]; simp
  have B5 := Lib.hid (show Below w.heap.size w W5 by rw [← hW5]; exact w_alloc (w_alloc (w_alloc (w_alloc (w_alloc (w_refl w) _) _) _) _) _)
  have K0 := Lib.hid (show HoldsB W5 w.heap.size 81 PC by rw [← hW5]; exact ((((HoldsB.new w _ _).al _).al _).al _).al _)
  have K1 := Lib.hid (show HoldsB W5 (w.heap.size + 1) 25 #[.int .i64 a.1, .int .i64 a.2] by
    rw [← hW5]
    have := (((HoldsB.new (w.alloc (.cells PC 81)) 25 #[.int .i64 a.1, .int .i64 a.2]).al (pO q)).al (.cells #[.int .i64 0, .int .i64 0, .int .i64 0, .int .i64 0] 79)).al (.cells #[.int .i64 0, .int .i64 0, .int .i64 0, .int .i64 0] 79)
    rwa [World.size_alloc] at this)
  have K2 := Lib.hid (show HoldsB W5 (w.heap.size + 1 + 1) 23 #[.int .i64 q.1, .int .i64 q.2.1, .int .i64 q.2.2] by
    rw [← hW5]
    have := ((HoldsB.new ((w.alloc (.cells PC 81)).alloc (sO a)) 23 #[.int .i64 q.1, .int .i64 q.2.1, .int .i64 q.2.2]).al (.cells #[.int .i64 0, .int .i64 0, .int .i64 0, .int .i64 0] 79)).al (.cells #[.int .i64 0, .int .i64 0, .int .i64 0, .int .i64 0] 79)
    rwa [World.size_alloc, World.size_alloc] at this)
  have q0 := K2.out.cell (j := 0) rfl
  have q1 := K2.out.cell (j := 1) rfl
  have q2 := K2.out.cell (j := 2) rfl
  have K3 := Lib.hid (show HoldsB W5 (w.heap.size + 1 + 1 + 1) 79 (plC ((0, 0), (0, 0))) by
    rw [← hW5]
    have := (HoldsB.new (((w.alloc (.cells PC 81)).alloc (sO a)).alloc (pO q)) 79 (plC ((0, 0), (0, 0)))).al (.cells #[.int .i64 0, .int .i64 0, .int .i64 0, .int .i64 0] 79)
    rwa [World.size_alloc, World.size_alloc, World.size_alloc] at this)
  have K4 := Lib.hid (show HoldsB W5 (w.heap.size + 1 + 1 + 1 + 1) 79 (plC ((0, 0), (0, 0))) by
    rw [← hW5]
    have := HoldsB.new ((((w.alloc (.cells PC 81)).alloc (sO a)).alloc (pO q)).alloc (.cells #[.int .i64 0, .int .i64 0, .int .i64 0, .int .i64 0] 79)) 79 (plC ((0, 0), (0, 0)))
    rwa [World.size_alloc, World.size_alloc, World.size_alloc, World.size_alloc] at this)
  refine callsIn_of_wp_marks Tryd.func57 rfl trivial ?_ rfl
  simp only [Tryd.ntmps57, List.size_toArray, List.length_cons, List.length_nil, Nat.reduceAdd, Nat.reduceSub, Array.replicate_succ, Array.replicate_zero, List.push_toArray, List.append_toArray, List.nil_append, List.cons_append]
  gi_wp2_with fail
  refine ⟨trivial, (WF.out _).mono ?_⟩
  rintro e w6 ⟨rfl, rfl⟩
  gi_wp2_with fail
  have hn5 : (W5.alloc (pO q)).heap.size = w.heap.size + 6 := by rw [World.size_alloc, sz]
  have P5 := Lib.hid (show HoldsB (W5.alloc (pO q)) (w.heap.size + 5) 23 #[.int .i64 q.1, .int .i64 q.2.1, .int .i64 q.2.2] by
    have := HoldsB.new W5 23 #[.int .i64 q.1, .int .i64 q.2.1, .int .i64 q.2.2]
    rwa [sz] at this)
  replace B5 := Lib.hid (w_alloc B5.out (pO q))
  replace K0 := Lib.hid (K0.out.al (pO q))
  replace K1 := Lib.hid (K1.out.al (pO q))
  replace K3 := Lib.hid (K3.out.al (pO q))
  replace K4 := Lib.hid (K4.out.al (pO q))
  clear hW5 sz K2 q0 q1 q2 WF
  generalize W5.alloc (pO q) = w2 at *
  have e1 : w.heap.size + 1 = w.heap.size + 1 := rfl
  obtain ⟨b1, hb1⟩ : ∃ b, w.heap.size + 1 = b := ⟨_, rfl⟩
  obtain ⟨b2, hb2⟩ : ∃ b, w.heap.size + 1 + 1 = b := ⟨_, rfl⟩
  obtain ⟨b3, hb3⟩ : ∃ b, w.heap.size + 1 + 1 + 1 = b := ⟨_, rfl⟩
  obtain ⟨b4, hb4⟩ : ∃ b, w.heap.size + 1 + 1 + 1 + 1 = b := ⟨_, rfl⟩
  obtain ⟨b5, hb5⟩ : ∃ b, w.heap.size + 5 = b := ⟨_, rfl⟩
  rw [hb4, hb3, hb2, hb1, hb5]
  rw [hb1] at K1
  rw [hb3] at K3
  rw [hb4] at K4
  rw [hb5] at P5
  have N1 : b4 < w2.heap.size := by omega
  have N2 : b3 < w2.heap.size := by omega
  have N3 : b3 ≠ b4 := by omega
  have N4 : w.heap.size ≤ b4 := by omega
  have N5 : w.heap.size ≤ w2.heap.size := by omega
  have N6 : w.heap.size ≤ b3 := by omega
  clear e1 hb1 hb2 hb3 hb4 hb5 hn5
  refine wpIn_gives (G.out b5) rfl (enters_of Tryd.func63 (by kernel_rfl) rfl) rfl
    (fun pre A => ((((Below w.heap.size w A ∧ HoldsB A b5 23 #[.int .i64 q.1, .int .i64 q.2.1, .int .i64 q.2.2]) ∧ HoldsB A w.heap.size 81 PC) ∧ HoldsB A b1 25 #[.int .i64 a.1, .int .i64 a.2]) ∧ HoldsB A b4 79 (plC (minP (stepL L a) (0, 0) pre))) ∧ HoldsB A b3 79 (plC ((0, 0), (0, 0))))
    (fun _ => False) ?hC ?hI ?hIx ?h0
    (fun x a' A => ∃ Bx, HoldsB A Bx 25 #[.int .i64 x.1, .int .i64 x.2] ∧ a' = { tmps := #[.agg PC, sv a, pv q, .pointer (some ⟨w.heap.size, 0, none⟩), .pointer (some ⟨b1, 0, none⟩), .pointer (some ⟨b2, 0, none⟩), .pointer (some ⟨b3, 0, none⟩), .pointer (some ⟨b4, 0, none⟩), .pointer (some ⟨Bx, 0, none⟩), undef, .agg #[.int .i64 q.1, .int .i64 q.2.1, .int .i64 q.2.2], .func (.func 63) #[] #[.pointer (some ⟨b5, 0, none⟩)], sv x, undef, undef, undef, undef, undef, undef, undef, undef, undef, undef, undef, undef, undef, undef, undef, undef, undef, undef, undef, undef, undef, undef, undef, undef, undef, undef, undef, undef, undef, undef, undef, undef, undef, undef, undef, undef, undef, undef, undef, undef, undef, undef, undef, undef, undef], defers := [] })
    ?hAx ?assign ?body ?done ?stop
  case hC =>
    rintro pre A ⟨⟨⟨⟨⟨hb, hp⟩, _⟩, _⟩, _⟩, _⟩
    exact PitC.of (HT.out _ hb) hp
  case hI => exact OwnFrom.and (OwnFrom.and (OwnFrom.and (OwnFrom.and (OwnFrom.and (ownFrom_below (Nat.le_refl _) N5) (Own.from (holds_own _ _ (fun _ => _)) _)) (Own.from (holds_own _ _ (fun _ => _)) _)) (Own.from (holds_own _ _ (fun _ => _)) _)) (Own.from (holds_own _ _ _) _)) (Own.from (holds_own _ _ (fun _ => _)) _)
  case hIx => exact fun _ _ _ _ h _ _ => h
  case h0 => exact ⟨⟨⟨⟨⟨B5.out, P5.out⟩, K0.out⟩, K1.out⟩, K4.out⟩, K3.out⟩
  case hAx =>
    rintro x a' s A A' row ⟨Bx, h, e⟩ hg hr
    exact ⟨Bx, holds_own Bx _ (fun (_ : Unit) => _) () A A' row h hg (fun r e => (hr r e).2), e⟩
  case assign =>
    rintro m2 l2 pre x A K hle ⟨⟨⟨⟨⟨h1, h2⟩, h3⟩, h4⟩, h5⟩, h6⟩ hK
    gi_wp2_with fail
    exact hK _ _ (Mid.bel _ (w_alloc (w_refl A) _)) ⟨⟨⟨⟨⟨w_alloc h1 _, h2.al _⟩, h3.al _⟩, h4.al _⟩, h5.al _⟩, h6.al _⟩ ⟨A.heap.size, HoldsB.new A _ _, rfl⟩
  case body =>
    rintro m2 l2 pre x post a' A hx hle ⟨⟨⟨⟨⟨h1, h2⟩, h3⟩, h4⟩, h5⟩, h6⟩ ⟨Bx, hB, rfl⟩
    have hok : okS x := (way_iff.1 (show x ∈ waysL q by rw [hx]; simp)).1
    have HPRE := Lib.hid (show ∀ t ∈ pre, okS t from fun t ht => (way_iff.1 (show t ∈ waysL q by rw [hx]; simp [ht])).1)
    have HS := Lib.hid (minP_snoc (stepL L a) (0, 0) x pre)
    have HBM := Lib.hid (fun h => minP_mem (f := stepL L a) (z := (0, 0)) (l := pre) h)
    obtain ⟨h, y⟩ := x
    have FX := Lib.hid (show BfF w A w2.heap.size b1 b3 b4 b5 PC a q (minP (stepL L a) (0, 0) pre) Bx (h, y) A from ⟨h1, h2, h3, h4, h5, h6, hB, Mid.refl _ _⟩)
    have HF0 := Lib.hid (show stepL L a (h, y) = addC (if a.1 = 0 then (0, 0) else costS a (h, y)) (L h.toNat).1 from rfl)
    have HL0 := HL.out h.toNat
    have hh := hok.1
    simp only at hh
    obtain ⟨hp0, hp1⟩ := HPC.out h.toNat (by omega)
    have SM := Lib.hid (fun (ha : okS a) W (k : Below w.heap.size w W) => CallsIn.inRound l2 (callsIn_wide (n := m2 - 1) |>.2 (wissmooth_any a (h, y) ha hok W (HT.out W k))))
    have HOK := Lib.hid hok
    clear hok h1 h2 h3 h4 h5 h6 hB
    obtain ⟨bp, hbp⟩ : ∃ bp, minP (stepL L a) (0, 0) pre = bp := ⟨_, rfl⟩
    have HE := Lib.hid hbp
    rw [hbp] at FX HS HBM
    clear hbp
    obtain ⟨MR, hMR⟩ : ∃ MR, (L h.toNat).1 = MR := ⟨_, rfl⟩
    rw [hMR] at hp0 hp1 HL0 HF0
    obtain ⟨M, R⟩ := MR
    obtain ⟨⟨B1, B2⟩, s1, s2⟩ := bp
    simp only at hp0 hp1 HL0
    have HP0 := Lib.hid hp0
    have HP1 := Lib.hid hp1
    have g1 : 0 ≤ h := by omega
    have g2 : h < 8 := by omega
    have g3 : 1 ≤ h := hh.1
    have g4 : h ≤ 7 := hh.2
    have HLE := Lib.hid hle
    have NA : w2.heap.size ≤ A.heap.size := hle
    clear hp0 hp1 hh hMR hx hle
    gi_wp2_with fail
    refine wpIn_region_late (fun W => W.cell? ⟨Bx, 0, none⟩ = some (.int .i64 h) ∧ W.cell? ⟨Bx, 1, none⟩ = some (.int .i64 y) ∧ W.cell? ⟨w.heap.size, h.toNat * 4, none⟩ = some (.int .i64 M) ∧ W.cell? ⟨w.heap.size, h.toNat * 4 + 1, none⟩ = some (.int .i64 R)) [13] (by kernel_rfl) (by kernel_rfl) (by rintro ⟨_, _, h⟩; exact h) ?_
    replace FX := Lib.hid (FX.out.later (w_refl _).drew)
    have NB : A.heap.size ≤ (World.drew A).heap.size := Nat.le_refl _
    generalize hy : World.drew A = u at *
    clear hy
    refine wpL_take (i := 0) (v := .pointer (some ⟨Bx, 0, none⟩)) rfl (by kernel_rfl) (by kernel_rfl) (by kernel_rfl) (by kernel_rfl) (fun _ _ _ h => h) (Or.inl ⟨by kernel_rfl, fun _ => by go_simp⟩) (.inl ⟨FX.out.way.cell (j := 0) rfl, FX.out.way.cell (j := 1) rfl, FX.out.pl.cell HP0.out, FX.out.pl.cell HP1.out⟩) ?_
    refine wpL_load (i := 1) (v := .int .i64 h) rfl (by kernel_rfl) (by kernel_rfl) (by kernel_rfl) (by kernel_rfl) (by kernel_rfl) (fun _ _ _ h => h) (Or.inl ⟨by kernel_rfl, fun W hW => by (obtain ⟨hA, hB, hC, hD⟩ := hW; go_simp)⟩) ⟨FX.out.way.cell (j := 0) rfl, FX.out.way.cell (j := 1) rfl, FX.out.pl.cell HP0.out, FX.out.pl.cell HP1.out⟩ (by kernel_rfl) ?_
    refine wpL_take (i := 2) (v := .pointer (some ⟨w.heap.size, h.toNat * 4, none⟩)) rfl (by kernel_rfl) (by kernel_rfl) (by kernel_rfl) (by kernel_rfl) (fun _ _ _ h => h) (Or.inl ⟨by kernel_rfl, fun _ => by go_simp⟩) (.inl ⟨FX.out.way.cell (j := 0) rfl, FX.out.way.cell (j := 1) rfl, FX.out.pl.cell HP0.out, FX.out.pl.cell HP1.out⟩) ?_
    refine wpL_take (i := 3) (v := .pointer (some ⟨w.heap.size, h.toNat * 4, none⟩)) rfl (by kernel_rfl) (by kernel_rfl) (by kernel_rfl) (by kernel_rfl) (fun _ _ _ h => h) (Or.inl ⟨by kernel_rfl, fun _ => by go_simp⟩) (.inl ⟨FX.out.way.cell (j := 0) rfl, FX.out.way.cell (j := 1) rfl, FX.out.pl.cell HP0.out, FX.out.pl.cell HP1.out⟩) ?_
    refine wpL_load (i := 4) (v := .int .i64 M) rfl (by kernel_rfl) (by kernel_rfl) (by kernel_rfl) (by kernel_rfl) (by kernel_rfl) (fun _ _ _ h => h) (Or.inl ⟨by kernel_rfl, fun W hW => by (obtain ⟨hA, hB, hC, hD⟩ := hW; go_simp)⟩) ⟨FX.out.way.cell (j := 0) rfl, FX.out.way.cell (j := 1) rfl, FX.out.pl.cell HP0.out, FX.out.pl.cell HP1.out⟩ (by kernel_rfl) ?_
    refine wpL_take (i := 5) (v := .pointer (some ⟨Bx, 0, none⟩)) rfl (by kernel_rfl) (by kernel_rfl) (by kernel_rfl) (by kernel_rfl) (fun _ _ _ h => h) (Or.inl ⟨by kernel_rfl, fun _ => by go_simp⟩) (.inl ⟨FX.out.way.cell (j := 0) rfl, FX.out.way.cell (j := 1) rfl, FX.out.pl.cell HP0.out, FX.out.pl.cell HP1.out⟩) ?_
    refine wpL_load (i := 6) (v := .int .i64 h) rfl (by kernel_rfl) (by kernel_rfl) (by kernel_rfl) (by kernel_rfl) (by kernel_rfl) (fun _ _ _ h => h) (Or.inl ⟨by kernel_rfl, fun W hW => by (obtain ⟨hA, hB, hC, hD⟩ := hW; go_simp)⟩) ⟨FX.out.way.cell (j := 0) rfl, FX.out.way.cell (j := 1) rfl, FX.out.pl.cell HP0.out, FX.out.pl.cell HP1.out⟩ (by kernel_rfl) ?_
    refine wpL_take (i := 7) (v := .pointer (some ⟨w.heap.size, h.toNat * 4, none⟩)) rfl (by kernel_rfl) (by kernel_rfl) (by kernel_rfl) (by kernel_rfl) (fun _ _ _ h => h) (Or.inl ⟨by kernel_rfl, fun _ => by go_simp⟩) (.inl ⟨FX.out.way.cell (j := 0) rfl, FX.out.way.cell (j := 1) rfl, FX.out.pl.cell HP0.out, FX.out.pl.cell HP1.out⟩) ?_
    refine wpL_take (i := 8) (v := .pointer (some ⟨w.heap.size, h.toNat * 4 + 1, none⟩)) rfl (by kernel_rfl) (by kernel_rfl) (by kernel_rfl) (by kernel_rfl) (fun _ _ _ h => h) (Or.inl ⟨by kernel_rfl, fun _ => by go_simp⟩) (.inl ⟨FX.out.way.cell (j := 0) rfl, FX.out.way.cell (j := 1) rfl, FX.out.pl.cell HP0.out, FX.out.pl.cell HP1.out⟩) ?_
    refine wpL_load (i := 9) (v := .int .i64 R) rfl (by kernel_rfl) (by kernel_rfl) (by kernel_rfl) (by kernel_rfl) (by kernel_rfl) (fun _ _ _ h => h) (Or.inl ⟨by kernel_rfl, fun W hW => by (obtain ⟨hA, hB, hC, hD⟩ := hW; go_simp)⟩) ⟨FX.out.way.cell (j := 0) rfl, FX.out.way.cell (j := 1) rfl, FX.out.pl.cell HP0.out, FX.out.pl.cell HP1.out⟩ (by kernel_rfl) ?_
    refine wpL_load (i := 10) (v := sv (h, y)) rfl (by kernel_rfl) (by kernel_rfl) (by kernel_rfl) (by kernel_rfl) (by kernel_rfl) (fun _ _ _ h => h) (Or.inl ⟨by kernel_rfl, fun W hW => by (obtain ⟨hA, hB, hC, hD⟩ := hW; go_simp)⟩) ⟨FX.out.way.cell (j := 0) rfl, FX.out.way.cell (j := 1) rfl, FX.out.pl.cell HP0.out, FX.out.pl.cell HP1.out⟩ (by kernel_rfl) ?_
    refine wpL_take (i := 11) (v := .agg #[.int .i64 M, .int .i64 R, .int .i64 h, .int .i64 y]) rfl (by kernel_rfl) (by kernel_rfl) (by kernel_rfl) (by kernel_rfl) (fun _ _ _ h => h) (Or.inl ⟨by kernel_rfl, fun _ => by go_simp⟩) (.inl ⟨FX.out.way.cell (j := 0) rfl, FX.out.way.cell (j := 1) rfl, FX.out.pl.cell HP0.out, FX.out.pl.cell HP1.out⟩) ?_
    refine wpL_ready (rs := [12]) (by kernel_rfl) (by simp) ?_
    refine AllL.cons rfl (fun K hK => ?_) AllL.nil
    rw [if_pos (by kernel_rfl)]
    go_simp
    replace FX := Lib.hid (FX.out.later (w_alloc (w_refl u) (.cells (plC ((0, 0), (0, 0))) 79)))
    have HP := Lib.hid (HoldsB.new u 79 (plC ((0, 0), (0, 0))))
    have NK : A.heap.size ≤ u.heap.size := NB
    clear NB
    generalize hy : World.alloc u _ = v at *
    clear hy
    generalize u.heap.size = k9 at *
    refine hK.out _ _ (.inl ⟨FX.out.way.cell (j := 0) rfl, FX.out.way.cell (j := 1) rfl, FX.out.pl.cell HP0.out, FX.out.pl.cell HP1.out⟩) ?_
    clear hK K
    refine wpL_ready (rs := [13]) (by kernel_rfl) (by simp) ?_
    refine AllL.cons rfl (fun K hK => ?_) AllL.nil
    have e0 := HP.out.cell (j := 0) rfl
    have e1 := HP.out.cell (j := 1) rfl
    have e2 := HP.out.cell (j := 2) rfl
    have e3 := HP.out.cell (j := 3) rfl
    have f0 := HP.out.frozen 0
    have f1 := HP.out.frozen 1
    have f2 := HP.out.frozen 2
    have f3 := HP.out.frozen 3
    rw [if_pos (by kernel_rfl)]
    go_simp
    clear e0 e1 e2 e3 f0 f1 f2 f3
    have NK9 : w.heap.size ≤ k9 := by omega
    have NA4 : b4 < A.heap.size := by omega
    have NA3 : b3 < A.heap.size := by omega
    replace FX := Lib.hid ((((FX.out.side HP.out NK NA4 NA3 NK9 0 (.int .i64 M)).side (HP.out.set 0 _) NK NA4 NA3 NK9 1 (.int .i64 R)).side ((HP.out.set 0 _).set 1 _) NK NA4 NA3 NK9 2 (.int .i64 h)).side (((HP.out.set 0 _).set 1 _).set 2 _) NK NA4 NA3 NK9 3 (.int .i64 y))
    replace HP := Lib.hid (show HoldsB (World.setCell (World.setCell (World.setCell (World.setCell v ⟨k9, 0, none⟩ (.int .i64 M)) ⟨k9, 1, none⟩ (.int .i64 R)) ⟨k9, 2, none⟩ (.int .i64 h)) ⟨k9, 3, none⟩ (.int .i64 y)) k9 79 (plC ((M, R), (h, y))) from (((HP.out.set 0 (.int .i64 M)).set 1 (.int .i64 R)).set 2 (.int .i64 h)).set 3 (.int .i64 y))
    generalize hy : (World.setCell (World.setCell (World.setCell (World.setCell v ⟨k9, 0, none⟩ (.int .i64 M)) ⟨k9, 1, none⟩ (.int .i64 R)) ⟨k9, 2, none⟩ (.int .i64 h)) ⟨k9, 3, none⟩ (.int .i64 y)) = z at *
    clear hy
    refine hK.out _ _ (.inr (by kernel_rfl)) ?_
    clear hK K
    refine wpL_done (by kernel_rfl) ?_ _
    obtain ⟨a1', a2'⟩ := a
    by_cases ha0 : a1' = 0
    · have HF := Lib.hid (HF0.out.trans (show addC (if a1' = 0 then (0, 0) else _) _ = (M, R) by rw [if_pos ha0]; unfold addC; simp))
      subst ha0
      clear HF0
      obtain ⟨C1, hC1⟩ : ∃ C, M = C := ⟨_, rfl⟩
      obtain ⟨C2, hC2⟩ : ∃ C, R = C := ⟨_, rfl⟩
      rw [hC1, hC2] at HF HP
      clear hC1 hC2
      have a0 := FX.out.aa.cell (j := 0) rfl
      by_cases hpre : pre = []
      · subst hpre
        have hb0 : ((B1, B2), (s1, s2)) = (((0, 0), (0, 0)) : Pl) := HE.out.symm
        simp only [Prod.mk.injEq] at hb0
        obtain ⟨⟨rfl, rfl⟩, rfl, rfl⟩ := hb0
        replace HS := Lib.hid (HS.out.trans (by rw [if_pos (.inl rfl), HF.out]))
        have t0 := FX.out.best.cell (j := 0) rfl
        have t1 := FX.out.best.cell (j := 1) rfl
        have t2 := FX.out.best.cell (j := 2) rfl
        have t3 := FX.out.best.cell (j := 3) rfl
        have f0 := FX.out.best.frozen 0
        have f1 := FX.out.best.frozen 1
        have f2 := FX.out.best.frozen 2
        have f3 := FX.out.best.frozen 3
        have p0 := HP.out.cell (j := 0) rfl
        have p1 := HP.out.cell (j := 1) rfl
        have p2 := HP.out.cell (j := 2) rfl
        have p3 := HP.out.cell (j := 3) rfl
        gi_wp2_with fail
        refine ⟨trivial, ?_⟩
        gi_wp2_with fail
        have FY := Lib.hid (FX.out.lay ((C1, C2), (h, y)) N1 N3 N4)
        show Mid _ _ _ ∧ _
        dsimp only
        rw [show minP _ _ [(h, y)] = _ from HS.out]
        exact ⟨FY.out.mid, ⟨⟨⟨⟨FY.out.bel, FY.out.pit⟩, FY.out.pl⟩, FY.out.aa⟩, FY.out.best⟩, FY.out.res⟩
      · have hmem := (HBM.out hpre).1
        have hsz := (HPRE.out _ hmem).1
        simp only at hsz
        have hbz : (s1 == 0) = false := by
          have : ¬ s1 = 0 := by omega
          simp [this]
        have BT := Lib.hid (fun W => CallsIn.inRound l2 (callsIn_wide (n := m2 - 1) |>.2 (wbetter_any ((C1, C2), (h, y)) ((B1, B2), (s1, s2)) W)))
        clear hmem hsz
        by_cases hlt : ltC (C1, C2) (B1, B2)
        · replace HS := Lib.hid (HS.out.trans (by rw [if_pos (.inr (by rw [HF.out]; exact hlt)), HF.out]))
          rw [show decide (ltC (C1, C2) (B1, B2)) = true from decide_eq_true hlt] at BT
          clear hlt hpre
          have t0 := FX.out.best.cell (j := 0) rfl
          have t1 := FX.out.best.cell (j := 1) rfl
          have t2 := FX.out.best.cell (j := 2) rfl
          have t3 := FX.out.best.cell (j := 3) rfl
          have f0 := FX.out.best.frozen 0
          have f1 := FX.out.best.frozen 1
          have f2 := FX.out.best.frozen 2
          have f3 := FX.out.best.frozen 3
          have p0 := HP.out.cell (j := 0) rfl
          have p1 := HP.out.cell (j := 1) rfl
          have p2 := HP.out.cell (j := 2) rfl
          have p3 := HP.out.cell (j := 3) rfl
          gi_wp2_with fail
          refine ⟨trivial, (fun h => by cases h), (BT.out _).mono ?_⟩
          rintro e z2 ⟨rfl, hb⟩
          replace FX := Lib.hid (FX.out.later hb)
          replace HP := Lib.hid (HP.out.later hb)
          clear hb BT t0 t1 t2 t3 f0 f1 f2 f3 p0 p1 p2 p3
          have t0 := FX.out.best.cell (j := 0) rfl
          have t1 := FX.out.best.cell (j := 1) rfl
          have t2 := FX.out.best.cell (j := 2) rfl
          have t3 := FX.out.best.cell (j := 3) rfl
          have f0 := FX.out.best.frozen 0
          have f1 := FX.out.best.frozen 1
          have f2 := FX.out.best.frozen 2
          have f3 := FX.out.best.frozen 3
          have p0 := HP.out.cell (j := 0) rfl
          have p1 := HP.out.cell (j := 1) rfl
          have p2 := HP.out.cell (j := 2) rfl
          have p3 := HP.out.cell (j := 3) rfl
          gi_wp2_with fail
          have FY := Lib.hid (FX.out.lay ((C1, C2), (h, y)) N1 N3 N4)
          show Mid _ _ _ ∧ _
          dsimp only
          rw [HS.out]
          exact ⟨FY.out.mid, ⟨⟨⟨⟨FY.out.bel, FY.out.pit⟩, FY.out.pl⟩, FY.out.aa⟩, FY.out.best⟩, FY.out.res⟩
        · replace HS := Lib.hid (HS.out.trans (by rw [if_neg (by rintro (x | x); exact hpre x; rw [HF.out] at x; exact hlt x)]))
          rw [show decide (ltC (C1, C2) (B1, B2)) = false from decide_eq_false hlt] at BT
          clear hlt hpre
          have t0 := FX.out.best.cell (j := 0) rfl
          have t1 := FX.out.best.cell (j := 1) rfl
          have t2 := FX.out.best.cell (j := 2) rfl
          have t3 := FX.out.best.cell (j := 3) rfl
          have f0 := FX.out.best.frozen 0
          have f1 := FX.out.best.frozen 1
          have f2 := FX.out.best.frozen 2
          have f3 := FX.out.best.frozen 3
          have p0 := HP.out.cell (j := 0) rfl
          have p1 := HP.out.cell (j := 1) rfl
          have p2 := HP.out.cell (j := 2) rfl
          have p3 := HP.out.cell (j := 3) rfl
          gi_wp2_with fail
          refine ⟨trivial, (fun h => by cases h), (BT.out _).mono ?_⟩
          rintro e z2 ⟨rfl, hb⟩
          replace FX := Lib.hid (FX.out.later hb)
          clear hb BT t0 t1 t2 t3 f0 f1 f2 f3 p0 p1 p2 p3
          gi_wp2_with fail
          show Mid _ _ _ ∧ _
          dsimp only
          rw [HS.out]
          exact ⟨FX.out.mid, ⟨⟨⟨⟨FX.out.bel, FX.out.pit⟩, FX.out.pl⟩, FX.out.aa⟩, FX.out.best⟩, FX.out.res⟩
    · have oka : okS (a1', a2') := HA.out.resolve_left (fun e => ha0 (by cases e; rfl))
      have haz : (a1' == 0) = false := by simp [ha0]
      have hbn1 : (a1' != 0) = true := by simp [ha0]
      by_cases hah : a1' = h
      · have HF := Lib.hid (HF0.out.trans (show addC (if a1' = 0 then (0, 0) else costS (a1', a2') (h, y)) _ = (M, R) by rw [if_neg ha0]; unfold costS; rw [if_pos hah]; unfold addC; simp))
        have hah' : h = a1' := hah.symm
        subst hah'
        clear HF0
        have hbn2 : (h != h) = false := by simp
        obtain ⟨C1, hC1⟩ : ∃ C, M = C := ⟨_, rfl⟩
        obtain ⟨C2, hC2⟩ : ∃ C, R = C := ⟨_, rfl⟩
        rw [hC1, hC2] at HF HP
        clear hC1 hC2
        have a0 := FX.out.aa.cell (j := 0) rfl
        have w0 := FX.out.way.cell (j := 0) rfl
        by_cases hpre : pre = []
        · subst hpre
          have hb0 : ((B1, B2), (s1, s2)) = (((0, 0), (0, 0)) : Pl) := HE.out.symm
          simp only [Prod.mk.injEq] at hb0
          obtain ⟨⟨rfl, rfl⟩, rfl, rfl⟩ := hb0
          replace HS := Lib.hid (HS.out.trans (by rw [if_pos (.inl rfl), HF.out]))
          have t0 := FX.out.best.cell (j := 0) rfl
          have t1 := FX.out.best.cell (j := 1) rfl
          have t2 := FX.out.best.cell (j := 2) rfl
          have t3 := FX.out.best.cell (j := 3) rfl
          have f0 := FX.out.best.frozen 0
          have f1 := FX.out.best.frozen 1
          have f2 := FX.out.best.frozen 2
          have f3 := FX.out.best.frozen 3
          have p0 := HP.out.cell (j := 0) rfl
          have p1 := HP.out.cell (j := 1) rfl
          have p2 := HP.out.cell (j := 2) rfl
          have p3 := HP.out.cell (j := 3) rfl
          gi_wp2_with fail
          refine ⟨trivial, ?_⟩
          gi_wp2_with fail
          have FY := Lib.hid (FX.out.lay ((C1, C2), (h, y)) N1 N3 N4)
          show Mid _ _ _ ∧ _
          dsimp only
          rw [show minP _ _ [(h, y)] = _ from HS.out]
          exact ⟨FY.out.mid, ⟨⟨⟨⟨FY.out.bel, FY.out.pit⟩, FY.out.pl⟩, FY.out.aa⟩, FY.out.best⟩, FY.out.res⟩
        · have hmem := (HBM.out hpre).1
          have hsz := (HPRE.out _ hmem).1
          simp only at hsz
          have hbz : (s1 == 0) = false := by
            have : ¬ s1 = 0 := by omega
            simp [this]
          have BT := Lib.hid (fun W => CallsIn.inRound l2 (callsIn_wide (n := m2 - 1) |>.2 (wbetter_any ((C1, C2), (h, y)) ((B1, B2), (s1, s2)) W)))
          clear hmem hsz
          by_cases hlt : ltC (C1, C2) (B1, B2)
          · replace HS := Lib.hid (HS.out.trans (by rw [if_pos (.inr (by rw [HF.out]; exact hlt)), HF.out]))
            rw [show decide (ltC (C1, C2) (B1, B2)) = true from decide_eq_true hlt] at BT
            clear hlt hpre
            have t0 := FX.out.best.cell (j := 0) rfl
            have t1 := FX.out.best.cell (j := 1) rfl
            have t2 := FX.out.best.cell (j := 2) rfl
            have t3 := FX.out.best.cell (j := 3) rfl
            have f0 := FX.out.best.frozen 0
            have f1 := FX.out.best.frozen 1
            have f2 := FX.out.best.frozen 2
            have f3 := FX.out.best.frozen 3
            have p0 := HP.out.cell (j := 0) rfl
            have p1 := HP.out.cell (j := 1) rfl
            have p2 := HP.out.cell (j := 2) rfl
            have p3 := HP.out.cell (j := 3) rfl
            gi_wp2_with fail
            refine ⟨trivial, (fun h => by cases h), (BT.out _).mono ?_⟩
            rintro e z2 ⟨rfl, hb⟩
            replace FX := Lib.hid (FX.out.later hb)
            replace HP := Lib.hid (HP.out.later hb)
            clear hb BT t0 t1 t2 t3 f0 f1 f2 f3 p0 p1 p2 p3
            have t0 := FX.out.best.cell (j := 0) rfl
            have t1 := FX.out.best.cell (j := 1) rfl
            have t2 := FX.out.best.cell (j := 2) rfl
            have t3 := FX.out.best.cell (j := 3) rfl
            have f0 := FX.out.best.frozen 0
            have f1 := FX.out.best.frozen 1
            have f2 := FX.out.best.frozen 2
            have f3 := FX.out.best.frozen 3
            have p0 := HP.out.cell (j := 0) rfl
            have p1 := HP.out.cell (j := 1) rfl
            have p2 := HP.out.cell (j := 2) rfl
            have p3 := HP.out.cell (j := 3) rfl
            gi_wp2_with fail
            have FY := Lib.hid (FX.out.lay ((C1, C2), (h, y)) N1 N3 N4)
            show Mid _ _ _ ∧ _
            dsimp only
            rw [HS.out]
            exact ⟨FY.out.mid, ⟨⟨⟨⟨FY.out.bel, FY.out.pit⟩, FY.out.pl⟩, FY.out.aa⟩, FY.out.best⟩, FY.out.res⟩
          · replace HS := Lib.hid (HS.out.trans (by rw [if_neg (by rintro (x | x); exact hpre x; rw [HF.out] at x; exact hlt x)]))
            rw [show decide (ltC (C1, C2) (B1, B2)) = false from decide_eq_false hlt] at BT
            clear hlt hpre
            have t0 := FX.out.best.cell (j := 0) rfl
            have t1 := FX.out.best.cell (j := 1) rfl
            have t2 := FX.out.best.cell (j := 2) rfl
            have t3 := FX.out.best.cell (j := 3) rfl
            have f0 := FX.out.best.frozen 0
            have f1 := FX.out.best.frozen 1
            have f2 := FX.out.best.frozen 2
            have f3 := FX.out.best.frozen 3
            have p0 := HP.out.cell (j := 0) rfl
            have p1 := HP.out.cell (j := 1) rfl
            have p2 := HP.out.cell (j := 2) rfl
            have p3 := HP.out.cell (j := 3) rfl
            gi_wp2_with fail
            refine ⟨trivial, (fun h => by cases h), (BT.out _).mono ?_⟩
            rintro e z2 ⟨rfl, hb⟩
            replace FX := Lib.hid (FX.out.later hb)
            clear hb BT t0 t1 t2 t3 f0 f1 f2 f3 p0 p1 p2 p3
            gi_wp2_with fail
            show Mid _ _ _ ∧ _
            dsimp only
            rw [HS.out]
            exact ⟨FX.out.mid, ⟨⟨⟨⟨FX.out.bel, FX.out.pit⟩, FX.out.pl⟩, FX.out.aa⟩, FX.out.best⟩, FX.out.res⟩
      · have hahz : (a1' == h) = false := by simp [hah]
        have hbn2 : (a1' != h) = true := by simp [hah]
        have SM1 := Lib.hid (SM.out oka)
        obtain ⟨C1, hC1⟩ : ∃ C : Nat, 1 + M = C := ⟨_, rfl⟩
        obtain ⟨D2, hD2⟩ : ∃ C : Nat, 1 + R = C := ⟨_, rfl⟩
        have xM : IntKind.i64.wrap ((M : Int) + 1) = (C1 : Int) := by rw [IntWalk.i64_in _ (by omega)]; omega
        have xR : IntKind.i64.wrap ((R : Int) + 1) = (D2 : Int) := by rw [IntWalk.i64_in _ (by omega)]; omega
        have HC1 := Lib.hid hC1
        have HD2 := Lib.hid hD2
        clear hC1 hD2
        have a0 := FX.out.aa.cell (j := 0) rfl
        have a1 := FX.out.aa.cell (j := 1) rfl
        have w0 := FX.out.way.cell (j := 0) rfl
        have w1 := FX.out.way.cell (j := 1) rfl
        have p0 := HP.out.cell (j := 0) rfl
        have pf := HP.out.frozen 0
        replace FX := Lib.hid (FX.out.side HP.out NK NA4 NA3 NK9 0 (.int .i64 C1))
        have b0 := FX.out.aa.cell (j := 0) rfl
        have b1' := FX.out.aa.cell (j := 1) rfl
        have v0 := FX.out.way.cell (j := 0) rfl
        have v1 := FX.out.way.cell (j := 1) rfl
        gi_wp2_with fail
        clear b0 b1' v0 v1
        replace HP := Lib.hid (show HoldsB (World.setCell z ⟨k9, 0, none⟩ (.int .i64 C1)) k9 79 (plC ((C1, R), (h, y))) from HP.out.set 0 (.int .i64 C1))
        clear a0 a1 w0 w1 p0 pf xM
        generalize hy : World.setCell z ⟨k9, 0, none⟩ _ = z1 at *
        clear hy
        refine ⟨trivial, (fun h => by cases h), (SM1.out _ FX.out.bel).mono ?_⟩
        rintro e z2 ⟨rfl, hb⟩
        replace FX := Lib.hid (FX.out.later hb)
        replace HP := Lib.hid (HP.out.later hb)
        clear hb SM1
        cases hsm : smoothB (a1', a2') (h, y) with
        | true =>
          have HF1 := Lib.hid (HF0.out.trans (show addC (if a1' = 0 then (0, 0) else costS (a1', a2') (h, y)) _ = (1 + M, 0 + R) by rw [if_neg ha0]; unfold costS; rw [if_neg hah, if_pos hsm]; rfl))
          clear HF0 ha0 hah xR HD2
          obtain ⟨C2, hC2⟩ : ∃ C, R = C := ⟨_, rfl⟩
          have HF := Lib.hid (HF1.out.trans (show (1 + M, 0 + R) = (C1, C2) by rw [HC1.out, ← hC2, Nat.zero_add]))
          rw [hC2] at HP
          clear HF1 hC2 hsm
          by_cases hpre : pre = []
          · subst hpre
            have hb0 : ((B1, B2), (s1, s2)) = (((0, 0), (0, 0)) : Pl) := HE.out.symm
            simp only [Prod.mk.injEq] at hb0
            obtain ⟨⟨rfl, rfl⟩, rfl, rfl⟩ := hb0
            replace HS := Lib.hid (HS.out.trans (by rw [if_pos (.inl rfl), HF.out]))
            have t0 := FX.out.best.cell (j := 0) rfl
            have t1 := FX.out.best.cell (j := 1) rfl
            have t2 := FX.out.best.cell (j := 2) rfl
            have t3 := FX.out.best.cell (j := 3) rfl
            have f0 := FX.out.best.frozen 0
            have f1 := FX.out.best.frozen 1
            have f2 := FX.out.best.frozen 2
            have f3 := FX.out.best.frozen 3
            have p0 := HP.out.cell (j := 0) rfl
            have p1 := HP.out.cell (j := 1) rfl
            have p2 := HP.out.cell (j := 2) rfl
            have p3 := HP.out.cell (j := 3) rfl
            gi_wp2_with fail
            refine ⟨trivial, ?_⟩
            gi_wp2_with fail
            have FY := Lib.hid (FX.out.lay ((C1, C2), (h, y)) N1 N3 N4)
            show Mid _ _ _ ∧ _
            dsimp only
            rw [show minP _ _ [(h, y)] = _ from HS.out]
            exact ⟨FY.out.mid, ⟨⟨⟨⟨FY.out.bel, FY.out.pit⟩, FY.out.pl⟩, FY.out.aa⟩, FY.out.best⟩, FY.out.res⟩
          · have hmem := (HBM.out hpre).1
            have hsz := (HPRE.out _ hmem).1
            simp only at hsz
            have hbz : (s1 == 0) = false := by
              have : ¬ s1 = 0 := by omega
              simp [this]
            have BT := Lib.hid (fun W => CallsIn.inRound l2 (callsIn_wide (n := m2 - 1) |>.2 (wbetter_any ((C1, C2), (h, y)) ((B1, B2), (s1, s2)) W)))
            clear hmem hsz
            by_cases hlt : ltC (C1, C2) (B1, B2)
            · replace HS := Lib.hid (HS.out.trans (by rw [if_pos (.inr (by rw [HF.out]; exact hlt)), HF.out]))
              rw [show decide (ltC (C1, C2) (B1, B2)) = true from decide_eq_true hlt] at BT
              clear hlt hpre
              have t0 := FX.out.best.cell (j := 0) rfl
              have t1 := FX.out.best.cell (j := 1) rfl
              have t2 := FX.out.best.cell (j := 2) rfl
              have t3 := FX.out.best.cell (j := 3) rfl
              have f0 := FX.out.best.frozen 0
              have f1 := FX.out.best.frozen 1
              have f2 := FX.out.best.frozen 2
              have f3 := FX.out.best.frozen 3
              have p0 := HP.out.cell (j := 0) rfl
              have p1 := HP.out.cell (j := 1) rfl
              have p2 := HP.out.cell (j := 2) rfl
              have p3 := HP.out.cell (j := 3) rfl
              gi_wp2_with fail
              refine ⟨trivial, (fun h => by cases h), (BT.out _).mono ?_⟩
              rintro e z2 ⟨rfl, hb⟩
              replace FX := Lib.hid (FX.out.later hb)
              replace HP := Lib.hid (HP.out.later hb)
              clear hb BT t0 t1 t2 t3 f0 f1 f2 f3 p0 p1 p2 p3
              have t0 := FX.out.best.cell (j := 0) rfl
              have t1 := FX.out.best.cell (j := 1) rfl
              have t2 := FX.out.best.cell (j := 2) rfl
              have t3 := FX.out.best.cell (j := 3) rfl
              have f0 := FX.out.best.frozen 0
              have f1 := FX.out.best.frozen 1
              have f2 := FX.out.best.frozen 2
              have f3 := FX.out.best.frozen 3
              have p0 := HP.out.cell (j := 0) rfl
              have p1 := HP.out.cell (j := 1) rfl
              have p2 := HP.out.cell (j := 2) rfl
              have p3 := HP.out.cell (j := 3) rfl
              gi_wp2_with fail
              have FY := Lib.hid (FX.out.lay ((C1, C2), (h, y)) N1 N3 N4)
              show Mid _ _ _ ∧ _
              dsimp only
              rw [HS.out]
              exact ⟨FY.out.mid, ⟨⟨⟨⟨FY.out.bel, FY.out.pit⟩, FY.out.pl⟩, FY.out.aa⟩, FY.out.best⟩, FY.out.res⟩
            · replace HS := Lib.hid (HS.out.trans (by rw [if_neg (by rintro (x | x); exact hpre x; rw [HF.out] at x; exact hlt x)]))
              rw [show decide (ltC (C1, C2) (B1, B2)) = false from decide_eq_false hlt] at BT
              clear hlt hpre
              have t0 := FX.out.best.cell (j := 0) rfl
              have t1 := FX.out.best.cell (j := 1) rfl
              have t2 := FX.out.best.cell (j := 2) rfl
              have t3 := FX.out.best.cell (j := 3) rfl
              have f0 := FX.out.best.frozen 0
              have f1 := FX.out.best.frozen 1
              have f2 := FX.out.best.frozen 2
              have f3 := FX.out.best.frozen 3
              have p0 := HP.out.cell (j := 0) rfl
              have p1 := HP.out.cell (j := 1) rfl
              have p2 := HP.out.cell (j := 2) rfl
              have p3 := HP.out.cell (j := 3) rfl
              gi_wp2_with fail
              refine ⟨trivial, (fun h => by cases h), (BT.out _).mono ?_⟩
              rintro e z2 ⟨rfl, hb⟩
              replace FX := Lib.hid (FX.out.later hb)
              clear hb BT t0 t1 t2 t3 f0 f1 f2 f3 p0 p1 p2 p3
              gi_wp2_with fail
              show Mid _ _ _ ∧ _
              dsimp only
              rw [HS.out]
              exact ⟨FX.out.mid, ⟨⟨⟨⟨FX.out.bel, FX.out.pit⟩, FX.out.pl⟩, FX.out.aa⟩, FX.out.best⟩, FX.out.res⟩
        | false =>
          have HF1 := Lib.hid (HF0.out.trans (show addC (if a1' = 0 then (0, 0) else costS (a1', a2') (h, y)) _ = (1 + M, 1 + R) by rw [if_neg ha0]; unfold costS; rw [if_neg hah, if_neg (by rw [hsm]; decide)]; rfl))
          have HF := Lib.hid (HF1.out.trans (show (1 + M, 1 + R) = (C1, D2) by rw [HC1.out, HD2.out]))
          clear HF0 ha0 hah HF1 hsm
          have r1 := HP.out.cell (j := 1) rfl
          have rf := HP.out.frozen 1
          replace FX := Lib.hid (FX.out.side HP.out NK NA4 NA3 NK9 1 (.int .i64 D2))
          replace HP := Lib.hid (show HoldsB (World.setCell z2 ⟨k9, 1, none⟩ (.int .i64 D2)) k9 79 (plC ((C1, D2), (h, y))) from HP.out.set 1 (.int .i64 D2))
          by_cases hpre : pre = []
          · subst hpre
            have hb0 : ((B1, B2), (s1, s2)) = (((0, 0), (0, 0)) : Pl) := HE.out.symm
            simp only [Prod.mk.injEq] at hb0
            obtain ⟨⟨rfl, rfl⟩, rfl, rfl⟩ := hb0
            replace HS := Lib.hid (HS.out.trans (by rw [if_pos (.inl rfl), HF.out]))
            have t0 := FX.out.best.cell (j := 0) rfl
            have t1 := FX.out.best.cell (j := 1) rfl
            have t2 := FX.out.best.cell (j := 2) rfl
            have t3 := FX.out.best.cell (j := 3) rfl
            have f0 := FX.out.best.frozen 0
            have f1 := FX.out.best.frozen 1
            have f2 := FX.out.best.frozen 2
            have f3 := FX.out.best.frozen 3
            have p0 := HP.out.cell (j := 0) rfl
            have p1 := HP.out.cell (j := 1) rfl
            have p2 := HP.out.cell (j := 2) rfl
            have p3 := HP.out.cell (j := 3) rfl
            gi_wp2_with fail
            refine ⟨trivial, ?_⟩
            gi_wp2_with fail
            have FY := Lib.hid (FX.out.lay ((C1, D2), (h, y)) N1 N3 N4)
            show Mid _ _ _ ∧ _
            dsimp only
            rw [show minP _ _ [(h, y)] = _ from HS.out]
            exact ⟨FY.out.mid, ⟨⟨⟨⟨FY.out.bel, FY.out.pit⟩, FY.out.pl⟩, FY.out.aa⟩, FY.out.best⟩, FY.out.res⟩
          · have hmem := (HBM.out hpre).1
            have hsz := (HPRE.out _ hmem).1
            simp only at hsz
            have hbz : (s1 == 0) = false := by
              have : ¬ s1 = 0 := by omega
              simp [this]
            have BT := Lib.hid (fun W => CallsIn.inRound l2 (callsIn_wide (n := m2 - 1) |>.2 (wbetter_any ((C1, D2), (h, y)) ((B1, B2), (s1, s2)) W)))
            clear hmem hsz
            by_cases hlt : ltC (C1, D2) (B1, B2)
            · replace HS := Lib.hid (HS.out.trans (by rw [if_pos (.inr (by rw [HF.out]; exact hlt)), HF.out]))
              rw [show decide (ltC (C1, D2) (B1, B2)) = true from decide_eq_true hlt] at BT
              clear hlt hpre
              have t0 := FX.out.best.cell (j := 0) rfl
              have t1 := FX.out.best.cell (j := 1) rfl
              have t2 := FX.out.best.cell (j := 2) rfl
              have t3 := FX.out.best.cell (j := 3) rfl
              have f0 := FX.out.best.frozen 0
              have f1 := FX.out.best.frozen 1
              have f2 := FX.out.best.frozen 2
              have f3 := FX.out.best.frozen 3
              have p0 := HP.out.cell (j := 0) rfl
              have p1 := HP.out.cell (j := 1) rfl
              have p2 := HP.out.cell (j := 2) rfl
              have p3 := HP.out.cell (j := 3) rfl
              gi_wp2_with fail
              refine ⟨trivial, (fun h => by cases h), (BT.out _).mono ?_⟩
              rintro e z4 ⟨rfl, hb⟩
              replace FX := Lib.hid (FX.out.later hb)
              replace HP := Lib.hid (HP.out.later hb)
              clear hb BT t0 t1 t2 t3 f0 f1 f2 f3 p0 p1 p2 p3
              have t0 := FX.out.best.cell (j := 0) rfl
              have t1 := FX.out.best.cell (j := 1) rfl
              have t2 := FX.out.best.cell (j := 2) rfl
              have t3 := FX.out.best.cell (j := 3) rfl
              have f0 := FX.out.best.frozen 0
              have f1 := FX.out.best.frozen 1
              have f2 := FX.out.best.frozen 2
              have f3 := FX.out.best.frozen 3
              have p0 := HP.out.cell (j := 0) rfl
              have p1 := HP.out.cell (j := 1) rfl
              have p2 := HP.out.cell (j := 2) rfl
              have p3 := HP.out.cell (j := 3) rfl
              gi_wp2_with fail
              have FY := Lib.hid (FX.out.lay ((C1, D2), (h, y)) N1 N3 N4)
              show Mid _ _ _ ∧ _
              dsimp only
              rw [HS.out]
              exact ⟨FY.out.mid, ⟨⟨⟨⟨FY.out.bel, FY.out.pit⟩, FY.out.pl⟩, FY.out.aa⟩, FY.out.best⟩, FY.out.res⟩
            · replace HS := Lib.hid (HS.out.trans (by rw [if_neg (by rintro (x | x); exact hpre x; rw [HF.out] at x; exact hlt x)]))
              rw [show decide (ltC (C1, D2) (B1, B2)) = false from decide_eq_false hlt] at BT
              clear hlt hpre
              have t0 := FX.out.best.cell (j := 0) rfl
              have t1 := FX.out.best.cell (j := 1) rfl
              have t2 := FX.out.best.cell (j := 2) rfl
              have t3 := FX.out.best.cell (j := 3) rfl
              have f0 := FX.out.best.frozen 0
              have f1 := FX.out.best.frozen 1
              have f2 := FX.out.best.frozen 2
              have f3 := FX.out.best.frozen 3
              have p0 := HP.out.cell (j := 0) rfl
              have p1 := HP.out.cell (j := 1) rfl
              have p2 := HP.out.cell (j := 2) rfl
              have p3 := HP.out.cell (j := 3) rfl
              gi_wp2_with fail
              refine ⟨trivial, (fun h => by cases h), (BT.out _).mono ?_⟩
              rintro e z4 ⟨rfl, hb⟩
              replace FX := Lib.hid (FX.out.later hb)
              clear hb BT t0 t1 t2 t3 f0 f1 f2 f3 p0 p1 p2 p3
              gi_wp2_with fail
              show Mid _ _ _ ∧ _
              dsimp only
              rw [HS.out]
              exact ⟨FX.out.mid, ⟨⟨⟨⟨FX.out.bel, FX.out.pit⟩, FX.out.pl⟩, FX.out.aa⟩, FX.out.best⟩, FX.out.res⟩
  case done =>
    rintro D A hD ⟨⟨⟨⟨⟨h1, h2⟩, h3⟩, h4⟩, h5⟩, h6⟩ hd
    obtain ⟨bp, hbp⟩ : ∃ bp, minP (stepL L a) (0, 0) (waysL q) = bp := ⟨_, rfl⟩
    rw [hbp] at h5
    have HBP := Lib.hid hbp
    clear hbp
    obtain ⟨⟨B1, B2⟩, s1, s2⟩ := bp
    have t0 := h5.cell (j := 0) rfl
    have t1 := h5.cell (j := 1) rfl
    have t2 := h5.cell (j := 2) rfl
    have t3 := h5.cell (j := 3) rfl
    have r0 := h6.cell (j := 0) rfl
    have r1 := h6.cell (j := 1) rfl
    have r2 := h6.cell (j := 2) rfl
    have r3 := h6.cell (j := 3) rfl
    have f0 := h6.frozen 0
    have f1 := h6.frozen 1
    have f2 := h6.frozen 2
    have f3 := h6.frozen 3
    have HB := Lib.hid h1
    have HR := Lib.hid h6
    have HD := Lib.hid hD
    clear h1 h2 h3 h4 h5 h6 hD
    gi_wp2_with fail
    have hne : ∀ j, D ≠ (⟨b3, j, none⟩ : Addr).block := fun j => by have := HD.out; show D ≠ b3; omega
    have hd2 : (lay4 A b3 ((B1, B2), (s1, s2))).heap[D]? = some (.deferred (some [])) := (Below.heap_setCell _ _ _ _ (hne 3)).trans ((Below.heap_setCell _ _ _ _ (hne 2)).trans ((Below.heap_setCell _ _ _ _ (hne 1)).trans ((Below.heap_setCell _ _ _ _ (hne 0)).trans hd)))
    refine ⟨by simp, .inl ⟨_, _, rfl, run_takeDeferred hd2, ?_⟩⟩
    have hc := holds_own b3 _ (fun (_ : Unit) => _) () _ _ _ (HR.out.lay4 ((B1, B2), (s1, s2))) (grownBy_putObj' _ D (.deferred none)) (fun r e => by cases e; exact ⟨_, hd2, rfl⟩)
    have k0 := hc.cell (j := 0) rfl
    have k1 := hc.cell (j := 1) rfl
    have k2 := hc.cell (j := 2) rfl
    have k3 := hc.cell (j := 3) rfl
    refine ⟨plV ((B1, B2), (s1, s2)), by simp [results, Tryd.results57, go_sem, k0, k1, k2, k3], by rw [HBP.out], ?_⟩
    exact ((((HB.out.setCell (p := ⟨b3, 0, none⟩) N6 _).setCell (p := ⟨b3, 1, none⟩) N6 _).setCell (p := ⟨b3, 2, none⟩) N6 _).setCell (p := ⟨b3, 3, none⟩) N6 _).trans (belowK_b (w := w) (Nat.le_refl _) _ D _ _ (by have := HD.out; omega) hd2 rfl rfl)
  case stop =>
    rintro D A hD hx hd
    exact hx.elim

end Go.Proofs.YtaldbjhalpgkeaaDoor
