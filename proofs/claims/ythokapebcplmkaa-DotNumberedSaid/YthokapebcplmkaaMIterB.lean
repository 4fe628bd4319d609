/- The program's Levels: a list collected from the iterator. -/
import Derived.Test.YthokapebcplmkaaMIter
namespace Go.Proofs.Ythokapebcplmkaa
open Go.RowKit Go.Shelf
attribute [local go_sem] Oper.semAt_some

theorem own_row {A : World} {base : Nat} {k : Nat} {v : Value} {n : Nat} {cs : List Value} (h : A.ownsRow base 3 k v n cs) : ∀ r, v.ownBlock = some r → ∃ o : Obj, A.heap[r]? = some o ∧ plainO o = false := by
  intro r hr
  rcases h.2 with ⟨rfl, _⟩ | ⟨g, cap, cur, rfl, _, hh, _⟩
  · cases hr
  · simp only [Value.ownBlock, Option.some.injEq] at hr
    subst hr
    exact ⟨_, hh, rfl⟩
theorem below_from {w : World} {B : Nat} (hB : w.heap.size ≤ B) : OwnFrom B (fun (_ : Unit) A => Below w.heap.size w A) := by
  rintro s A A' row h hg hr
  exact h.grown hg h.size (fun j e => by have := (hr j e).1; omega)

abbrev itF (bv bl : Nat) : Value := .func (.func 75) #[] #[.pointer (some ⟨bv, 0, none⟩), .pointer (some ⟨bl, 0, none⟩)]
theorem perfAbove_any (q : Q4) (v : Int) (w : World) : Calls Try.prog 71 #[mv q, .int .i64 v] w fun e w' => e = .returned (itF (w.heap.size + 1) w.heap.size) ∧ ItC (w.heap.size + 1) w.heap.size v q w' ∧ Below w.heap.size w w' := by
  have r0 := Lib.hid ((HoldsB.new w 82 #[.int .i64 q.1, .int .i64 q.2.1, .int .i64 q.2.2.1, .int .i64 q.2.2.2]).al (.cells #[.int .i64 v] 3))
  have r1 := Lib.hid (HoldsB.new (w.alloc (nO q)) 3 #[.int .i64 v])
  rw [World.size_alloc] at r1
  obtain ⟨a, b, c, d⟩ := q
  go_enter Try.func71, Try.ntmps71
  go_wp2_with fail
  go_ret
  exact ⟨rfl, ⟨r1.out.cell rfl, r0.out.cell rfl, r0.out.cell rfl, r0.out.cell rfl, r0.out.cell rfl⟩, w_alloc (w_alloc (w_refl w) _) _⟩

/-- Two results in blocks of one cell each. -/
theorem two_put {W : World} {b c : Nat} {t u : TypeId} {x y : Value} (h : HoldsB W b t #[x]) (k : HoldsB W c u #[y]) (hne : c ≠ b) (X Y : Value) :
    (W.setCell ⟨b, 0, none⟩ X).cell? ⟨b, 0, none⟩ = some X ∧ ((W.setCell ⟨b, 0, none⟩ X).setCell ⟨c, 0, none⟩ Y).cell? ⟨c, 0, none⟩ = some Y :=
  ⟨(h.set 0 X).cell rfl, ((k.other hne 0 X).set 0 Y).cell rfl⟩

set_option maxRecDepth 100000 in
set_option maxHeartbeats 4000000 in
theorem above_any (q : Q4) (v : Int) (w : World) : Calls Try.prog 64 #[mv q, .int .i64 v] w fun e w' => e = .returned (.tuple #[.int .i64 (aboV q v), .int .i64 (valE q v)]) ∧ Below w.heap.size w w' := by
  refine (callsIn_wide (n := 1)).1 ?_
  have C := Lib.hid (fun W => callsIn_wide (n := 0) |>.2 (mboth_any q v W))
  have r0 := Lib.hid ((HoldsB.new w 23 #[.int .i64 q.1, .int .i64 q.2.1, .int .i64 q.2.2.1, .int .i64 q.2.2.2]))
  have r1 := Lib.hid (HoldsB.new (w.alloc (mO q)) 3 #[.int .i64 0])
  have r2 := Lib.hid (HoldsB.new ((w.alloc (mO q)).alloc (.cells #[.int .i64 0] 3)) 28 #[.int .i64 0])
  simp only [World.size_alloc] at r1 r2
  refine callsIn_of_wp_marks Try.func64 rfl trivial ?_ rfl
  simp only [Try.ntmps64, List.size_toArray, List.length_cons, List.length_nil, Nat.reduceAdd, Nat.reduceSub, Array.replicate_succ, Array.replicate_zero, List.push_toArray, List.append_toArray, List.nil_append, List.cons_append]
  by_cases h : valE q v = 0
  · have hf := aboV_ok h
    rw [abv_head] at hf
    rw [hf, h]
    rw [h] at C
    obtain ⟨hq, hv⟩ := valE_zero h
    have NU := Lib.hid (fun W => callsIn_wide (n := 0) |>.2 (numsOf_any q W))
    have PA := Lib.hid (fun W => callsIn_wide (n := 0) |>.2 (perfAbove_any q v W))
    have G := Lib.hid (fun bv bl => above_gives q hq v hv bv bl)
    clear h hf hq hv
    generalize levUp q (v - 1).toNat = xs at *
    have IC := Lib.hid (fun bv bl W W' (h : ItC bv bl v q W) (k : Below W.heap.size W W') => h.later k)
    obtain ⟨a, b, c, d⟩ := q
    gi_wp2_with fail
    refine ⟨trivial, (C.out _).mono ?_⟩
    rintro e w1 ⟨rfl, hb⟩
    have hB := Lib.hid (w_below (w_alloc (w_alloc (w_alloc (w_refl w) (mO (a, b, c, d))) (.cells #[.int .i64 0] 3)) (.cells #[.int .i64 0] 28)) hb)
    replace r0 := Lib.hid (((r0.out.al _).al _).later hb)
    replace r1 := Lib.hid ((r1.out.al _).later hb)
    replace r2 := Lib.hid (r2.out.later hb)
    clear hb C
    have c0 := r0.out.cell (j := 0) rfl
    have c1 := r0.out.cell (j := 1) rfl
    have c2 := r0.out.cell (j := 2) rfl
    have c3 := r0.out.cell (j := 3) rfl
    gi_wp2_with fail
    refine ⟨trivial, (NU.out _).mono ?_⟩
    rintro e w2 ⟨rfl, hb⟩
    replace hB := Lib.hid (w_below hB.out hb)
    replace r1 := Lib.hid (r1.out.later hb)
    replace r2 := Lib.hid (r2.out.later hb)
    clear hb NU c0 c1 c2 c3 r0
    gi_wp2_with fail
    refine ⟨trivial, (PA.out _).mono ?_⟩
    rintro e w3 ⟨rfl, hi, hb⟩
    replace hB := Lib.hid (w_below hB.out hb)
    replace r1 := Lib.hid (r1.out.later hb)
    replace r2 := Lib.hid (r2.out.later hb)
    have HI := Lib.hid hi
    have hs3 := r2.out.lt
    clear hb hi PA
    gi_wp2_with fail
    refine wpIn_gives (G.out _ _) rfl (enters_of Try.func75 (by kernel_rfl) rfl) rfl
      (fun pre A => pre = [] ∧ Below w3.heap.size w3 A)
      (fun A => HoldsB A (w.heap.size + 1) 3 #[.int .i64 (xs.headD 0)] ∧ HoldsB A (w.heap.size + 1 + 1) 28 #[.int .i64 0] ∧ Below w.heap.size w A) ?hC ?hI ?hIx ?h0
      (fun x a' A => a' = { tmps := #[mv (a, b, c, d), .int .i64 v, .pointer (some ⟨w.heap.size, 0, none⟩), undef, .pointer (some ⟨w.heap.size + 1, 0, none⟩), .pointer (some ⟨w.heap.size + 1 + 1, 0, none⟩), .int .i64 0, .int .i64 x, mv (a, b, c, d), .int .i64 v, .int .i64 0, .int .i64 0, .bool false, undef, mv (a, b, c, d), mv (a, b, c, d), .int .i64 v, itF (w2.heap.size + 1) w2.heap.size, .int .i64 x, undef], defers := [] })
      ?hAx ?assign ?body ?done ?stop
    case hC =>
      rintro pre A ⟨_, h2⟩
      exact IC.out _ _ _ _ HI.out h2
    case hI =>
      rintro pre A A' row ⟨e, h2⟩ hg hr
      exact ⟨e, below_from (w := w3) (Nat.le_refl _) () A A' row h2 hg hr⟩
    case hIx =>
      rintro _ A A' row ⟨h1, h2, h3⟩ hg hr
      exact ⟨holds_own _ _ (fun (_ : Unit) => _) () A A' row h1 hg (fun r e => (hr r e).2), holds_own _ _ (fun (_ : Unit) => _) () A A' row h2 hg (fun r e => (hr r e).2), below_from (w := w) hB.out.size () A A' row h3 hg hr⟩
    case h0 => exact ⟨rfl, w_refl _⟩
    case hAx =>
      rintro x a' s A A' row e hg hr
      exact e
    case assign =>
      rintro m2 l2 pre x A K hle ⟨u, h2⟩ hK
      gi_wp2_with fail
      exact hK _ _ (Mid.refl _ _) ⟨u, h2⟩ rfl
    case body =>
      rintro m2 l2 pre x post a' A hx hle ⟨u, h2⟩ rfl
      have hh : xs.headD 0 = x := by rw [hx, u]; rfl
      rw [hh]
      have k1 := Lib.hid (r1.out.later h2)
      have k2 := Lib.hid (r2.out.later h2)
      have hB4 := Lib.hid (w_below hB.out h2)
      have e1 := k1.out.cell (j := 0) rfl
      have e2 := k2.out.cell (j := 0) rfl
      have f1 := k1.out.frozen 0
      have f2 := k2.out.frozen 0
      clear h2 u hx hh
      gi_wp2_with fail
      exact ⟨(Mid.set _ _ (by omega) _ _).trans (Mid.set _ _ (by omega) _ _), (k1.out.set 0 _).other (by omega) 0 _, (k2.out.other (by omega) 0 _).set 0 _, w_put (w_put hB4.out (by omega) _ _) (by omega) _ _⟩
    case done =>
      rintro D A hD ⟨u, h2⟩ hd
      have hh := Lib.hid (show xs.headD 0 = 0 by rw [u]; rfl)
      have k1 := Lib.hid (r1.out.later h2)
      have k2 := Lib.hid (r2.out.later h2)
      have hB4 := Lib.hid (w_below hB.out h2)
      have e1 := k1.out.cell (j := 0) rfl
      have e2 := k2.out.cell (j := 0) rfl
      have f1 := k1.out.frozen 0
      have f2 := k2.out.frozen 0
      have hs4 := h2.size
      clear h2 u
      obtain ⟨A2, hA2⟩ : ∃ A2, (A.setCell ⟨w.heap.size + 1, 0, none⟩ (.int .i64 0)).setCell ⟨w.heap.size + 1 + 1, 0, none⟩ (.int .i64 0) = A2 := ⟨_, rfl⟩
      have g1 := Lib.hid (show HoldsB A2 (w.heap.size + 1) 3 #[.int .i64 0] from hA2 ▸ (k1.out.set 0 _).other (by omega) 0 _)
      have g2 := Lib.hid (show HoldsB A2 (w.heap.size + 1 + 1) 28 #[.int .i64 0] from hA2 ▸ (k2.out.other (by omega) 0 _).set 0 _)
      have hB5 := Lib.hid (show Below w.heap.size w A2 from hA2 ▸ w_put (w_put hB4.out (by omega) _ _) (by omega) _ _)
      have hd2 := Lib.hid (show A2.heap[D]? = some (.deferred (some [])) from hA2 ▸ (Below.heap_setCell _ _ _ _ (by simp only; omega)).trans ((Below.heap_setCell _ _ _ _ (by simp only; omega)).trans hd))
      gi_wp2_with fail
      have d1 : ∀ o, (A2.putObj D o).cell? ⟨w.heap.size + 1, 0, none⟩ = some (.int .i64 0) := fun o => HoldsB.cell (t := 3) (cs := #[.int .i64 0]) ((World.putObj_heap_other (by omega)).trans g1.out) rfl
      have d2 : ∀ o, (A2.putObj D o).cell? ⟨w.heap.size + 1 + 1, 0, none⟩ = some (.int .i64 0) := fun o => HoldsB.cell (t := 28) (cs := #[.int .i64 0]) ((World.putObj_heap_other (by omega)).trans g2.out) rfl
      refine ⟨by simp, .inl ⟨_, _, rfl, run_takeDeferred hd2.out, ?_⟩⟩
      refine ⟨.tuple #[.int .i64 0, .int .i64 0], (by simp [results, Try.results64, go_sem, d1, d2]), by rw [hh.out], ?_⟩
      exact hB5.out.trans (belowK_b (w := w) (Nat.le_refl _) A2 D _ _ (by omega) hd2.out rfl rfl)
    case stop =>
      rintro D A hD ⟨h1, h2, h3⟩ hd
      obtain ⟨X, hX⟩ : ∃ X, xs.headD 0 = X := ⟨_, rfl⟩
      rw [hX] at h1
      have HX := Lib.hid hX
      have g1 := Lib.hid h1
      have g2 := Lib.hid h2
      have hB5 := Lib.hid h3
      have hd2 := Lib.hid hd
      clear h1 h2 h3 hd hX
      gi_wp2_with fail
      have d1 : ∀ o, (A.putObj D o).cell? ⟨w.heap.size + 1, 0, none⟩ = some (.int .i64 X) := fun o => HoldsB.cell (t := 3) (cs := #[.int .i64 X]) ((World.putObj_heap_other (by omega)).trans g1.out) rfl
      have d2 : ∀ o, (A.putObj D o).cell? ⟨w.heap.size + 1 + 1, 0, none⟩ = some (.int .i64 0) := fun o => HoldsB.cell (t := 28) (cs := #[.int .i64 0]) ((World.putObj_heap_other (by omega)).trans g2.out) rfl
      refine ⟨by simp, .inl ⟨_, _, rfl, run_takeDeferred hd2.out, ?_⟩⟩
      refine ⟨.tuple #[.int .i64 X, .int .i64 0], (by simp [results, Try.results64, go_sem, d1, d2]), by rw [HX.out], ?_⟩
      exact hB5.out.trans (belowK_b (w := w) (Nat.le_refl _) A D _ _ (by omega) hd2.out rfl rfl)
  · have hf := aboV_no h
    rw [hf]
    have hne : (valE q v != 0) = true := by simp [h]
    have hne2 : (valE q v == 0) = false := by simp [h]
    clear h hf
    generalize valE q v = E at *
    obtain ⟨a, b, c, d⟩ := q
    gi_wp2_with fail
    refine ⟨trivial, (C.out _).mono ?_⟩
    rintro e w1 ⟨rfl, hb⟩
    have hB := Lib.hid (w_below (w_alloc (w_alloc (w_alloc (w_refl w) (mO (a, b, c, d))) (.cells #[.int .i64 0] 3)) (.cells #[.int .i64 0] 28)) hb)
    replace r1 := Lib.hid ((r1.out.al _).later hb)
    replace r2 := Lib.hid (r2.out.later hb)
    clear hb C
    obtain ⟨d1, d2⟩ := two_put r1.out r2.out (by omega) (.int .i64 0) (.int .i64 E)
    have e1 := r1.out.cell (j := 0) rfl
    have e2 := r2.out.cell (j := 0) rfl
    have f1 := r1.out.frozen 0
    have f2 := r2.out.frozen 0
    gi_wp2_with fail
    refine ⟨.tuple #[.int .i64 0, .int .i64 E], (by simp [results, Try.results64, go_sem, d1, d2]), rfl, ?_⟩
    exact w_put (w_put hB.out (by omega) _ _) (by omega) _ _

end Go.Proofs.Ythokapebcplmkaa
