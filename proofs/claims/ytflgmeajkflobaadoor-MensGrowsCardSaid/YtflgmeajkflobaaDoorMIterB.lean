/- The program's Levels: a list collected from the iterator. -/
import Derived.Test.YtflgmeajkflobaaDoorMIter
namespace Go.Proofs.YtflgmeajkflobaaDoor
open Go.RowKit Go.Shelf
attribute [local go_sem] Oper.semAt_some

theorem own_row {A : World} {base : Nat} {k : Nat} {v : Value} {n : Nat} {cs : List Value} (h : A.ownsRow base 3 k v n cs) : ∀ r, v.ownBlock = some r → ∃ o : Obj, A.heap[r]? = some o ∧ plainO o = false := by
  intro r hr
  rcases h.2 with ⟨rfl, _⟩ | ⟨g, cap, cur, rfl, _, hh, _⟩
  · cases hr
  · simp only [Value.ownBlock, Option.some.injEq] at hr
    subst hr
    exact ⟨_, hh, rfl⟩
theorem below_from {w : World} {B : Nat} (hB : w.heap.size ≤ B) : OwnFrom B (fun (_ : Unit) A => Below w.heap.size w A) := by
  rintro s A A' row h hg hr
  exact h.grown hg h.size (fun j e => by have := (hr j e).1; omega)

abbrev itF (bv bl : Nat) : Value := .func (.func 54) #[] #[.pointer (some ⟨bv, 0, none⟩), .pointer (some ⟨bl, 0, none⟩)]
theorem perfAbove_any (q : Q4) (v : Int) (w : World) : Calls Tryd.prog 45 #[mv q, .int .i64 v] w fun e w' => e = .returned (itF (w.heap.size + 1) w.heap.size) ∧ ItC (w.heap.size + 1) w.heap.size v q w' ∧ Below w.heap.size w w' := by
  have r0 := Lib.hid ((HoldsB.new w 57 #[.int .i64 q.1, .int .i64 q.2.1, .int .i64 q.2.2.1, .int .i64 q.2.2.2]).al (.cells #[.int .i64 v] 3))
  have r1 := Lib.hid (HoldsB.new (w.alloc (nO q)) 3 #[.int .i64 v])
  rw [World.size_alloc] at r1
  obtain ⟨a, b, c, d⟩ := q
  go_enter Tryd.func45, Tryd.ntmps45
  go_wp2_with fail
  go_ret
  exact ⟨rfl, ⟨r1.out.cell rfl, r0.out.cell rfl, r0.out.cell rfl, r0.out.cell rfl, r0.out.cell rfl⟩, w_alloc (w_alloc (w_refl w) _) _⟩

set_option maxRecDepth 100000 in
set_option maxHeartbeats 4000000 in
theorem appseq_any (q : Q4) (hq : okM q) (v : Int) (hv : 1 ≤ v ∧ v ≤ 8) (bv bl : Nat) (w : World) (hc : ItC bv bl v q w) :
    Calls Tryd.prog 55 #[.slice none 0 0, itF bv bl] w
      fun e w' => ∃ u, e = .returned u ∧ IntV w' u (levUp q (v - 1).toNat) ∧ Below w.heap.size w w' := by
  refine (callsIn_wide (n := 1)).1 ?_
  have G := Lib.hid (above_gives q hq v hv bv bl)
  have hlen := lev_len q (v - 1).toNat
  have HC := Lib.hid hc
  clear hc hq
  generalize levUp q (v - 1).toNat = xs at *
  obtain ⟨i0, hi0, hz0, hz1, hz2⟩ := info_parts info_int
  refine callsIn_of_wp_marks Tryd.func55 rfl trivial ?_ rfl
  simp only [Tryd.ntmps55, List.size_toArray, List.length_cons, List.length_nil, Nat.reduceAdd, Nat.reduceSub, Array.replicate_succ, Array.replicate_zero, List.push_toArray, List.append_toArray, List.nil_append, List.cons_append]
  gi_wp2_with fail
  have hs1 : (w.alloc (.cells #[.slice none 0 0] 31)).heap.size = w.heap.size + 1 := by simp
  have B0 := Lib.hid (HoldsB.new w 31 #[.slice none 0 0])
  have L0 := Lib.hid (show OwnL w (w.alloc (.cells #[.slice none 0 0] 31)) 3 1 (.slice none 0 0) 0 [] from ⟨w_alloc (w_refl w) _, World.ownsRow_nil _ _ _ _⟩)
  generalize w.alloc (.cells #[.slice none 0 0] 31) = w1 at *
  refine wpIn_gives G.out rfl (enters_of Tryd.func54 (by kernel_rfl) rfl) rfl
    (fun pre A => ∃ u, HoldsB A w.heap.size 31 #[u] ∧ OwnL w A 3 1 u pre.length (ints pre))
    (fun _ => False) ?hC ?hI ?hIx ?h0
    (fun x a' A => a' = { tmps := #[.slice none 0 0, itF bv bl, .pointer (some ⟨w.heap.size, 0, none⟩), undef, .slice none 0 0, .int .i64 x, itF bv bl, .int .i64 x, undef, undef, undef, undef, undef], defers := [] })
    ?hAx ?assign ?body ?done ?stop
  case hC =>
    rintro pre A ⟨u, _, h2⟩
    exact HC.out.later h2.bel
  case hI => exact ownL_from (by omega) _ _ _ _ _ _
  case hIx => exact fun _ _ _ _ h _ _ => h
  case h0 => exact ⟨_, B0.out, L0.out⟩
  case hAx =>
    rintro x a' s A A' row e hg hr
    exact e
  case assign =>
    rintro m2 l2 pre x A K hle ⟨u, h1, h2⟩ hK
    gi_wp2_with fail
    exact hK _ _ (Mid.refl _ _) ⟨u, h1, h2⟩ rfl
  case body =>
    rintro m2 l2 pre x post a' A hx hle ⟨u, h1, h2⟩ rfl
    obtain ⟨p, c, rfl⟩ := h2.val
    rw [hx] at hlen
    simp only [List.length_append, List.length_cons] at hlen
    have c0 := h1.cell (j := 0) rfl
    have HO := Lib.hid (h2.later (w_alloc (w_refl A) (.cells #[.int .i64 x] 3)))
    have H1 := Lib.hid (h1.al (.cells #[.int .i64 x] 3))
    have H2 := Lib.hid h2
    have HL := Lib.hid hle
    clear h1 h2 hx hle
    gi_wp2_with (gi_at_builtin; refine wpListIn_append_own _ rfl _ _ 31 rfl w.heap.size 3 i0 (.int .i64 0) 1 8 Tryd.underlying31 hi0 hz0 hz1 hz2 rfl (by decide) _ pre.length (ints pre) rfl HO.out.row ⟨A.heap.size, 0, none⟩ 1 1 (ints [x]) rfl rfl (lit_new _ _ _) (ints_one _) (by unfold maxLen; omega) (by omega) HO.out.bel.size ?_; intro v' w3 hown hgrow _; obtain ⟨g', cap', rfl⟩ := ownsRow_succ hown; have h3 := Lib.hid (H1.out.kept hgrow (own_ne HO.out.row H1.out (by decide))); have cc := h3.out.cell (j := 0) rfl; have ff := h3.out.frozen 0)
    have hlt := HL.out
    have hAl := w_alloc (w_refl A) (.cells #[.int .i64 x] 3)
    have hne := own_ne hown h3.out (by decide)
    refine ⟨(Mid.bel _ hAl).trans ((Mid.row _ hgrow (own_row HO.out.row)).trans (Mid.set _ _ (by omega) _ _)), _, h3.out.set 0 _, (H2.out.far hAl hgrow).setCell (p := ⟨w.heap.size, 0, none⟩) (Nat.le_refl _) _, ?_⟩
    rw [show ints (pre ++ [x]) = ints pre ++ ints [x] from List.map_append .., List.length_append]
    exact own_put hown hne _ _
  case done =>
    rintro D A hD ⟨u, h1, h2⟩ hd
    have c0 := h1.cell (j := 0) rfl
    have H2 := Lib.hid h2
    have HD := Lib.hid hD
    clear h1 h2 hD
    gi_wp2_with fail
    refine ⟨by simp, .inl ⟨_, _, rfl, run_takeDeferred hd, ?_⟩⟩
    exact ⟨_, results_tmp rfl _ _ _, u, rfl, IntV.of_own (ownsRow_kept H2.out.row (grownBy_putObj' _ D _) (fun r e => by cases e; exact ⟨_, hd, rfl⟩)), H2.out.bel.trans (belowK_b (w := w) (Nat.le_refl _) A D _ _ (by have := HD.out; omega) hd rfl rfl)⟩
  case stop =>
    rintro D A hD hx hd
    exact hx.elim

theorem collect_any (q : Q4) (hq : okM q) (v : Int) (hv : 1 ≤ v ∧ v ≤ 8) (bv bl : Nat) (w : World) (hc : ItC bv bl v q w) :
    Calls Tryd.prog 46 #[itF bv bl] w fun e w' => ∃ u, e = .returned u ∧ IntV w' u (levUp q (v - 1).toNat) ∧ Below w.heap.size w w' := by
  have A := Lib.hid (appseq_any q hq v hv bv bl w hc)
  clear hq hc
  go_enter Tryd.func46, Tryd.ntmps46
  go_wp2_with fail
  refine A.out.mono ?_
  rintro e w1 ⟨u, rfl, h, hb⟩
  go_wp2_with fail
  go_ret
  exact ⟨u, rfl, h, hb⟩

set_option maxHeartbeats 4000000 in
theorem levels_any (q : Q4) (w : World) : Calls Tryd.prog 16 #[mv q] w (LvlPost q w) := by
  have C := Lib.hid (fun W => mcheck_any q W)
  have K := Lib.hid (Cell4.made w q 23)
  unfold LvlPost
  by_cases h : okM q
  · rw [lvl_ok h, chkM_ok h]
    rw [chkM_ok h] at C
    have NU := Lib.hid (fun W => numsOf_any q W)
    have PA := Lib.hid (fun W => perfAbove_any q 5 W)
    have CO := Lib.hid (fun bv bl W hc => collect_any q h 5 (by omega) bv bl W hc)
    rw [show ((5 : Int) - 1).toNat = 4 from rfl] at CO
    clear h
    generalize levUp q 4 = xs at *
    obtain ⟨a, b, c, d⟩ := q
    go_enter Tryd.func16, Tryd.ntmps16
    go_wp2_with fail
    refine (C.out _).mono ?_
    rintro e w1 ⟨rfl, hb⟩
    have hB := Lib.hid (w_below (w_alloc (w_refl w) (mO (a, b, c, d))) hb)
    obtain ⟨_, c0, c1, c2, c3, _, _, _, _⟩ := K.out.later hb
    clear hb C K
    go_wp2_with fail
    refine (NU.out _).mono ?_
    rintro e w2 ⟨rfl, hb⟩
    replace hB := Lib.hid (w_below hB.out hb)
    clear hb NU c0 c1 c2 c3
    go_wp2_with fail
    refine (PA.out _).mono ?_
    rintro e w3 ⟨rfl, hi, hb⟩
    replace hB := Lib.hid (w_below hB.out hb)
    have HI := Lib.hid hi
    clear hb hi PA
    go_wp2_with fail
    refine (CO.out _ _ _ HI.out).mono ?_
    rintro e w4 ⟨u, rfl, hu, hb⟩
    replace hB := Lib.hid (w_below hB.out hb)
    have HU := Lib.hid hu
    clear hb hu CO HI
    go_wp2_with fail
    go_ret2
    exact ⟨_, rfl, HU.out, hB.out⟩
  · rw [lvl_no h, chkM_no h]
    rw [chkM_no h] at C
    clear h
    obtain ⟨a, b, c, d⟩ := q
    go_enter Tryd.func16, Tryd.ntmps16
    go_wp2_with fail
    refine (C.out _).mono ?_
    rintro e w1 ⟨rfl, hb⟩
    have hB := Lib.hid (w_below (w_alloc (w_refl w) (mO (a, b, c, d))) hb)
    clear hb C K
    go_wp2_with fail
    go_ret2
    exact ⟨_, rfl, IntV.none _, hB.out⟩

/-- Two results in blocks of one cell each. -/
theorem two_put {W : World} {b c : Nat} {t u : TypeId} {x y : Value} (h : HoldsB W b t #[x]) (k : HoldsB W c u #[y]) (hne : c ≠ b) (X Y : Value) :
    (W.setCell ⟨b, 0, none⟩ X).cell? ⟨b, 0, none⟩ = some X ∧ ((W.setCell ⟨b, 0, none⟩ X).setCell ⟨c, 0, none⟩ Y).cell? ⟨c, 0, none⟩ = some Y :=
  ⟨(h.set 0 X).cell rfl, ((k.other hne 0 X).set 0 Y).cell rfl⟩

set_option maxRecDepth 100000 in
set_option maxHeartbeats 4000000 in
theorem above_any (q : Q4) (v : Int) (w : World) : Calls Tryd.prog 14 #[mv q, .int .i64 v] w fun e w' => e = .returned (.tuple #[.int .i64 (aboV q v), .int .i64 (valE q v)]) ∧ Below w.heap.size w w' := by
  refine (callsIn_wide (n := 1)).1 ?_
  have C := Lib.hid (fun W => callsIn_wide (n := 0) |>.2 (mboth_any q v W))
  have r0 := Lib.hid ((HoldsB.new w 23 #[.int .i64 q.1, .int .i64 q.2.1, .int .i64 q.2.2.1, .int .i64 q.2.2.2]))
  have r1 := Lib.hid (HoldsB.new (w.alloc (mO q)) 3 #[.int .i64 0])
  have r2 := Lib.hid (HoldsB.new ((w.alloc (mO q)).alloc (.cells #[.int .i64 0] 3)) 24 #[.int .i64 0])
  simp only [World.size_alloc] at r1 r2
  refine callsIn_of_wp_marks Tryd.func14 rfl trivial ?_ rfl
  simp only [Tryd.ntmps14, List.size_toArray, List.length_cons, List.length_nil, Nat.reduceAdd, Nat.reduceSub, Array.replicate_succ, Array.replicate_zero, List.push_toArray, List.append_toArray, List.nil_append, List.cons_append]
  by_cases h : valE q v = 0
  · have hf := aboV_ok h
    rw [abv_head] at hf
    rw [hf, h]
    rw [h] at C
    obtain ⟨hq, hv⟩ := valE_zero h
    have NU := Lib.hid (fun W => callsIn_wide (n := 0) |>.2 (numsOf_any q W))
    have PA := Lib.hid (fun W => callsIn_wide (n := 0) |>.2 (perfAbove_any q v W))
    have G := Lib.hid (fun bv bl => above_gives q hq v hv bv bl)
    clear h hf hq hv
    generalize levUp q (v - 1).toNat = xs at *
    have IC := Lib.hid (fun bv bl W W' (h : ItC bv bl v q W) (k : Below W.heap.size W W') => h.later k)
    obtain ⟨a, b, c, d⟩ := q
    gi_wp2_with fail
    refine ⟨trivial, (C.out _).mono ?_⟩
    rintro e w1 ⟨rfl, hb⟩
    have hB := Lib.hid (w_below (w_alloc (w_alloc (w_alloc (w_refl w) (mO (a, b, c, d))) (.cells #[.int .i64 0] 3)) (.cells #[.int .i64 0] 24)) hb)
    replace r0 := Lib.hid (((r0.out.al _).al _).later hb)
    replace r1 := Lib.hid ((r1.out.al _).later hb)
    replace r2 := Lib.hid (r2.out.later hb)
    clear hb C
    have c0 := r0.out.cell (j := 0) rfl
    have c1 := r0.out.cell (j := 1) rfl
    have c2 := r0.out.cell (j := 2) rfl
    have c3 := r0.out.cell (j := 3) rfl
    gi_wp2_with fail
    refine ⟨trivial, (NU.out _).mono ?_⟩
    rintro e w2 ⟨rfl, hb⟩
    replace hB := Lib.hid (w_below hB.out hb)
    replace r1 := Lib.hid (r1.out.later hb)
    replace r2 := Lib.hid (r2.out.later hb)
    clear hb NU c0 c1 c2 c3 r0
    gi_wp2_with fail
    refine ⟨trivial, (PA.out _).mono ?_⟩
    rintro e w3 ⟨rfl, hi, hb⟩
    replace hB := Lib.hid (w_below hB.out hb)
    replace r1 := Lib.hid (r1.out.later hb)
    replace r2 := Lib.hid (r2.out.later hb)
    have HI := Lib.hid hi
    have hs3 := r2.out.lt
    clear hb hi PA
    gi_wp2_with fail
    refine wpIn_gives (G.out _ _) rfl (enters_of Tryd.func54 (by kernel_rfl) rfl) rfl
      (fun pre A => pre = [] ∧ Below w3.heap.size w3 A)
      (fun A => HoldsB A (w.heap.size + 1) 3 #[.int .i64 (xs.headD 0)] ∧ HoldsB A (w.heap.size + 1 + 1) 24 #[.int .i64 0] ∧ Below w.heap.size w A) ?hC ?hI ?hIx ?h0
      (fun x a' A => a' = { tmps := #[mv (a, b, c, d), .int .i64 v, .pointer (some ⟨w.heap.size, 0, none⟩), undef, .pointer (some ⟨w.heap.size + 1, 0, none⟩), .pointer (some ⟨w.heap.size + 1 + 1, 0, none⟩), .int .i64 0, .int .i64 x, mv (a, b, c, d), .int .i64 v, .int .i64 0, .int .i64 0, .bool false, undef, mv (a, b, c, d), mv (a, b, c, d), .int .i64 v, itF (w2.heap.size + 1) w2.heap.size, .int .i64 x, undef], defers := [] })
      ?hAx ?assign ?body ?done ?stop
    case hC =>
      rintro pre A ⟨_, h2⟩
      exact IC.out _ _ _ _ HI.out h2
    case hI =>
      rintro pre A A' row ⟨e, h2⟩ hg hr
      exact ⟨e, below_from (w := w3) (Nat.le_refl _) () A A' row h2 hg hr⟩
    case hIx =>
      rintro _ A A' row ⟨h1, h2, h3⟩ hg hr
      exact ⟨holds_own _ _ (fun (_ : Unit) => _) () A A' row h1 hg (fun r e => (hr r e).2), holds_own _ _ (fun (_ : Unit) => _) () A A' row h2 hg (fun r e => (hr r e).2), below_from (w := w) hB.out.size () A A' row h3 hg hr⟩
    case h0 => exact ⟨rfl, w_refl _⟩
    case hAx =>
      rintro x a' s A A' row e hg hr
      exact e
    case assign =>
      rintro m2 l2 pre x A K hle ⟨u, h2⟩ hK
      gi_wp2_with fail
      exact hK _ _ (Mid.refl _ _) ⟨u, h2⟩ rfl
    case body =>
      rintro m2 l2 pre x post a' A hx hle ⟨u, h2⟩ rfl
      have hh : xs.headD 0 = x := by rw [hx, u]; rfl
      rw [hh]
      have k1 := Lib.hid (r1.out.later h2)
      have k2 := Lib.hid (r2.out.later h2)
      have hB4 := Lib.hid (w_below hB.out h2)
      have e1 := k1.out.cell (j := 0) rfl
      have e2 := k2.out.cell (j := 0) rfl
      have f1 := k1.out.frozen 0
      have f2 := k2.out.frozen 0
      clear h2 u hx hh
      gi_wp2_with fail
      exact ⟨(Mid.set _ _ (by omega) _ _).trans (Mid.set _ _ (by omega) _ _), (k1.out.set 0 _).other (by omega) 0 _, (k2.out.other (by omega) 0 _).set 0 _, w_put (w_put hB4.out (by omega) _ _) (by omega) _ _⟩
    case done =>
      rintro D A hD ⟨u, h2⟩ hd
      have hh := Lib.hid (show xs.headD 0 = 0 by rw [u]; rfl)
      have k1 := Lib.hid (r1.out.later h2)
      have k2 := Lib.hid (r2.out.later h2)
      have hB4 := Lib.hid (w_below hB.out h2)
      have e1 := k1.out.cell (j := 0) rfl
      have e2 := k2.out.cell (j := 0) rfl
      have f1 := k1.out.frozen 0
      have f2 := k2.out.frozen 0
      have hs4 := h2.size
      clear h2 u
      obtain ⟨A2, hA2⟩ : ∃ A2, (A.setCell ⟨w.heap.size + 1, 0, none⟩ (.int .i64 0)).setCell ⟨w.heap.size + 1 + 1, 0, none⟩ (.int .i64 0) = A2 := ⟨_, rfl⟩
      have g1 := Lib.hid (show HoldsB A2 (w.heap.size + 1) 3 #[.int .i64 0] from hA2 ▸ (k1.out.set 0 _).other (by omega) 0 _)
      have g2 := Lib.hid (show HoldsB A2 (w.heap.size + 1 + 1) 24 #[.int .i64 0] from hA2 ▸ (k2.out.other (by omega) 0 _).set 0 _)
      have hB5 := Lib.hid (show Below w.heap.size w A2 from hA2 ▸ w_put (w_put hB4.out (by omega) _ _) (by omega) _ _)
      have hd2 := Lib.hid (show A2.heap[D]? = some (.deferred (some [])) from hA2 ▸ (Below.heap_setCell _ _ _ _ (by simp only; omega)).trans ((Below.heap_setCell _ _ _ _ (by simp only; omega)).trans hd))
      gi_wp2_with fail
      have d1 : ∀ o, (A2.putObj D o).cell? ⟨w.heap.size + 1, 0, none⟩ = some (.int .i64 0) := fun o => HoldsB.cell (t := 3) (cs := #[.int .i64 0]) ((World.putObj_heap_other (by omega)).trans g1.out) rfl
      have d2 : ∀ o, (A2.putObj D o).cell? ⟨w.heap.size + 1 + 1, 0, none⟩ = some (.int .i64 0) := fun o => HoldsB.cell (t := 24) (cs := #[.int .i64 0]) ((World.putObj_heap_other (by omega)).trans g2.out) rfl
      refine ⟨by simp, .inl ⟨_, _, rfl, run_takeDeferred hd2.out, ?_⟩⟩
      refine ⟨.tuple #[.int .i64 0, .int .i64 0], (by simp [results, Tryd.results14, go_sem, d1, d2]), by rw [hh.out], ?_⟩
      exact hB5.out.trans (belowK_b (w := w) (Nat.le_refl _) A2 D _ _ (by omega) hd2.out rfl rfl)
    case stop =>
      rintro D A hD ⟨h1, h2, h3⟩ hd
      obtain ⟨X, hX⟩ : ∃ X, xs.headD 0 = X := ⟨_, rfl⟩
      rw [hX] at h1
      have HX := Lib.hid hX
      have g1 := Lib.hid h1
      have g2 := Lib.hid h2
      have hB5 := Lib.hid h3
      have hd2 := Lib.hid hd
      clear h1 h2 h3 hd hX
      gi_wp2_with fail
      have d1 : ∀ o, (A.putObj D o).cell? ⟨w.heap.size + 1, 0, none⟩ = some (.int .i64 X) := fun o => HoldsB.cell (t := 3) (cs := #[.int .i64 X]) ((World.putObj_heap_other (by omega)).trans g1.out) rfl
      have d2 : ∀ o, (A.putObj D o).cell? ⟨w.heap.size + 1 + 1, 0, none⟩ = some (.int .i64 0) := fun o => HoldsB.cell (t := 24) (cs := #[.int .i64 0]) ((World.putObj_heap_other (by omega)).trans g2.out) rfl
      refine ⟨by simp, .inl ⟨_, _, rfl, run_takeDeferred hd2.out, ?_⟩⟩
      refine ⟨.tuple #[.int .i64 X, .int .i64 0], (by simp [results, Tryd.results14, go_sem, d1, d2]), by rw [HX.out], ?_⟩
      exact hB5.out.trans (belowK_b (w := w) (Nat.le_refl _) A D _ _ (by omega) hd2.out rfl rfl)
  · have hf := aboV_no h
    rw [hf]
    have hne : (valE q v != 0) = true := by simp [h]
    have hne2 : (valE q v == 0) = false := by simp [h]
    clear h hf
    generalize valE q v = E at *
    obtain ⟨a, b, c, d⟩ := q
    gi_wp2_with fail
    refine ⟨trivial, (C.out _).mono ?_⟩
    rintro e w1 ⟨rfl, hb⟩
    have hB := Lib.hid (w_below (w_alloc (w_alloc (w_alloc (w_refl w) (mO (a, b, c, d))) (.cells #[.int .i64 0] 3)) (.cells #[.int .i64 0] 24)) hb)
    replace r1 := Lib.hid ((r1.out.al _).later hb)
    replace r2 := Lib.hid (r2.out.later hb)
    clear hb C
    obtain ⟨d1, d2⟩ := two_put r1.out r2.out (by omega) (.int .i64 0) (.int .i64 E)
    have e1 := r1.out.cell (j := 0) rfl
    have e2 := r2.out.cell (j := 0) rfl
    have f1 := r1.out.frozen 0
    have f2 := r2.out.frozen 0
    gi_wp2_with fail
    refine ⟨.tuple #[.int .i64 0, .int .i64 E], (by simp [results, Tryd.results14, go_sem, d1, d2]), rfl, ?_⟩
    exact w_put (w_put hB.out (by omega) _ _) (by omega) _ _

end Go.Proofs.YtflgmeajkflobaaDoor
