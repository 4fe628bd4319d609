/- The law on numbers, heights, moves, mirrors and intervals. -/
import Derived.Test.YtpkihehacocbhaaDoorPLawE
import Derived.Deep.RegionHeld
namespace Go.Proofs.YtpkihehacocbhaaDoor
open Go.RowKit

/-- Two pitches and two results in memory. -/
structure CS (w W : World) (p q : Pi3) (x y : Nat) (a b : Pi3) : Prop where
  P : Cell3 W w.heap.size p
  Q : Cell3 W (w.heap.size + 1) q
  X : Cell3 W x a
  Y : Cell3 W y b
  bel : Below w.heap.size w W
  hx : w.heap.size + 1 < x
  hy : x < y
theorem CS.later {w W W1 : World} {p q : Pi3} {x y : Nat} {a b : Pi3} (h : CS w W p q x y a b) (k : Below W.heap.size W W1) : CS w W1 p q x y a b :=
  ⟨h.P.later k, h.Q.later k, h.X.later k, h.Y.later k, w_below h.bel k, h.hx, h.hy⟩
theorem CS.putX {w W : World} {p q : Pi3} {x y : Nat} {a b : Pi3} (h : CS w W p q x y a b) (c : Pi3) : CS w (put3 W x c) p q x y c b := by
  have h1 := h.hx
  have h2 := h.hy
  exact ⟨h.P.other c (by omega), h.Q.other c (by omega), h.X.put c, h.Y.other c (by omega), w_set (w_set (w_set h.bel (by show w.heap.size ≤ x; omega) _) (by show w.heap.size ≤ x; omega) _) (by show w.heap.size ≤ x; omega) _, h1, h2⟩
theorem CS.putY {w W : World} {p q : Pi3} {x y : Nat} {a b : Pi3} (h : CS w W p q x y a b) (c : Pi3) : CS w (put3 W y c) p q x y a c := by
  have h1 := h.hx
  have h2 := h.hy
  exact ⟨h.P.other c (by omega), h.Q.other c (by omega), h.X.other c (by omega), h.Y.put c, w_set (w_set (w_set h.bel (by show w.heap.size ≤ y; omega) _) (by show w.heap.size ≤ y; omega) _) (by show w.heap.size ≤ y; omega) _, h1, h2⟩

set_option maxRecDepth 100000 in
set_option maxHeartbeats 4000000 in
theorem pcalls_any (p q : Pi3) (n k : Int) (w : World) (hn : -9223372036854775808 ≤ n ∧ n ≤ 9223372036854775807) (tab : Tab w) :
    Calls Tryd.prog 4 #[pv p, pv q, .int .i64 n, .int .i64 k] w fun e w' => e = .returned (.bool true) ∧ Below w.heap.size w w' := by
  have TB := Lib.hid (fun W (b : Below w.heap.size w W) => tab.later b)
  clear tab
  have NW := Lib.hid (fun W => wnumber_any p W)
  have NR := Lib.hid (fun W => rnumber_any p W)
  have HW := Lib.hid (fun W (b : Below w.heap.size w W) => wheight_any p W (TB.out W b))
  have HR := Lib.hid (fun W => rheight_any p W)
  have CW := Lib.hid (fun W => wcheck_any p W)
  have CR := Lib.hid (fun W => rcheck_any p W)
  have OW := Lib.hid (fun W => wof_any n k W hn.1 hn.2)
  have OR := Lib.hid (fun W => rof_any n k W)
  have MW := Lib.hid (fun W => wmove_any p n W hn.1 hn.2)
  have MR := Lib.hid (fun W => rmove_any p n W)
  have IW := Lib.hid (fun W => wmirror_any p q W)
  have IR := Lib.hid (fun W => rmirror_any p q W)
  have BW := Lib.hid (fun W (b : Below w.heap.size w W) => wbetween_any p q W (TB.out W b))
  have BR := Lib.hid (fun W => rbetween_any p q W)
  unfold OfPost at OW OR MW MR IW IR
  unfold BetPost at BW BR
  generalize numV p = nn at *
  generalize heiV p = hh at *
  generalize chkV p = cc at *
  generalize ofV n k = oo at *
  generalize moveV p n = mm at *
  generalize mirV p q = ii at *
  generalize betV p q = bb at *
  obtain ⟨nv, ne⟩ := nn
  obtain ⟨hv, he⟩ := hh
  obtain ⟨o, oe⟩ := oo
  obtain ⟨m, me⟩ := mm
  obtain ⟨i, ie⟩ := ii
  obtain ⟨⟨b1, b2⟩, be⟩ := bb
  simp only at NW NR HW HR OW OR MW MR IW IR BW BR
  have C0 := Lib.hid (show Cell3 _ w.heap.size p ∧ Cell3 _ (w.heap.size + 1) q from ⟨(Cell3.made w p 23).later (w_alloc (w_refl _) (pO q)), by
    have := Cell3.made (w.alloc (pO p)) q 23
    rwa [World.size_alloc] at this⟩)
  go_enter Tryd.func4, Tryd.ntmps4
  go_wp2_with fail
  refine (NW.out _).mono ?_
  rintro e w1 ⟨rfl, hb⟩
  have C1 := Lib.hid (show _ ∧ _ from ⟨C0.out.1.later hb, C0.out.2.later hb⟩)
  have B1 := Lib.hid (w_below (w_alloc (w_alloc (w_refl w) (pO p)) (pO q)) hb)
  obtain ⟨_, c0, c1, c2, _, _, _⟩ := C1.out.1
  clear hb NW C0
  go_wp2_with fail
  refine (NR.out _).mono ?_
  rintro e w2 ⟨rfl, hb⟩
  have C2 := Lib.hid (show _ ∧ _ from ⟨C1.out.1.later hb, C1.out.2.later hb⟩)
  have B2 := Lib.hid (w_below B1.out hb)
  clear c0 c1 c2
  obtain ⟨_, c0, c1, c2, _, _, _⟩ := C2.out.1
  clear hb NR C1 B1
  go_wp2_with fail
  refine (HW.out _ B2.out).mono ?_
  rintro e w3 ⟨rfl, hb⟩
  have C3 := Lib.hid (show _ ∧ _ from ⟨C2.out.1.later hb, C2.out.2.later hb⟩)
  have B3 := Lib.hid (w_below B2.out hb)
  clear c0 c1 c2
  obtain ⟨_, c0, c1, c2, _, _, _⟩ := C3.out.1
  clear hb HW C2 B2
  go_wp2_with fail
  refine (HR.out _).mono ?_
  rintro e w4 ⟨rfl, hb⟩
  have C4 := Lib.hid (show _ ∧ _ from ⟨C3.out.1.later hb, C3.out.2.later hb⟩)
  have B4 := Lib.hid (w_below B3.out hb)
  clear c0 c1 c2
  obtain ⟨_, c0, c1, c2, _, _, _⟩ := C4.out.1
  clear hb HR C3 B3
  go_wp2_with fail
  have CP := Lib.hid C4.out.1
  have CQ := Lib.hid (fun W (h : Below w4.heap.size w4 W) => C4.out.2.later h)
  have B4' := Lib.hid (w_refl w4)
  have BP := Lib.hid B4.out
  clear C4 B4
  refine wp_region_held (S := fun W => W.cell? ⟨w.heap.size, 0, none⟩ = some (.int .i64 p.1) ∧ W.cell? ⟨w.heap.size, 1, none⟩ = some (.int .i64 p.2.1) ∧ W.cell? ⟨w.heap.size, 2, none⟩ = some (.int .i64 p.2.2)) (by kernel_rfl) ?_
  change wpAnyH _ _ _ _ _ _ _ _ (World.drew _)
  generalize hw0 : World.drew w4 = w0
  replace CP := Lib.hid (show Cell3 w0 w.heap.size p by rw [← hw0]; exact CP.out.later (w_refl w4).drew)
  replace B4' := Lib.hid (show Below w4.heap.size w4 w0 by rw [← hw0]; exact (w_refl w4).drew)
  replace BP := Lib.hid (show Below w.heap.size w w0 by rw [← hw0]; exact BP.out.drew)
  clear hw0
  clear c0 c1 c2
  obtain ⟨_, c0, c1, c2, _, _, _⟩ := CP.out
  refine wpAnyH_take (i := 0) (v := pv p) rfl (by kernel_rfl) (by kernel_rfl) (by kernel_rfl) (fun _ _ _ h => h) (Or.inl ⟨by kernel_rfl, fun W hW => by (obtain ⟨hA, hB, hC⟩ := hW; go_simp)⟩) ⟨c0, c1, c2⟩ ?_
  refine wpAnyH_take (i := 2) (v := pv p) rfl (by kernel_rfl) (by kernel_rfl) (by kernel_rfl) (fun _ _ _ h => h) (Or.inl ⟨by kernel_rfl, fun W hW => by (obtain ⟨hA, hB, hC⟩ := hW; go_simp)⟩) ⟨c0, c1, c2⟩ ?_
  refine wpAnyH_ready (rs := [1]) (by kernel_rfl) (by simp) ?_
  refine AllReadyH.cons rfl (fun K hK => ?_) AllReadyH.nil
  rw [if_pos (by kernel_rfl)]
  go_simp
  go_at_call 22
  refine (CW.out _).mono ?_
  rintro e w5 ⟨rfl, hb⟩
  have hK2 := Lib.hid (show Cell3 w5 w.heap.size p from CP.out.later hb)
  have hBn := Lib.hid (w_below BP.out hb)
  have hB4n := Lib.hid (w_below B4'.out hb)
  clear c0 c1 c2
  obtain ⟨_, c0, c1, c2, _, _, _⟩ := hK2.out
  go_simp
  refine hK.out _ _ ⟨c0, c1, c2⟩ (fun _ => ?_)
  clear hK K hb CP BP B4'
  have CP := hK2
  have BP := hBn
  have B4' := hB4n
  clear hK2 hBn hB4n
  refine wpAnyH_ready (rs := [3]) (by kernel_rfl) (by simp) ?_
  refine AllReadyH.cons rfl (fun K hK => ?_) AllReadyH.nil
  rw [if_pos (by kernel_rfl)]
  go_simp
  go_at_call 23
  refine (CR.out _).mono ?_
  rintro e w6 ⟨rfl, hb⟩
  have hK2 := Lib.hid (show Cell3 w6 w.heap.size p from CP.out.later hb)
  have hBn := Lib.hid (w_below BP.out hb)
  have hB4n := Lib.hid (w_below B4'.out hb)
  clear c0 c1 c2
  obtain ⟨_, c0, c1, c2, _, _, _⟩ := hK2.out
  go_simp
  refine hK.out _ _ ⟨c0, c1, c2⟩ (fun _ => ?_)
  clear hK K hb CP BP B4'
  have CP := hK2
  have BP := hBn
  have B4' := hB4n
  clear hK2 hBn hB4n
  refine wpAnyH_take (i := 4) (v := .bool false) rfl (by kernel_rfl) (by kernel_rfl) (by kernel_rfl) (fun _ _ _ h => h) (Or.inl ⟨by kernel_rfl, fun _ _ => by go_simp⟩) ⟨c0, c1, c2⟩ ?_
  refine wpAnyH_take (i := 5) (v := .bool false) rfl (by kernel_rfl) (by kernel_rfl) (by kernel_rfl) (fun _ _ _ h => h) (Or.inl ⟨by kernel_rfl, fun _ _ => by go_simp⟩) ⟨c0, c1, c2⟩ ?_
  refine wpAnyH_take (i := 6) (v := .int .i64 nv) rfl (by kernel_rfl) (by kernel_rfl) (by kernel_rfl) (fun _ _ _ h => h) (Or.inl ⟨by kernel_rfl, fun _ _ => by go_simp⟩) ⟨c0, c1, c2⟩ ?_
  refine wpAnyH_take (i := 7) (v := .int .i64 nv) rfl (by kernel_rfl) (by kernel_rfl) (by kernel_rfl) (fun _ _ _ h => h) (Or.inl ⟨by kernel_rfl, fun _ _ => by go_simp⟩) ⟨c0, c1, c2⟩ ?_
  refine wpAnyH_take (i := 8) (v := .bool false) rfl (by kernel_rfl) (by kernel_rfl) (by kernel_rfl) (fun _ _ _ h => h) (Or.inl ⟨by kernel_rfl, fun _ _ => by go_simp⟩) ⟨c0, c1, c2⟩ ?_
  refine wpAnyH_take (i := 9) (v := .bool false) rfl (by kernel_rfl) (by kernel_rfl) (by kernel_rfl) (fun _ _ _ h => h) (Or.inl ⟨by kernel_rfl, fun _ _ => by go_simp⟩) ⟨c0, c1, c2⟩ ?_
  refine wpAnyH_take (i := 10) (v := .bool false) rfl (by kernel_rfl) (by kernel_rfl) (by kernel_rfl) (fun _ _ _ h => h) (Or.inl ⟨by kernel_rfl, fun _ _ => by go_simp⟩) ⟨c0, c1, c2⟩ ?_
  refine wpAnyH_take (i := 11) (v := .int .i64 ne) rfl (by kernel_rfl) (by kernel_rfl) (by kernel_rfl) (fun _ _ _ h => h) (Or.inl ⟨by kernel_rfl, fun _ _ => by go_simp⟩) ⟨c0, c1, c2⟩ ?_
  refine wpAnyH_take (i := 12) (v := .int .i64 ne) rfl (by kernel_rfl) (by kernel_rfl) (by kernel_rfl) (fun _ _ _ h => h) (Or.inl ⟨by kernel_rfl, fun _ _ => by go_simp⟩) ⟨c0, c1, c2⟩ ?_
  refine wpAnyH_take (i := 13) (v := .bool false) rfl (by kernel_rfl) (by kernel_rfl) (by kernel_rfl) (fun _ _ _ h => h) (Or.inl ⟨by kernel_rfl, fun _ _ => by go_simp⟩) ⟨c0, c1, c2⟩ ?_
  refine wpAnyH_take (i := 14) (v := .bool false) rfl (by kernel_rfl) (by kernel_rfl) (by kernel_rfl) (fun _ _ _ h => h) (Or.inl ⟨by kernel_rfl, fun _ _ => by go_simp⟩) ⟨c0, c1, c2⟩ ?_
  refine wpAnyH_take (i := 15) (v := .bool false) rfl (by kernel_rfl) (by kernel_rfl) (by kernel_rfl) (fun _ _ _ h => h) (Or.inl ⟨by kernel_rfl, fun _ _ => by go_simp⟩) ⟨c0, c1, c2⟩ ?_
  refine wpAnyH_take (i := 16) (v := .int .i64 hv) rfl (by kernel_rfl) (by kernel_rfl) (by kernel_rfl) (fun _ _ _ h => h) (Or.inl ⟨by kernel_rfl, fun _ _ => by go_simp⟩) ⟨c0, c1, c2⟩ ?_
  refine wpAnyH_take (i := 17) (v := .int .i64 hv) rfl (by kernel_rfl) (by kernel_rfl) (by kernel_rfl) (fun _ _ _ h => h) (Or.inl ⟨by kernel_rfl, fun _ _ => by go_simp⟩) ⟨c0, c1, c2⟩ ?_
  refine wpAnyH_take (i := 18) (v := .bool false) rfl (by kernel_rfl) (by kernel_rfl) (by kernel_rfl) (fun _ _ _ h => h) (Or.inl ⟨by kernel_rfl, fun _ _ => by go_simp⟩) ⟨c0, c1, c2⟩ ?_
  refine wpAnyH_take (i := 19) (v := .bool false) rfl (by kernel_rfl) (by kernel_rfl) (by kernel_rfl) (fun _ _ _ h => h) (Or.inl ⟨by kernel_rfl, fun _ _ => by go_simp⟩) ⟨c0, c1, c2⟩ ?_
  refine wpAnyH_take (i := 20) (v := .bool false) rfl (by kernel_rfl) (by kernel_rfl) (by kernel_rfl) (fun _ _ _ h => h) (Or.inl ⟨by kernel_rfl, fun _ _ => by go_simp⟩) ⟨c0, c1, c2⟩ ?_
  refine wpAnyH_take (i := 21) (v := .int .i64 he) rfl (by kernel_rfl) (by kernel_rfl) (by kernel_rfl) (fun _ _ _ h => h) (Or.inl ⟨by kernel_rfl, fun _ _ => by go_simp⟩) ⟨c0, c1, c2⟩ ?_
  refine wpAnyH_take (i := 22) (v := .int .i64 he) rfl (by kernel_rfl) (by kernel_rfl) (by kernel_rfl) (fun _ _ _ h => h) (Or.inl ⟨by kernel_rfl, fun _ _ => by go_simp⟩) ⟨c0, c1, c2⟩ ?_
  refine wpAnyH_take (i := 23) (v := .bool false) rfl (by kernel_rfl) (by kernel_rfl) (by kernel_rfl) (fun _ _ _ h => h) (Or.inl ⟨by kernel_rfl, fun _ _ => by go_simp⟩) ⟨c0, c1, c2⟩ ?_
  refine wpAnyH_take (i := 24) (v := .bool false) rfl (by kernel_rfl) (by kernel_rfl) (by kernel_rfl) (fun _ _ _ h => h) (Or.inl ⟨by kernel_rfl, fun _ _ => by go_simp⟩) ⟨c0, c1, c2⟩ ?_
  refine wpAnyH_done (by kernel_rfl) ?_ _
  refine reframe (b := { tmps := #[pv p, pv q, Value.int IntKind.i64 n, Value.int IntKind.i64 k, Value.pointer (some { block := w.heap.size, off := 0 }), Value.pointer (some { block := w.heap.size + 1, off := 0 }), undef, undef, Value.bool false, Value.int IntKind.i64 nv, Value.int IntKind.i64 ne, Value.int IntKind.i64 nv, Value.int IntKind.i64 ne, Value.int IntKind.i64 hv, Value.int IntKind.i64 he, Value.int IntKind.i64 hv, Value.int IntKind.i64 he, undef, undef, undef, undef, Value.tuple #[Value.int IntKind.i64 nv, Value.int IntKind.i64 ne], Value.agg #[Value.int IntKind.i64 p.fst, Value.int IntKind.i64 p.snd.fst, Value.int IntKind.i64 p.snd.snd], Value.tuple #[Value.int IntKind.i64 nv, Value.int IntKind.i64 ne], Value.int IntKind.i64 nv, Value.int IntKind.i64 ne, Value.tuple #[Value.int IntKind.i64 nv, Value.int IntKind.i64 ne], Value.agg #[Value.int IntKind.i64 p.fst, Value.int IntKind.i64 p.snd.fst, Value.int IntKind.i64 p.snd.snd], Value.tuple #[Value.int IntKind.i64 nv, Value.int IntKind.i64 ne], Value.int IntKind.i64 nv, Value.int IntKind.i64 ne, Value.tuple #[Value.int IntKind.i64 hv, Value.int IntKind.i64 he], Value.agg #[Value.int IntKind.i64 p.fst, Value.int IntKind.i64 p.snd.fst, Value.int IntKind.i64 p.snd.snd], Value.tuple #[Value.int IntKind.i64 hv, Value.int IntKind.i64 he], Value.int IntKind.i64 hv, Value.int IntKind.i64 he, Value.tuple #[Value.int IntKind.i64 hv, Value.int IntKind.i64 he], Value.agg #[Value.int IntKind.i64 p.fst, Value.int IntKind.i64 p.snd.fst, Value.int IntKind.i64 p.snd.snd], Value.tuple #[Value.int IntKind.i64 hv, Value.int IntKind.i64 he], Value.int IntKind.i64 hv, Value.int IntKind.i64 he, pv p, Value.int IntKind.i64 cc, pv p, Value.int IntKind.i64 cc, Value.bool false, Value.bool false, Value.int IntKind.i64 nv, Value.int IntKind.i64 nv, Value.bool false, Value.bool false, Value.bool false, Value.int IntKind.i64 ne, Value.int IntKind.i64 ne, Value.bool false, Value.bool false, Value.bool false, Value.int IntKind.i64 hv, Value.int IntKind.i64 hv, Value.bool false, Value.bool false, Value.bool false, Value.int IntKind.i64 he, Value.int IntKind.i64 he, Value.bool false, Value.bool false, undef, undef, undef, undef, undef, undef, undef, undef, undef, undef, undef, undef, undef, undef, undef, undef, undef, undef, undef, undef, undef, undef, undef, undef, undef, undef, undef, undef, undef, undef, undef, undef, undef, undef, undef, undef, undef, undef, undef, undef, undef, undef, undef, undef, undef, undef, undef, undef, undef, undef, undef, undef, undef, undef, undef, undef, undef, undef, undef, undef, undef, undef, undef, undef, undef, undef, undef, undef, undef, undef, undef, undef, undef, undef, undef, undef, undef, undef, undef, undef, undef, undef, undef], defers := [] }) (by kernel_rfl) ?_
  have CQ6 := Lib.hid (CQ.out w6 B4'.out)
  clear CQ B4' c0 c1 c2 CW CR
  go_wp2_with fail
  refine (OW.out _).mono ?_
  rintro e w7 ⟨rfl, hb⟩
  have hw := w_below hb (w_alloc (w_refl w7) (pO o))
  have CP7 := Lib.hid (CP.out.later hw)
  have CQ7 := Lib.hid (CQ6.out.later hw)
  have hxs := (CQ6.out.later hb).inb
  have X7 := Lib.hid (Cell3.made w7 o 23)
  have B7 := Lib.hid (w_below BP.out hw)
  clear hb hw OW CP CQ6 BP
  go_wp2_with fail
  refine (OR.out _).mono ?_
  rintro e w8 ⟨rfl, hb⟩
  have hw := w_below hb (w_alloc (w_refl w8) (pO o))
  have ST := Lib.hid (show CS w (w8.alloc (pO o)) p q w7.heap.size w8.heap.size o o from
    ⟨CP7.out.later hw, CQ7.out.later hw, X7.out.later hw, Cell3.made w8 o 23, w_below B7.out hw, hxs, (X7.out.later hb).inb⟩)
  clear hb hw OR CP7 CQ7 X7 B7 hxs
  obtain ⟨_, c0, c1, c2, _, _, _⟩ := ST.out.P
  obtain ⟨_, x0, x1, x2, _, _, _⟩ := ST.out.X
  obtain ⟨_, y0, y1, y2, _, _, _⟩ := ST.out.Y
  go_wp2_with fail
  refine (MW.out _).mono ?_
  rintro e w9 ⟨rfl, hb⟩
  clear c0 c1 c2 x0 x1 x2 y0 y1 y2
  have S1 := Lib.hid (ST.out.later hb)
  obtain ⟨hi1, x0, x1, x2, f0, f1, f2⟩ := S1.out.X
  have S2 := Lib.hid (S1.out.putX m)
  obtain ⟨_, c0, c1, c2, _, _, _⟩ := S2.out.P
  clear hb MW ST
  go_wp2_with fail
  refine (MR.out _).mono ?_
  rintro e w10 ⟨rfl, hb⟩
  clear c0 c1 c2 x0 x1 x2 f0 f1 f2 hi1
  have S3 := Lib.hid (S2.out.later hb)
  obtain ⟨hi1, y0, y1, y2, f0, f1, f2⟩ := S3.out.Y
  have S4 := Lib.hid (S3.out.putY m)
  clear hb MR S1 S2
  have D1 := S4.out.P
  have D2 := S4.out.Q
  have D3 := S4.out.X
  have D4 := S4.out.Y
  obtain ⟨_, c0, c1, c2, _, _, _⟩ := D1
  obtain ⟨_, q0, q1, q2, _, _, _⟩ := D2
  obtain ⟨_, x0, x1, x2, _, _, _⟩ := D3
  obtain ⟨_, z0, z1, z2, _, _, _⟩ := D4
  go_wp2_with fail
  refine (IW.out _).mono ?_
  rintro e w11 ⟨rfl, hb⟩
  clear c0 c1 c2 q0 q1 q2 x0 x1 x2 z0 z1 z2 y0 y1 y2 f0 f1 f2 hi1
  have S5 := Lib.hid (S4.out.later hb)
  obtain ⟨hi1, x0, x1, x2, f0, f1, f2⟩ := S5.out.X
  have S6 := Lib.hid (S5.out.putX i)
  obtain ⟨_, c0, c1, c2, _, _, _⟩ := S6.out.P
  obtain ⟨_, q0, q1, q2, _, _, _⟩ := S6.out.Q
  clear hb IW S3 S4
  go_wp2_with fail
  refine (IR.out _).mono ?_
  rintro e w12 ⟨rfl, hb⟩
  clear c0 c1 c2 q0 q1 q2 x0 x1 x2 f0 f1 f2 hi1
  have S7 := Lib.hid (S6.out.later hb)
  obtain ⟨hi1, y0, y1, y2, f0, f1, f2⟩ := S7.out.Y
  have S8 := Lib.hid (S7.out.putY i)
  clear hb IR S5 S6
  have D1 := S8.out.P
  have D2 := S8.out.Q
  have D3 := S8.out.X
  have D4 := S8.out.Y
  obtain ⟨_, c0, c1, c2, _, _, _⟩ := D1
  obtain ⟨_, q0, q1, q2, _, _, _⟩ := D2
  obtain ⟨_, x0, x1, x2, _, _, _⟩ := D3
  obtain ⟨_, z0, z1, z2, _, _, _⟩ := D4
  go_wp2_with fail
  refine (BW.out _ S8.out.bel).mono ?_
  rintro e w13 ⟨rfl, hb⟩
  have hw := w_below hb (w_alloc (w_refl w13) (iO b1 b2))
  clear c0 c1 c2 q0 q1 q2 x0 x1 x2 z0 z1 z2 y0 y1 y2 f0 f1 f2 hi1
  have S9 := Lib.hid (S8.out.later hw)
  have I9 := Lib.hid (CellI.made w13 b1 b2 33)
  obtain ⟨_, c0, c1, c2, _, _, _⟩ := S9.out.P
  obtain ⟨_, q0, q1, q2, _, _, _⟩ := S9.out.Q
  clear hb hw BW S7 S8
  go_wp2_with fail
  refine (BR.out _).mono ?_
  rintro e w14 ⟨rfl, hb⟩
  have hw := w_below hb (w_alloc (w_refl w14) (iO b1 b2))
  clear c0 c1 c2 q0 q1 q2
  have B15 := Lib.hid (S9.out.later hw).bel
  obtain ⟨_, i0, i1, _, _⟩ := I9.out.later hw
  obtain ⟨_, j0, j1, _, _⟩ := CellI.made w14 b1 b2 33
  clear hb hw BR S9 I9
  go_wp2_with fail
  refine (pwake_any _ (TB.out _ B15.out)).mono ?_
  rintro e w15 ⟨rfl, hb⟩
  have B16 := Lib.hid (w_below B15.out hb)
  clear hb B15
  go_wp2_with fail
  go_ret
  exact ⟨rfl, B16.out⟩

end Go.Proofs.YtpkihehacocbhaaDoor
