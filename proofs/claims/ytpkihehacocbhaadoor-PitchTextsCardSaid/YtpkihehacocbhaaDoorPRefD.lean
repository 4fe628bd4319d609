/- The reference's functions on pitches, for all arguments: mirrors, intervals. -/
import Derived.Test.YtpkihehacocbhaaDoorPRefC
namespace Go.Proofs.YtpkihehacocbhaaDoor
open Go.RowKit

theorem mirV_ok {p q : Pi3} (h : okP p) (k : okP q) : mirV p q = ofV (2 * numI q - numI p) (-p.2.2) := if_pos ⟨h, k⟩
theorem mirV_no {p q : Pi3} (h : ¬ (okP p ∧ okP q)) : mirV p q = ((0, 0, 0), 2) := if_neg h
theorem betV_ok {p q : Pi3} (h : okP p) (k : okP q) : betV p q = ((numI q - numI p, heiI q - heiI p), 0) := if_pos ⟨h, k⟩
theorem betV_no {p q : Pi3} (h : ¬ (okP p ∧ okP q)) : betV p q = ((0, 0), 2) := if_neg h

/-- Two pitches in boxes of their own, and something behind them. -/
theorem boxes (w : World) (p q : Pi3) (t : TypeId) (o : Obj) :
    Cell3 (((w.alloc (.cells #[.int .i64 p.1, .int .i64 p.2.1, .int .i64 p.2.2] t)).alloc (.cells #[.int .i64 q.1, .int .i64 q.2.1, .int .i64 q.2.2] t)).alloc o) w.heap.size p ∧
    Cell3 (((w.alloc (.cells #[.int .i64 p.1, .int .i64 p.2.1, .int .i64 p.2.2] t)).alloc (.cells #[.int .i64 q.1, .int .i64 q.2.1, .int .i64 q.2.2] t)).alloc o) (w.heap.size + 1) q := by
  refine ⟨(Cell3.made w p t).later (w_alloc (w_alloc (w_refl _) _) _), ?_⟩
  have := (Cell3.made (w.alloc (.cells #[.int .i64 p.1, .int .i64 p.2.1, .int .i64 p.2.2] t)) q t).later (w_alloc (w_refl _) o)
  rwa [World.size_alloc] at this

set_option maxHeartbeats 4000000 in
theorem rmirror_any (p q : Pi3) (w : World) : Calls Tryd.prog 26 #[pv p, pv q] w (OfPost (mirV p q) w) := by
  have C := Lib.hid (fun W => rnumber_any p W)
  have D := Lib.hid (fun W => rnumber_any q W)
  have BX := Lib.hid (boxes w p q 23 (.cells #[.int .i64 0, .int .i64 0, .int .i64 0] 23))
  have res := Cell3.made ((w.alloc (.cells #[.int .i64 p.1, .int .i64 p.2.1, .int .i64 p.2.2] 23)).alloc (.cells #[.int .i64 q.1, .int .i64 q.2.1, .int .i64 q.2.2] 23)) (0, 0, 0) 23
  simp only [World.size_alloc] at res
  have RES := Lib.hid res
  clear res
  by_cases h : okP p
  · rw [numV_ok h] at C
    obtain ⟨m1, m2⟩ := num_bd h
    by_cases k : okP q
    · rw [mirV_ok h k]
      rw [numV_ok k] at D
      obtain ⟨l1, l2⟩ := num_bd k
      have ha := h.2.2
      clear h k
      generalize numI p = m at *
      generalize numI q = l at *
      have x1 : IntKind.i64.wrap (2 * l) = 2 * l := IntWalk.i64_in _ (by omega)
      have x2 : IntKind.i64.wrap (2 * l - m) = 2 * l - m := IntWalk.i64_in _ (by omega)
      have x3 : IntKind.i64.wrap (-p.2.2) = -p.2.2 := IntWalk.i64_in _ (by omega)
      have O := Lib.hid (fun W => rof_any (2 * l - m) (-p.2.2) W)
      clear ha
      generalize ofV (2 * l - m) (-p.2.2) = r at *
      obtain ⟨⟨r1, r2, r3⟩, re⟩ := r
      go_enter Tryd.func26, Tryd.ntmps26
      go_wp2_with fail
      refine (C.out _).mono ?_
      rintro e w1 ⟨rfl, hb⟩
      have hB := Lib.hid (w_below (w_alloc (w_alloc (w_alloc (w_refl w) _) _) _) hb)
      have BX1 := Lib.hid (show _ ∧ _ from ⟨BX.out.1.later hb, BX.out.2.later hb⟩)
      have RES1 := Lib.hid (RES.out.later hb)
      obtain ⟨_, c0, c1, c2, _, _, _⟩ := BX1.out.2
      clear hb BX RES C
      go_wp2_with fail
      refine (D.out _).mono ?_
      rintro e w2 ⟨rfl, hb⟩
      have hB2 := Lib.hid (w_below hB.out hb)
      have RES2 := Lib.hid (RES1.out.later hb)
      obtain ⟨_, e0, e1, e2, _, _, _⟩ := BX1.out.1.later hb
      clear hb BX1 RES1 D hB c0 c1 c2
      go_wp2_with fail
      refine (O.out _).mono ?_
      rintro e w3 ⟨rfl, hb⟩
      have hB3 := Lib.hid (w_below hB2.out hb)
      obtain ⟨hin, d0, d1, d2, f0, f1, f2⟩ := RES2.out.later hb
      clear hb RES2 O hB2 e0 e1 e2
      go_wp2_with fail
      refine bodyPost_ret (v := .tuple #[pv (r1, r2, r3), .int .i64 re]) (by simp [results, Tryd.results26, go_sem, d0, d1, d2]) rfl ⟨rfl, ?_⟩
      exact w_set (w_set (w_set hB3.out (by simp; omega) _) (by simp; omega) _) (by simp; omega) _
    · rw [mirV_no (fun x => k x.2)]
      rw [numV_no k] at D
      clear h k
      generalize numI p = m at *
      go_enter Tryd.func26, Tryd.ntmps26
      go_wp2_with fail
      refine (C.out _).mono ?_
      rintro e w1 ⟨rfl, hb⟩
      have hB := Lib.hid (w_below (w_alloc (w_alloc (w_alloc (w_refl w) _) _) _) hb)
      have RES1 := Lib.hid (RES.out.later hb)
      obtain ⟨_, c0, c1, c2, _, _, _⟩ := BX.out.2.later hb
      clear hb BX RES C
      go_wp2_with fail
      refine (D.out _).mono ?_
      rintro e w2 ⟨rfl, hb⟩
      have hB3 := Lib.hid (w_below hB.out hb)
      obtain ⟨hin, d0, d1, d2, f0, f1, f2⟩ := RES1.out.later hb
      clear hb RES1 D hB c0 c1 c2
      go_wp2_with fail
      refine bodyPost_ret (v := .tuple #[pv (0, 0, 0), .int .i64 2]) (by simp [results, Tryd.results26, go_sem, d0, d1, d2]) rfl ⟨rfl, ?_⟩
      exact w_set (w_set (w_set hB3.out (by simp; omega) _) (by simp; omega) _) (by simp; omega) _
  · rw [mirV_no (fun x => h x.1)]
    rw [numV_no h] at C
    clear h D
    go_enter Tryd.func26, Tryd.ntmps26
    go_wp2_with fail
    refine (C.out _).mono ?_
    rintro e w1 ⟨rfl, hb⟩
    have hB3 := Lib.hid (w_below (w_alloc (w_alloc (w_alloc (w_refl w) _) _) _) hb)
    obtain ⟨hin, d0, d1, d2, f0, f1, f2⟩ := RES.out.later hb
    clear hb BX RES C
    go_wp2_with fail
    refine bodyPost_ret (v := .tuple #[pv (0, 0, 0), .int .i64 2]) (by simp [results, Tryd.results26, go_sem, d0, d1, d2]) rfl ⟨rfl, ?_⟩
    exact w_set (w_set (w_set hB3.out (by simp; omega) _) (by simp; omega) _) (by simp; omega) _

/-- Block b holds an interval that may be written. -/
structure CellI (w : World) (b : Nat) (x y : Int) : Prop where
  inb : b < w.heap.size
  c0 : w.cell? ⟨b, 0, none⟩ = some (.int .i64 x)
  c1 : w.cell? ⟨b, 1, none⟩ = some (.int .i64 y)
  f0 : w.frozen? ⟨b, 0, none⟩ = false
  f1 : w.frozen? ⟨b, 1, none⟩ = false
theorem CellI.made (w : World) (x y : Int) (t : TypeId) : CellI (w.alloc (.cells #[.int .i64 x, .int .i64 y] t)) w.heap.size x y := ⟨by simp, by go_simp, by go_simp, by go_simp, by go_simp⟩
theorem CellI.later {w w1 : World} {b : Nat} {x y : Int} (h : CellI w b x y) (k : Below w.heap.size w w1) : CellI w1 b x y :=
  ⟨Nat.lt_of_lt_of_le h.inb k.size, (k.cell (p := ⟨b, 0, none⟩) h.inb).trans h.c0, (k.cell (p := ⟨b, 1, none⟩) h.inb).trans h.c1,
    (k.frozen (p := ⟨b, 0, none⟩) h.inb).trans h.f0, (k.frozen (p := ⟨b, 1, none⟩) h.inb).trans h.f1⟩
abbrev iv (i : Int × Int) : Value := .agg #[.int .i64 i.1, .int .i64 i.2]
def BetPost (r : (Int × Int) × Int) (w : World) (e : Ending) (w' : World) : Prop := e = .returned (.tuple #[iv r.1, .int .i64 r.2]) ∧ Below w.heap.size w w'

set_option maxHeartbeats 4000000 in
theorem rbetween_any (p q : Pi3) (w : World) : Calls Tryd.prog 27 #[pv p, pv q] w (BetPost (betV p q) w) := by
  have C := Lib.hid (fun W => rnumber_any p W)
  have D := Lib.hid (fun W => rnumber_any q W)
  have E := Lib.hid (fun W => rheight_any p W)
  have F := Lib.hid (fun W => rheight_any q W)
  have BX := Lib.hid (boxes w p q 23 (.cells #[.int .i64 0, .int .i64 0] 33))
  have res := CellI.made ((w.alloc (.cells #[.int .i64 p.1, .int .i64 p.2.1, .int .i64 p.2.2] 23)).alloc (.cells #[.int .i64 q.1, .int .i64 q.2.1, .int .i64 q.2.2] 23)) 0 0 33
  simp only [World.size_alloc] at res
  have RES := Lib.hid res
  clear res
  by_cases h : okP p
  · rw [numV_ok h] at C
    rw [heiV_ok h] at E
    obtain ⟨m1, m2⟩ := num_bd h
    obtain ⟨m3, m4⟩ := hei_bd h
    by_cases k : okP q
    · rw [betV_ok h k]
      rw [numV_ok k] at D
      rw [heiV_ok k] at F
      obtain ⟨l1, l2⟩ := num_bd k
      obtain ⟨l3, l4⟩ := hei_bd k
      clear h k
      generalize numI p = m at *
      generalize numI q = l at *
      generalize heiI p = x at *
      generalize heiI q = y at *
      have x1 : IntKind.i64.wrap (l - m) = l - m := IntWalk.i64_in _ (by omega)
      have x2 : IntKind.i64.wrap (y - x) = y - x := IntWalk.i64_in _ (by omega)
      go_enter Tryd.func27, Tryd.ntmps27
      go_wp2_with fail
      refine (C.out _).mono ?_
      rintro e w1 ⟨rfl, hb⟩
      have hB := Lib.hid (w_below (w_alloc (w_alloc (w_alloc (w_refl w) _) _) _) hb)
      have BX1 := Lib.hid (show _ ∧ _ from ⟨BX.out.1.later hb, BX.out.2.later hb⟩)
      have RES1 := Lib.hid (RES.out.later hb)
      obtain ⟨_, c0, c1, c2, _, _, _⟩ := BX1.out.2
      clear hb BX RES C
      go_wp2_with fail
      refine (D.out _).mono ?_
      rintro e w2 ⟨rfl, hb⟩
      have hB2 := Lib.hid (w_below hB.out hb)
      have BX2 := Lib.hid (show _ ∧ _ from ⟨BX1.out.1.later hb, BX1.out.2.later hb⟩)
      have RES2 := Lib.hid (RES1.out.later hb)
      obtain ⟨_, e0, e1, e2, _, _, _⟩ := BX2.out.1
      clear hb BX1 RES1 D hB c0 c1 c2
      go_wp2_with fail
      refine (E.out _).mono ?_
      rintro e w3 ⟨rfl, hb⟩
      have hB3 := Lib.hid (w_below hB2.out hb)
      have RES3 := Lib.hid (RES2.out.later hb)
      obtain ⟨_, c0, c1, c2, _, _, _⟩ := BX2.out.2.later hb
      clear hb RES2 BX2 E hB2 e0 e1 e2
      go_wp2_with fail
      refine (F.out _).mono ?_
      rintro e w4 ⟨rfl, hb⟩
      have hB4 := Lib.hid (w_below hB3.out hb)
      obtain ⟨hin, d0, d1, f0, f1⟩ := RES3.out.later hb
      clear hb RES3 F hB3 c0 c1 c2
      go_wp2_with fail
      refine bodyPost_ret (v := .tuple #[iv (l - m, y - x), .int .i64 0]) (by simp [results, Tryd.results27, go_sem, d0, d1]) rfl ⟨rfl, ?_⟩
      exact w_set (w_set hB4.out (by simp; omega) _) (by simp; omega) _
    · rw [betV_no (fun x => k x.2)]
      rw [numV_no k] at D
      clear h k E F
      generalize numI p = m at *
      go_enter Tryd.func27, Tryd.ntmps27
      go_wp2_with fail
      refine (C.out _).mono ?_
      rintro e w1 ⟨rfl, hb⟩
      have hB := Lib.hid (w_below (w_alloc (w_alloc (w_alloc (w_refl w) _) _) _) hb)
      have RES1 := Lib.hid (RES.out.later hb)
      obtain ⟨_, c0, c1, c2, _, _, _⟩ := BX.out.2.later hb
      clear hb BX RES C
      go_wp2_with fail
      refine (D.out _).mono ?_
      rintro e w2 ⟨rfl, hb⟩
      have hB3 := Lib.hid (w_below hB.out hb)
      obtain ⟨hin, d0, d1, f0, f1⟩ := RES1.out.later hb
      clear hb RES1 D hB c0 c1 c2
      go_wp2_with fail
      refine bodyPost_ret (v := .tuple #[iv (0, 0), .int .i64 2]) (by simp [results, Tryd.results27, go_sem, d0, d1]) rfl ⟨rfl, ?_⟩
      exact w_set (w_set hB3.out (by simp; omega) _) (by simp; omega) _
  · rw [betV_no (fun x => h x.1)]
    rw [numV_no h] at C
    clear h D E F
    go_enter Tryd.func27, Tryd.ntmps27
    go_wp2_with fail
    refine (C.out _).mono ?_
    rintro e w1 ⟨rfl, hb⟩
    have hB3 := Lib.hid (w_below (w_alloc (w_alloc (w_alloc (w_refl w) _) _) _) hb)
    obtain ⟨hin, d0, d1, f0, f1⟩ := RES.out.later hb
    clear hb BX RES C
    go_wp2_with fail
    refine bodyPost_ret (v := .tuple #[iv (0, 0), .int .i64 2]) (by simp [results, Tryd.results27, go_sem, d0, d1]) rfl ⟨rfl, ?_⟩
    exact w_set (w_set hB3.out (by simp; omega) _) (by simp; omega) _

end Go.Proofs.YtpkihehacocbhaaDoor
