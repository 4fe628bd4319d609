/- How often one time fits into another, and the rest. -/
import Derived.Test.YtjgkliiofechfaaDoorTot
import Derived.Deep.DeepCutAuto
import Derived.Deep.RegionWith
namespace Go.Proofs.YtjgkliiofechfaaDoor
open Go.RowKit

/-- The quotient and the rest of two times, with the error. -/
def wholeQ (a b c d : Int) : Int := if chk2 a b c d = 0 then (if c = 0 then 0 else if (low (a * d % (c * b)) (b * d)).2.2 = 0 then a * d / (c * b) else 0) else 0
def wholeR (a b c d : Int) : Int × Int × Int := if chk2 a b c d = 0 then (if c = 0 then (0, 0, 5) else low (a * d % (c * b)) (b * d)) else (0, 0, chk2 a b c d)

theorem wholeQ_err {a b c d : Int} (h : chk2 a b c d ≠ 0) : wholeQ a b c d = 0 := by unfold wholeQ; rw [if_neg h]
theorem wholeR_err {a b c d : Int} (h : chk2 a b c d ≠ 0) : wholeR a b c d = (0, 0, chk2 a b c d) := by unfold wholeR; rw [if_neg h]
theorem wholeQ_zero {a b c d : Int} (h : chk2 a b c d = 0) (k : c = 0) : wholeQ a b c d = 0 := by unfold wholeQ; rw [if_pos h, if_pos k]
theorem wholeR_zero {a b c d : Int} (h : chk2 a b c d = 0) (k : c = 0) : wholeR a b c d = (0, 0, 5) := by unfold wholeR; rw [if_pos h, if_pos k]
theorem wholeQ_ok {a b c d : Int} (h : chk2 a b c d = 0) (k : c ≠ 0) : wholeQ a b c d = if (low (a * d % (c * b)) (b * d)).2.2 = 0 then a * d / (c * b) else 0 := by unfold wholeQ; rw [if_pos h, if_neg k]
theorem wholeR_ok {a b c d : Int} (h : chk2 a b c d = 0) (k : c ≠ 0) : wholeR a b c d = low (a * d % (c * b)) (b * d) := by unfold wholeR; rw [if_pos h, if_neg k]

/-- What a call hands back: the quotient, the rest, the error. -/
abbrev wev (q : Int) (r : Int × Int × Int) : Value := .tuple #[.int .i64 q, .agg #[.int .i64 r.1, .int .i64 r.2.1], .int .i64 r.2.2]

theorem own_called {w w2 : World} {n : Nat} {t : TypeId} (h : Below ((w.drewN n).alloc (.cells #[.int .i64 0, .int .i64 0] t)).heap.size ((w.drewN n).alloc (.cells #[.int .i64 0, .int .i64 0] t)) w2) : Own2 w2 w.heap.size 0 0 :=
  (Own2.made (w.drewN n) 0 0 t).later h

set_option maxHeartbeats 600000 in
theorem whole_any (a b c d : Int) (w : World) :
    Calls Tryd.prog 32 #[tv a b, tv c d] w fun e w' => e = .returned (wev (wholeQ a b c d) (wholeR a b c d)) ∧ Below w.heap.size w w' := by
  by_cases h : chk2 a b c d = 0
  · have v := bd_of (valid2_of h)
    obtain ⟨a0, a1, b0, b1, c0, c1, d0, d1, ad0, ad1, cb0, cb1, bd0, bd1⟩ := v
    have hne : (chk2 a b c d != 0) = false := by simp [h]
    by_cases hz : c = 0
    · have hQ := Lib.hid (wholeQ_zero h hz)
      have hR := Lib.hid (wholeR_zero h hz)
      have hz1 : (c == 0) = true := by simp [hz]
      clear h hz
      go_enter Tryd.func32, Tryd.ntmps32
      go_wp2_with fail
      refine (checkBoth_any a b c d _).mono ?_
      rintro e w1 ⟨rfl, hb1⟩
      obtain ⟨hc1, hf1⟩ := bcell hb1
      obtain ⟨z10, z11, z12⟩ := sz3 (show w.heap.size + 2 < w1.heap.size by have := hb1.size; simp at this; omega)
      go_wp2_with fail
      refine bodyPost_ret (v := wev 0 (0, 0, 5)) (by simp [results, Tryd.results32, go_sem, hc1]) rfl ⟨by rw [hQ.out, hR.out], ?_⟩
      exact bs (bs (bl (ba (ba (ba (br _) _) _) _) hb1) (by simp; omega) _) (by simp; omega) _
    · have hz1 : (c == 0) = false := by simp [hz]
      have hz2 : 1 ≤ c * b := mul_pos1 (show 1 ≤ c by omega) b0
      have x1 : IntKind.i64.wrap (a * d) = a * d := IntWalk.i64_in _ (by omega)
      have x2 : IntKind.i64.wrap (c * b) = c * b := IntWalk.i64_in _ (by omega)
      have hz3 : ¬ c * b = 0 := by omega
      have m0 := Int.emod_nonneg (a * d) (show c * b ≠ 0 by omega)
      have m1 := Int.emod_lt_of_pos (a * d) (show 0 < c * b by omega)
      have hchk := Lib.hid h
      have hcz := Lib.hid hz
      clear h hz
      go_enter Tryd.func32, Tryd.ntmps32
      go_wp2_with fail
      refine (checkBoth_any a b c d _).mono ?_
      rintro e w1 ⟨rfl, hb1⟩
      obtain ⟨hc1, hf1⟩ := bcell hb1
      obtain ⟨z10, z11, z12⟩ := sz3 (show w.heap.size + 2 < w1.heap.size by have := hb1.size; simp at this; omega)
      go_wp2_with fail
      go_quiet (fail)
      clear x1 x2
      go_upto_region 7 with (fail)
      have A0 : ∀ n, ((w1.drewN n).alloc (.cells #[.int .i64 0, .int .i64 0] 23)).cell? ⟨w.heap.size, 1, none⟩ = some (.int .i64 b) := fun n => by
        rw [(ba (below_drewN (br w1) n) _).cell (p := ⟨w.heap.size, 1, none⟩) z10, hc1 _ _ (by simp; omega)]; go_simp
      have A1 : ∀ n, ((w1.drewN n).alloc (.cells #[.int .i64 0, .int .i64 0] 23)).cell? ⟨w.heap.size + 1, 1, none⟩ = some (.int .i64 d) := fun n => by
        rw [(ba (below_drewN (br w1) n) _).cell (p := ⟨w.heap.size + 1, 1, none⟩) z11, hc1 _ _ (by simp)]; go_simp
      have HL := Lib.hid (fun W => lowest_any (a * d % (c * b)) (b * d) W (by omega) (by omega) (by omega) (by omega))
      have x3 : IntKind.i64.wrap (b * d) = b * d := IntWalk.i64_in _ (by omega)
      have x4 : (a * d).tmod (c * b) = a * d % (c * b) := Int.tmod_eq_emod_of_nonneg (by omega)
      have x5 : IntKind.i64.wrap (a * d % (c * b)) = a * d % (c * b) := IntWalk.i64_in _ (by omega)
      go_cut [10, 11] (fun s10 s11 wc => ∃ B : Nat, s10 = .pointer (some ⟨B, 0, none⟩) ∧ s11 = .int .i64 (low (a * d % (c * b)) (b * d)).2.2 ∧ Hid (Below w1.heap.size w1 wc) ∧ Hid (Own2 wc B (low (a * d % (c * b)) (b * d)).1 (low (a * d % (c * b)) (b * d)).2.1) ∧ w1.heap.size ≤ B)
      case first =>
        go_region_with (first | (go_at_call 44; ((with_reducible refine (HL.out ((w1.drewN _).alloc _)).mono ?_); rintro e w2 ⟨rfl, hb2⟩; obtain ⟨i0, o0, o1, o2, o3⟩ := own_called hb2)) | (go_at_call 44; ((with_reducible refine (HL.out (w1.drewN _)).mono ?_); rintro e w2 ⟨rfl, hb2⟩)))
        all_goals (go_wp2_with fail; go_meet)
        all_goals first
          | exact ⟨w2.heap.size, rfl, rfl, Lib.hid (ba (bl (below_drewN (br w1) _) hb2) _), Lib.hid (Own2.made w2 _ _ 23), hb2.size⟩
          | exact ⟨w1.heap.size, rfl, rfl, Lib.hid (bs (bs (bl (ba (below_drewN (br w1) _) _) hb2) (Nat.le_refl _) _) (Nat.le_refl _) _), Lib.hid (own_called hb2).set, Nat.le_refl _⟩
      case rest =>
        obtain ⟨B, rfl, rfl, hbc, hown, hB⟩ := hcut
        obtain ⟨i0, o0, o1, o2, o3⟩ := hown.out
        have hres := ((Own2.made ((w.alloc (.cells #[.int .i64 a, .int .i64 b] 23)).alloc (.cells #[.int .i64 c, .int .i64 d] 23)) 0 0 23).later hb1).later hbc.out
        simp only [World.size_alloc] at hres
        obtain ⟨j0, p0, p1, p2, p3⟩ := hres
        clear HL A0 A1
        have hQ := Lib.hid (wholeQ_ok hchk.out hcz.out)
        have hR := Lib.hid (wholeR_ok hchk.out hcz.out)
        have y1 : (a * d).tdiv (c * b) = a * d / (c * b) := Int.tdiv_eq_ediv_of_nonneg (by omega)
        have y2 : 0 ≤ a * d / (c * b) := Int.ediv_nonneg (by omega) (by omega)
        have y3 : a * d / (c * b) ≤ a * d := Int.ediv_le_self _ (by omega)
        have y4 : IntKind.i64.wrap (a * d / (c * b)) = a * d / (c * b) := IntWalk.i64_in _ (by omega)
        by_cases he : (low (a * d % (c * b)) (b * d)).2.2 = 0
        · have hne2 : ((low (a * d % (c * b)) (b * d)).2.2 != 0) = false := by simp [he]
          have hQ2 := Lib.hid (show wholeQ a b c d = a * d / (c * b) by rw [hQ.out, if_pos he])
          have he2 := Lib.hid he
          clear he hQ
          go_wp2_with fail
          go_region
          go_wp2_with fail
          refine bodyPost_ret (v := .tuple #[.int .i64 (a * d / (c * b)), .agg #[.int .i64 (low (a * d % (c * b)) (b * d)).1, .int .i64 (low (a * d % (c * b)) (b * d)).2.1], .int .i64 0]) (by simp [results, Tryd.results32, go_sem, p0, p1]) rfl ⟨?_, ?_⟩
          · rw [hQ2.out, hR.out]
            show _ = Ending.returned (.tuple #[.int .i64 (a * d / (c * b)), .agg #[.int .i64 (low (a * d % (c * b)) (b * d)).1, .int .i64 (low (a * d % (c * b)) (b * d)).2.1], .int .i64 (low (a * d % (c * b)) (b * d)).2.2])
            rw [he2.out]
          · exact (bs (bs (bl (bl (ba (ba (ba (br _) _) _) _) hb1) hbc.out) (by simp; omega) _) (by simp; omega) _).drew
        · have hne2 : ((low (a * d % (c * b)) (b * d)).2.2 != 0) = true := by simp [he]
          have hQ2 := Lib.hid (show wholeQ a b c d = 0 by rw [hQ.out, if_neg he])
          have hR2 := Lib.hid (show wholeR a b c d = (0, 0, (low (a * d % (c * b)) (b * d)).2.2) by
            rw [hR.out]
            rcases low_err (a * d % (c * b)) (b * d) with e | e
            · exact absurd e he
            · rw [e])
          clear he hQ hR
          go_wp2_with fail
          refine bodyPost_ret (v := wev 0 (0, 0, (low (a * d % (c * b)) (b * d)).2.2)) (by simp [results, Tryd.results32, go_sem, p0, p1]) rfl ⟨by rw [hQ2.out, hR2.out], ?_⟩
          exact bs (bs (bl (bl (ba (ba (ba (br _) _) _) _) hb1) hbc.out) (by simp; omega) _) (by simp; omega) _
  · have hQ := Lib.hid (wholeQ_err h)
    have hR := Lib.hid (wholeR_err h)
    have hne : (chk2 a b c d != 0) = true := by simp [h]
    clear h
    go_enter Tryd.func32, Tryd.ntmps32
    go_wp2_with fail
    refine (checkBoth_any a b c d _).mono ?_
    rintro e w1 ⟨rfl, hb1⟩
    obtain ⟨hc1, hf1⟩ := bcell hb1
    go_wp2_with fail
    refine bodyPost_ret (v := wev 0 (0, 0, chk2 a b c d)) (by simp [results, Tryd.results32, go_sem, hc1]) rfl ⟨by rw [hQ.out, hR.out], ?_⟩
    exact bs (bs (bl (ba (ba (ba (br _) _) _) _) hb1) (by simp; omega) _) (by simp; omega) _

set_option maxHeartbeats 600000 in
theorem rwhole_any (a b c d : Int) (w : World) :
    Calls Tryd.prog 33 #[tv a b, tv c d] w fun e w' => e = .returned (wev (wholeQ a b c d) (wholeR a b c d)) ∧ Below w.heap.size w w' := by
  by_cases h : chk2 a b c d = 0
  · have v := bd_of (valid2_of h)
    obtain ⟨a0, a1, b0, b1, c0, c1, d0, d1, ad0, ad1, cb0, cb1, bd0, bd1⟩ := v
    have hne : (chk2 a b c d != 0) = false := by simp [h]
    by_cases hz : c = 0
    · have hQ := Lib.hid (wholeQ_zero h hz)
      have hR := Lib.hid (wholeR_zero h hz)
      have hz1 : (c == 0) = true := by simp [hz]
      clear h hz
      go_enter Tryd.func33, Tryd.ntmps33
      go_wp2_with fail
      refine (both_any a b c d _).mono ?_
      rintro e w1 ⟨rfl, hb1⟩
      obtain ⟨hc1, hf1⟩ := bcell hb1
      obtain ⟨z10, z11, z12⟩ := sz3 (show w.heap.size + 2 < w1.heap.size by have := hb1.size; simp at this; omega)
      go_wp2_with fail
      refine bodyPost_ret (v := wev 0 (0, 0, 5)) (by simp [results, Tryd.results33, go_sem, hc1]) rfl ⟨by rw [hQ.out, hR.out], ?_⟩
      exact bs (bs (bl (ba (ba (ba (br _) _) _) _) hb1) (by simp; omega) _) (by simp; omega) _
    · have hz1 : (c == 0) = false := by simp [hz]
      have hz2 : 1 ≤ c * b := mul_pos1 (show 1 ≤ c by omega) b0
      have x1 : IntKind.i64.wrap (a * d) = a * d := IntWalk.i64_in _ (by omega)
      have x2 : IntKind.i64.wrap (c * b) = c * b := IntWalk.i64_in _ (by omega)
      have hz3 : ¬ c * b = 0 := by omega
      have m0 := Int.emod_nonneg (a * d) (show c * b ≠ 0 by omega)
      have m1 := Int.emod_lt_of_pos (a * d) (show 0 < c * b by omega)
      have hchk := Lib.hid h
      have hcz := Lib.hid hz
      clear h hz
      go_enter Tryd.func33, Tryd.ntmps33
      go_wp2_with fail
      refine (both_any a b c d _).mono ?_
      rintro e w1 ⟨rfl, hb1⟩
      obtain ⟨hc1, hf1⟩ := bcell hb1
      obtain ⟨z10, z11, z12⟩ := sz3 (show w.heap.size + 2 < w1.heap.size by have := hb1.size; simp at this; omega)
      go_wp2_with fail
      go_quiet (fail)
      clear x1 x2
      go_upto_region 7 with (fail)
      have A0 : ∀ n, ((w1.drewN n).alloc (.cells #[.int .i64 0, .int .i64 0] 23)).cell? ⟨w.heap.size, 1, none⟩ = some (.int .i64 b) := fun n => by
        rw [(ba (below_drewN (br w1) n) _).cell (p := ⟨w.heap.size, 1, none⟩) z10, hc1 _ _ (by simp; omega)]; go_simp
      have A1 : ∀ n, ((w1.drewN n).alloc (.cells #[.int .i64 0, .int .i64 0] 23)).cell? ⟨w.heap.size + 1, 1, none⟩ = some (.int .i64 d) := fun n => by
        rw [(ba (below_drewN (br w1) n) _).cell (p := ⟨w.heap.size + 1, 1, none⟩) z11, hc1 _ _ (by simp)]; go_simp
      have HL := Lib.hid (fun W => of_any (a * d % (c * b)) (b * d) W (by omega) (by omega) (by omega) (by omega))
      have x3 : IntKind.i64.wrap (b * d) = b * d := IntWalk.i64_in _ (by omega)
      have x4 : (a * d).tmod (c * b) = a * d % (c * b) := Int.tmod_eq_emod_of_nonneg (by omega)
      have x5 : IntKind.i64.wrap (a * d % (c * b)) = a * d % (c * b) := IntWalk.i64_in _ (by omega)
      go_cut [7, 10] (fun s7 s10 wc => ∃ B : Nat, s10 = .pointer (some ⟨B, 0, none⟩) ∧ s7 = .int .i64 (low (a * d % (c * b)) (b * d)).2.2 ∧ Hid (Below w1.heap.size w1 wc) ∧ Hid (Own2 wc B (low (a * d % (c * b)) (b * d)).1 (low (a * d % (c * b)) (b * d)).2.1) ∧ w1.heap.size ≤ B)
      case first =>
        go_region_with (first | (go_at_call 45; ((with_reducible refine (HL.out ((w1.drewN _).alloc _)).mono ?_); rintro e w2 ⟨rfl, hb2⟩; obtain ⟨i0, o0, o1, o2, o3⟩ := own_called hb2)) | (go_at_call 45; ((with_reducible refine (HL.out (w1.drewN _)).mono ?_); rintro e w2 ⟨rfl, hb2⟩)))
        all_goals (go_wp2_with fail; go_meet)
        all_goals first
          | exact ⟨w2.heap.size, rfl, rfl, Lib.hid (ba (bl (below_drewN (br w1) _) hb2) _), Lib.hid (Own2.made w2 _ _ 23), hb2.size⟩
          | exact ⟨w1.heap.size, rfl, rfl, Lib.hid (bs (bs (bl (ba (below_drewN (br w1) _) _) hb2) (Nat.le_refl _) _) (Nat.le_refl _) _), Lib.hid (own_called hb2).set, Nat.le_refl _⟩
      case rest =>
        obtain ⟨B, rfl, rfl, hbc, hown, hB⟩ := hcut
        obtain ⟨i0, o0, o1, o2, o3⟩ := hown.out
        have hres := ((Own2.made ((w.alloc (.cells #[.int .i64 a, .int .i64 b] 23)).alloc (.cells #[.int .i64 c, .int .i64 d] 23)) 0 0 23).later hb1).later hbc.out
        simp only [World.size_alloc] at hres
        obtain ⟨j0, p0, p1, p2, p3⟩ := hres
        clear HL A0 A1
        have hQ := Lib.hid (wholeQ_ok hchk.out hcz.out)
        have hR := Lib.hid (wholeR_ok hchk.out hcz.out)
        have y1 : (a * d).tdiv (c * b) = a * d / (c * b) := Int.tdiv_eq_ediv_of_nonneg (by omega)
        have y2 : 0 ≤ a * d / (c * b) := Int.ediv_nonneg (by omega) (by omega)
        have y3 : a * d / (c * b) ≤ a * d := Int.ediv_le_self _ (by omega)
        have y4 : IntKind.i64.wrap (a * d / (c * b)) = a * d / (c * b) := IntWalk.i64_in _ (by omega)
        by_cases he : (low (a * d % (c * b)) (b * d)).2.2 = 0
        · have hne2 : ((low (a * d % (c * b)) (b * d)).2.2 != 0) = false := by simp [he]
          have hQ2 := Lib.hid (show wholeQ a b c d = a * d / (c * b) by rw [hQ.out, if_pos he])
          have he2 := Lib.hid he
          clear he hQ
          go_wp2_with fail
          go_region
          go_wp2_with fail
          refine bodyPost_ret (v := .tuple #[.int .i64 (a * d / (c * b)), .agg #[.int .i64 (low (a * d % (c * b)) (b * d)).1, .int .i64 (low (a * d % (c * b)) (b * d)).2.1], .int .i64 0]) (by simp [results, Tryd.results33, go_sem, p0, p1]) rfl ⟨?_, ?_⟩
          · rw [hQ2.out, hR.out]
            show _ = Ending.returned (.tuple #[.int .i64 (a * d / (c * b)), .agg #[.int .i64 (low (a * d % (c * b)) (b * d)).1, .int .i64 (low (a * d % (c * b)) (b * d)).2.1], .int .i64 (low (a * d % (c * b)) (b * d)).2.2])
            rw [he2.out]
          · exact (bs (bs (bl (bl (ba (ba (ba (br _) _) _) _) hb1) hbc.out) (by simp; omega) _) (by simp; omega) _).drew
        · have hne2 : ((low (a * d % (c * b)) (b * d)).2.2 != 0) = true := by simp [he]
          have hQ2 := Lib.hid (show wholeQ a b c d = 0 by rw [hQ.out, if_neg he])
          have hR2 := Lib.hid (show wholeR a b c d = (0, 0, (low (a * d % (c * b)) (b * d)).2.2) by
            rw [hR.out]
            rcases low_err (a * d % (c * b)) (b * d) with e | e
            · exact absurd e he
            · rw [e])
          clear he hQ hR
          go_wp2_with fail
          refine bodyPost_ret (v := wev 0 (0, 0, (low (a * d % (c * b)) (b * d)).2.2)) (by simp [results, Tryd.results33, go_sem, p0, p1]) rfl ⟨by rw [hQ2.out, hR2.out], ?_⟩
          exact bs (bs (bl (bl (ba (ba (ba (br _) _) _) _) hb1) hbc.out) (by simp; omega) _) (by simp; omega) _
  · have hQ := Lib.hid (wholeQ_err h)
    have hR := Lib.hid (wholeR_err h)
    have hne : (chk2 a b c d != 0) = true := by simp [h]
    clear h
    go_enter Tryd.func33, Tryd.ntmps33
    go_wp2_with fail
    refine (both_any a b c d _).mono ?_
    rintro e w1 ⟨rfl, hb1⟩
    obtain ⟨hc1, hf1⟩ := bcell hb1
    go_wp2_with fail
    refine bodyPost_ret (v := wev 0 (0, 0, chk2 a b c d)) (by simp [results, Tryd.results33, go_sem, hc1]) rfl ⟨by rw [hQ.out, hR.out], ?_⟩
    exact bs (bs (bl (ba (ba (ba (br _) _) _) _) hb1) (by simp; omega) _) (by simp; omega) _

end Go.Proofs.YtjgkliiofechfaaDoor
