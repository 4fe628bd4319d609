/- The iterators of package gamut: the ways of a place; and of a pitch. -/
import Derived.Test.YtaldbjhalpgkeaaDoorGSeq
import Derived.Test.YtaldbjhalpgkeaaDoorGWay
import Derived.Test.YtaldbjhalpgkeaaDoorGProgA
namespace Go.Proofs.YtaldbjhalpgkeaaDoor
open Go.RowKit Go.Shelf
attribute [local go_sem] Oper.semAt_some

set_option maxHeartbeats 4000000 in
set_option maxRecDepth 100000 in
theorem waysat_gives (n : Int) (n1 : -1000 ≤ n) (n2 : n ≤ 1000) (b : Nat) :
    Gives 65 #[.pointer (some ⟨b, 0, none⟩)] (fun s : Sy => sv s) (waysAtL n) (fun W => TabG W ∧ W.cell? ⟨b, 0, none⟩ = some (.int .i64 n)) := by
  intro m l J Jx W hC hJ hJx hY h0
  show CallsIn Fence.wide m Tryd.prog 65 #[.func (.yield l) #[] #[], .pointer (some ⟨b, 0, none⟩)] W _
  have T := (hC _ _ h0).1
  have b0 : W.cell? ⟨0, 0, none⟩ = some (.int .i64 0) := T.b 0 (by omega)
  have b1 : W.cell? ⟨0, 1, none⟩ = some (.int .i64 3) := T.b 1 (by omega)
  have b2 : W.cell? ⟨0, 2, none⟩ = some (.int .i64 6) := T.b 2 (by omega)
  have b3 : W.cell? ⟨0, 3, none⟩ = some (.int .i64 7) := T.b 3 (by omega)
  have b4 : W.cell? ⟨0, 4, none⟩ = some (.int .i64 10) := T.b 4 (by omega)
  have b5 : W.cell? ⟨0, 5, none⟩ = some (.int .i64 13) := T.b 5 (by omega)
  have b6 : W.cell? ⟨0, 6, none⟩ = some (.int .i64 14) := T.b 6 (by omega)
  have i0 : ∀ w, (Instr.index 68 (.agg #[.int .i64 0, .int .i64 3, .int .i64 6, .int .i64 7, .int .i64 10, .int .i64 13, .int .i64 14]) (.int .i64 0)).run Tryd.prog w = .ok (.int .i64 0) w := fun _ => by kernel_rfl
  have i1 : ∀ w, (Instr.index 68 (.agg #[.int .i64 0, .int .i64 3, .int .i64 6, .int .i64 7, .int .i64 10, .int .i64 13, .int .i64 14]) (.int .i64 1)).run Tryd.prog w = .ok (.int .i64 3) w := fun _ => by kernel_rfl
  have i2 : ∀ w, (Instr.index 68 (.agg #[.int .i64 0, .int .i64 3, .int .i64 6, .int .i64 7, .int .i64 10, .int .i64 13, .int .i64 14]) (.int .i64 2)).run Tryd.prog w = .ok (.int .i64 6) w := fun _ => by kernel_rfl
  have i3 : ∀ w, (Instr.index 68 (.agg #[.int .i64 0, .int .i64 3, .int .i64 6, .int .i64 7, .int .i64 10, .int .i64 13, .int .i64 14]) (.int .i64 3)).run Tryd.prog w = .ok (.int .i64 7) w := fun _ => by kernel_rfl
  have i4 : ∀ w, (Instr.index 68 (.agg #[.int .i64 0, .int .i64 3, .int .i64 6, .int .i64 7, .int .i64 10, .int .i64 13, .int .i64 14]) (.int .i64 4)).run Tryd.prog w = .ok (.int .i64 10) w := fun _ => by kernel_rfl
  have i5 : ∀ w, (Instr.index 68 (.agg #[.int .i64 0, .int .i64 3, .int .i64 6, .int .i64 7, .int .i64 10, .int .i64 13, .int .i64 14]) (.int .i64 5)).run Tryd.prog w = .ok (.int .i64 13) w := fun _ => by kernel_rfl
  have i6 : ∀ w, (Instr.index 68 (.agg #[.int .i64 0, .int .i64 3, .int .i64 6, .int .i64 7, .int .i64 10, .int .i64 13, .int .i64 14]) (.int .i64 6)).run Tryd.prog w = .ok (.int .i64 14) w := fun _ => by kernel_rfl
  have HC := Lib.hid hC
  have HJ := Lib.hid hJ
  have HX := Lib.hid hJx
  have HY := Lib.hid hY
  have S := Lib.hid (fun y W => callsIn_wide (n := m - 1) |>.2 (wissyl_any y W))
  clear hC hJ hJx hY T
  refine callsIn_of_wp Tryd.func65 rfl trivial ?_ rfl
  simp only [Tryd.ntmps65, List.size_toArray, List.length_cons, List.length_nil, Nat.reduceAdd, Nat.reduceSub, Array.replicate_succ, Array.replicate_zero, List.push_toArray, List.append_toArray, List.nil_append, List.cons_append]
  gi_wp2_with fail
  clear b0 b1 b2 b3 b4 b5 b6
  gi_loopw [7] (fun i wr => ∃ k : Nat, k ≤ 7 ∧ i = .int .i64 (k : Int) ∧ Hid (J (waysAtK n k) wr)) (fun i _ => (7 - intOf i).toNat)
  case atStart => exact ⟨0, by omega, rfl, Lib.hid h0⟩
  case round =>
    obtain ⟨k, hk, rfl, hj⟩ := hrel
    have c : k = 0 ∨ k = 1 ∨ k = 2 ∨ k = 3 ∨ k = 4 ∨ k = 5 ∨ k = 6 ∨ k = 7 := by omega
    clear hk h0
    rcases c with rfl | rfl | rfl | rfl | rfl | rfl | rfl | rfl
    · have c0 := (HC.out _ _ hj.out).2
      have x1 : IntKind.i64.wrap (n) = n := IntWalk.i64_in _ (by omega)
      obtain ⟨y, hy⟩ : ∃ y, n + 1 = y := ⟨_, rfl⟩
      have x2 : IntKind.i64.wrap (n + 1) = y := by rw [IntWalk.i64_in _ (by omega)]; exact hy
      have ew := Lib.hid (show wayAt n 0 = (1, y) by rw [← hy]; show (_, _) = _; simp [beginI])
      have C := Lib.hid (fun W => S.out y W)
      clear S
      have BX := Lib.hid (Cell2.made wr (1, y) 25)
      by_cases hs : 1 ≤ y ∧ y ≤ 6
      · have hw := Lib.hid (show sylB (wayAt n 0) = true by rw [ew.out]; exact decide_eq_true hs)
        have hn := Lib.hid (waysAt_snoc n 0)
        rw [hw.out, if_pos rfl] at hn
        obtain ⟨post, hp⟩ := waysAt_post n (k := 0) (by omega) hw.out
        have HP := Lib.hid hp
        rw [decide_eq_true hs] at C
        clear hs hy hw hp
        gi_wp2_with fail
        refine ⟨trivial, (fun h => by cases h), (C.out _).mono ?_⟩
        rintro e w1 ⟨rfl, hb⟩
        have hB := Lib.hid (w_below (w_alloc (w_refl wr) _) hb)
        have hj1 := Lib.hid (OwnFrom.bel HJ.out hj.out hB.out)
        obtain ⟨_, d0, d1, _, _⟩ := BX.out.later hb
        obtain ⟨fn, tmps, assign, body, hy, hR⟩ := HY.out (m - 1) _ _ post _ HP.out hj1.out
        rw [ew.out] at hy
        have HR := Lib.hid hR
        clear hb BX c0 hR hj hB C
        gi_wp2_with fail
        refine ⟨(fun h => by cases h), HR.out.mono ?_⟩
        rintro e w2 (⟨rfl, hj2, _⟩ | ⟨rfl, hx, _⟩)
        · have HN := Lib.hid (hn.symm ▸ hj2)
          clear hj2 hn hj1 HR d0 d1 hy
          gi_wp2_with fail
          go_roundw
          case rel => exact ⟨1, by omega, rfl, HN⟩
          case measure => simp [intOf]
        · have HN := Lib.hid hx
          clear hx hn hj1 HR d0 d1 hy
          gi_wp2_with fail
          refine bodyPost_ret (results_none rfl _ _ _) rfl ?_
          exact ⟨⟨_, rfl⟩, .inr HN.out⟩
      · have hw := Lib.hid (show sylB (wayAt n 0) = false by rw [ew.out]; exact decide_eq_false hs)
        have hn := waysAt_snoc n 0
        rw [hw.out, if_neg (by decide), List.append_nil] at hn
        have HN := Lib.hid (hn.symm ▸ hj.out)
        rw [decide_eq_false hs] at C
        clear hs hy hw hn
        gi_wp2_with fail
        refine ⟨trivial, (fun h => by cases h), (C.out _).mono ?_⟩
        rintro e w1 ⟨rfl, hb⟩
        have HN1 := Lib.hid (OwnFrom.bel HJ.out HN.out (w_below (w_alloc (w_refl wr) _) hb))
        clear hb BX c0 hj C
        gi_wp2_with fail
        refine ⟨(fun _ h => (by cases h)), ?_⟩
        gi_wp2_with fail
        go_roundw
        case rel => exact ⟨1, by omega, rfl, HN1⟩
        case measure => simp [intOf]
    · have c0 := (HC.out _ _ hj.out).2
      have x1 : IntKind.i64.wrap (n - 3) = n - 3 := IntWalk.i64_in _ (by omega)
      obtain ⟨y, hy⟩ : ∃ y, n - 3 + 1 = y := ⟨_, rfl⟩
      have x2 : IntKind.i64.wrap (n - 3 + 1) = y := by rw [IntWalk.i64_in _ (by omega)]; exact hy
      have ew := Lib.hid (show wayAt n 1 = (2, y) by rw [← hy]; show (_, _) = _; simp [beginI])
      have C := Lib.hid (fun W => S.out y W)
      clear S
      have BX := Lib.hid (Cell2.made wr (2, y) 25)
      by_cases hs : 1 ≤ y ∧ y ≤ 6
      · have hw := Lib.hid (show sylB (wayAt n 1) = true by rw [ew.out]; exact decide_eq_true hs)
        have hn := Lib.hid (waysAt_snoc n 1)
        rw [hw.out, if_pos rfl] at hn
        obtain ⟨post, hp⟩ := waysAt_post n (k := 1) (by omega) hw.out
        have HP := Lib.hid hp
        rw [decide_eq_true hs] at C
        clear hs hy hw hp
        gi_wp2_with fail
        refine ⟨trivial, (fun h => by cases h), (C.out _).mono ?_⟩
        rintro e w1 ⟨rfl, hb⟩
        have hB := Lib.hid (w_below (w_alloc (w_refl wr) _) hb)
        have hj1 := Lib.hid (OwnFrom.bel HJ.out hj.out hB.out)
        obtain ⟨_, d0, d1, _, _⟩ := BX.out.later hb
        obtain ⟨fn, tmps, assign, body, hy, hR⟩ := HY.out (m - 1) _ _ post _ HP.out hj1.out
        rw [ew.out] at hy
        have HR := Lib.hid hR
        clear hb BX c0 hR hj hB C
        gi_wp2_with fail
        refine ⟨(fun h => by cases h), HR.out.mono ?_⟩
        rintro e w2 (⟨rfl, hj2, _⟩ | ⟨rfl, hx, _⟩)
        · have HN := Lib.hid (hn.symm ▸ hj2)
          clear hj2 hn hj1 HR d0 d1 hy
          gi_wp2_with fail
          go_roundw
          case rel => exact ⟨2, by omega, rfl, HN⟩
          case measure => simp [intOf]
        · have HN := Lib.hid hx
          clear hx hn hj1 HR d0 d1 hy
          gi_wp2_with fail
          refine bodyPost_ret (results_none rfl _ _ _) rfl ?_
          exact ⟨⟨_, rfl⟩, .inr HN.out⟩
      · have hw := Lib.hid (show sylB (wayAt n 1) = false by rw [ew.out]; exact decide_eq_false hs)
        have hn := waysAt_snoc n 1
        rw [hw.out, if_neg (by decide), List.append_nil] at hn
        have HN := Lib.hid (hn.symm ▸ hj.out)
        rw [decide_eq_false hs] at C
        clear hs hy hw hn
        gi_wp2_with fail
        refine ⟨trivial, (fun h => by cases h), (C.out _).mono ?_⟩
        rintro e w1 ⟨rfl, hb⟩
        have HN1 := Lib.hid (OwnFrom.bel HJ.out HN.out (w_below (w_alloc (w_refl wr) _) hb))
        clear hb BX c0 hj C
        gi_wp2_with fail
        refine ⟨(fun _ h => (by cases h)), ?_⟩
        gi_wp2_with fail
        go_roundw
        case rel => exact ⟨2, by omega, rfl, HN1⟩
        case measure => simp [intOf]
    · have c0 := (HC.out _ _ hj.out).2
      have x1 : IntKind.i64.wrap (n - 6) = n - 6 := IntWalk.i64_in _ (by omega)
      obtain ⟨y, hy⟩ : ∃ y, n - 6 + 1 = y := ⟨_, rfl⟩
      have x2 : IntKind.i64.wrap (n - 6 + 1) = y := by rw [IntWalk.i64_in _ (by omega)]; exact hy
      have ew := Lib.hid (show wayAt n 2 = (3, y) by rw [← hy]; show (_, _) = _; simp [beginI])
      have C := Lib.hid (fun W => S.out y W)
      clear S
      have BX := Lib.hid (Cell2.made wr (3, y) 25)
      by_cases hs : 1 ≤ y ∧ y ≤ 6
      · have hw := Lib.hid (show sylB (wayAt n 2) = true by rw [ew.out]; exact decide_eq_true hs)
        have hn := Lib.hid (waysAt_snoc n 2)
        rw [hw.out, if_pos rfl] at hn
        obtain ⟨post, hp⟩ := waysAt_post n (k := 2) (by omega) hw.out
        have HP := Lib.hid hp
        rw [decide_eq_true hs] at C
        clear hs hy hw hp
        gi_wp2_with fail
        refine ⟨trivial, (fun h => by cases h), (C.out _).mono ?_⟩
        rintro e w1 ⟨rfl, hb⟩
        have hB := Lib.hid (w_below (w_alloc (w_refl wr) _) hb)
        have hj1 := Lib.hid (OwnFrom.bel HJ.out hj.out hB.out)
        obtain ⟨_, d0, d1, _, _⟩ := BX.out.later hb
        obtain ⟨fn, tmps, assign, body, hy, hR⟩ := HY.out (m - 1) _ _ post _ HP.out hj1.out
        rw [ew.out] at hy
        have HR := Lib.hid hR
        clear hb BX c0 hR hj hB C
        gi_wp2_with fail
        refine ⟨(fun h => by cases h), HR.out.mono ?_⟩
        rintro e w2 (⟨rfl, hj2, _⟩ | ⟨rfl, hx, _⟩)
        · have HN := Lib.hid (hn.symm ▸ hj2)
          clear hj2 hn hj1 HR d0 d1 hy
          gi_wp2_with fail
          go_roundw
          case rel => exact ⟨3, by omega, rfl, HN⟩
          case measure => simp [intOf]
        · have HN := Lib.hid hx
          clear hx hn hj1 HR d0 d1 hy
          gi_wp2_with fail
          refine bodyPost_ret (results_none rfl _ _ _) rfl ?_
          exact ⟨⟨_, rfl⟩, .inr HN.out⟩
      · have hw := Lib.hid (show sylB (wayAt n 2) = false by rw [ew.out]; exact decide_eq_false hs)
        have hn := waysAt_snoc n 2
        rw [hw.out, if_neg (by decide), List.append_nil] at hn
        have HN := Lib.hid (hn.symm ▸ hj.out)
        rw [decide_eq_false hs] at C
        clear hs hy hw hn
        gi_wp2_with fail
        refine ⟨trivial, (fun h => by cases h), (C.out _).mono ?_⟩
        rintro e w1 ⟨rfl, hb⟩
        have HN1 := Lib.hid (OwnFrom.bel HJ.out HN.out (w_below (w_alloc (w_refl wr) _) hb))
        clear hb BX c0 hj C
        gi_wp2_with fail
        refine ⟨(fun _ h => (by cases h)), ?_⟩
        gi_wp2_with fail
        go_roundw
        case rel => exact ⟨3, by omega, rfl, HN1⟩
        case measure => simp [intOf]
    · have c0 := (HC.out _ _ hj.out).2
      have x1 : IntKind.i64.wrap (n - 7) = n - 7 := IntWalk.i64_in _ (by omega)
      obtain ⟨y, hy⟩ : ∃ y, n - 7 + 1 = y := ⟨_, rfl⟩
      have x2 : IntKind.i64.wrap (n - 7 + 1) = y := by rw [IntWalk.i64_in _ (by omega)]; exact hy
      have ew := Lib.hid (show wayAt n 3 = (4, y) by rw [← hy]; show (_, _) = _; simp [beginI])
      have C := Lib.hid (fun W => S.out y W)
      clear S
      have BX := Lib.hid (Cell2.made wr (4, y) 25)
      by_cases hs : 1 ≤ y ∧ y ≤ 6
      · have hw := Lib.hid (show sylB (wayAt n 3) = true by rw [ew.out]; exact decide_eq_true hs)
        have hn := Lib.hid (waysAt_snoc n 3)
        rw [hw.out, if_pos rfl] at hn
        obtain ⟨post, hp⟩ := waysAt_post n (k := 3) (by omega) hw.out
        have HP := Lib.hid hp
        rw [decide_eq_true hs] at C
        clear hs hy hw hp
        gi_wp2_with fail
        refine ⟨trivial, (fun h => by cases h), (C.out _).mono ?_⟩
        rintro e w1 ⟨rfl, hb⟩
        have hB := Lib.hid (w_below (w_alloc (w_refl wr) _) hb)
        have hj1 := Lib.hid (OwnFrom.bel HJ.out hj.out hB.out)
        obtain ⟨_, d0, d1, _, _⟩ := BX.out.later hb
        obtain ⟨fn, tmps, assign, body, hy, hR⟩ := HY.out (m - 1) _ _ post _ HP.out hj1.out
        rw [ew.out] at hy
        have HR := Lib.hid hR
        clear hb BX c0 hR hj hB C
        gi_wp2_with fail
        refine ⟨(fun h => by cases h), HR.out.mono ?_⟩
        rintro e w2 (⟨rfl, hj2, _⟩ | ⟨rfl, hx, _⟩)
        · have HN := Lib.hid (hn.symm ▸ hj2)
          clear hj2 hn hj1 HR d0 d1 hy
          gi_wp2_with fail
          go_roundw
          case rel => exact ⟨4, by omega, rfl, HN⟩
          case measure => simp [intOf]
        · have HN := Lib.hid hx
          clear hx hn hj1 HR d0 d1 hy
          gi_wp2_with fail
          refine bodyPost_ret (results_none rfl _ _ _) rfl ?_
          exact ⟨⟨_, rfl⟩, .inr HN.out⟩
      · have hw := Lib.hid (show sylB (wayAt n 3) = false by rw [ew.out]; exact decide_eq_false hs)
        have hn := waysAt_snoc n 3
        rw [hw.out, if_neg (by decide), List.append_nil] at hn
        have HN := Lib.hid (hn.symm ▸ hj.out)
        rw [decide_eq_false hs] at C
        clear hs hy hw hn
        gi_wp2_with fail
        refine ⟨trivial, (fun h => by cases h), (C.out _).mono ?_⟩
        rintro e w1 ⟨rfl, hb⟩
        have HN1 := Lib.hid (OwnFrom.bel HJ.out HN.out (w_below (w_alloc (w_refl wr) _) hb))
        clear hb BX c0 hj C
        gi_wp2_with fail
        refine ⟨(fun _ h => (by cases h)), ?_⟩
        gi_wp2_with fail
        go_roundw
        case rel => exact ⟨4, by omega, rfl, HN1⟩
        case measure => simp [intOf]
    · have c0 := (HC.out _ _ hj.out).2
      have x1 : IntKind.i64.wrap (n - 10) = n - 10 := IntWalk.i64_in _ (by omega)
      obtain ⟨y, hy⟩ : ∃ y, n - 10 + 1 = y := ⟨_, rfl⟩
      have x2 : IntKind.i64.wrap (n - 10 + 1) = y := by rw [IntWalk.i64_in _ (by omega)]; exact hy
      have ew := Lib.hid (show wayAt n 4 = (5, y) by rw [← hy]; show (_, _) = _; simp [beginI])
      have C := Lib.hid (fun W => S.out y W)
      clear S
      have BX := Lib.hid (Cell2.made wr (5, y) 25)
      by_cases hs : 1 ≤ y ∧ y ≤ 6
      · have hw := Lib.hid (show sylB (wayAt n 4) = true by rw [ew.out]; exact decide_eq_true hs)
        have hn := Lib.hid (waysAt_snoc n 4)
        rw [hw.out, if_pos rfl] at hn
        obtain ⟨post, hp⟩ := waysAt_post n (k := 4) (by omega) hw.out
        have HP := Lib.hid hp
        rw [decide_eq_true hs] at C
        clear hs hy hw hp
        gi_wp2_with fail
        refine ⟨trivial, (fun h => by cases h), (C.out _).mono ?_⟩
        rintro e w1 ⟨rfl, hb⟩
        have hB := Lib.hid (w_below (w_alloc (w_refl wr) _) hb)
        have hj1 := Lib.hid (OwnFrom.bel HJ.out hj.out hB.out)
        obtain ⟨_, d0, d1, _, _⟩ := BX.out.later hb
        obtain ⟨fn, tmps, assign, body, hy, hR⟩ := HY.out (m - 1) _ _ post _ HP.out hj1.out
        rw [ew.out] at hy
        have HR := Lib.hid hR
        clear hb BX c0 hR hj hB C
        gi_wp2_with fail
        refine ⟨(fun h => by cases h), HR.out.mono ?_⟩
        rintro e w2 (⟨rfl, hj2, _⟩ | ⟨rfl, hx, _⟩)
        · have HN := Lib.hid (hn.symm ▸ hj2)
          clear hj2 hn hj1 HR d0 d1 hy
          gi_wp2_with fail
          go_roundw
          case rel => exact ⟨5, by omega, rfl, HN⟩
          case measure => simp [intOf]
        · have HN := Lib.hid hx
          clear hx hn hj1 HR d0 d1 hy
          gi_wp2_with fail
          refine bodyPost_ret (results_none rfl _ _ _) rfl ?_
          exact ⟨⟨_, rfl⟩, .inr HN.out⟩
      · have hw := Lib.hid (show sylB (wayAt n 4) = false by rw [ew.out]; exact decide_eq_false hs)
        have hn := waysAt_snoc n 4
        rw [hw.out, if_neg (by decide), List.append_nil] at hn
        have HN := Lib.hid (hn.symm ▸ hj.out)
        rw [decide_eq_false hs] at C
        clear hs hy hw hn
        gi_wp2_with fail
        refine ⟨trivial, (fun h => by cases h), (C.out _).mono ?_⟩
        rintro e w1 ⟨rfl, hb⟩
        have HN1 := Lib.hid (OwnFrom.bel HJ.out HN.out (w_below (w_alloc (w_refl wr) _) hb))
        clear hb BX c0 hj C
        gi_wp2_with fail
        refine ⟨(fun _ h => (by cases h)), ?_⟩
        gi_wp2_with fail
        go_roundw
        case rel => exact ⟨5, by omega, rfl, HN1⟩
        case measure => simp [intOf]
    · have c0 := (HC.out _ _ hj.out).2
      have x1 : IntKind.i64.wrap (n - 13) = n - 13 := IntWalk.i64_in _ (by omega)
      obtain ⟨y, hy⟩ : ∃ y, n - 13 + 1 = y := ⟨_, rfl⟩
      have x2 : IntKind.i64.wrap (n - 13 + 1) = y := by rw [IntWalk.i64_in _ (by omega)]; exact hy
      have ew := Lib.hid (show wayAt n 5 = (6, y) by rw [← hy]; show (_, _) = _; simp [beginI])
      have C := Lib.hid (fun W => S.out y W)
      clear S
      have BX := Lib.hid (Cell2.made wr (6, y) 25)
      by_cases hs : 1 ≤ y ∧ y ≤ 6
      · have hw := Lib.hid (show sylB (wayAt n 5) = true by rw [ew.out]; exact decide_eq_true hs)
        have hn := Lib.hid (waysAt_snoc n 5)
        rw [hw.out, if_pos rfl] at hn
        obtain ⟨post, hp⟩ := waysAt_post n (k := 5) (by omega) hw.out
        have HP := Lib.hid hp
        rw [decide_eq_true hs] at C
        clear hs hy hw hp
        gi_wp2_with fail
        refine ⟨trivial, (fun h => by cases h), (C.out _).mono ?_⟩
        rintro e w1 ⟨rfl, hb⟩
        have hB := Lib.hid (w_below (w_alloc (w_refl wr) _) hb)
        have hj1 := Lib.hid (OwnFrom.bel HJ.out hj.out hB.out)
        obtain ⟨_, d0, d1, _, _⟩ := BX.out.later hb
        obtain ⟨fn, tmps, assign, body, hy, hR⟩ := HY.out (m - 1) _ _ post _ HP.out hj1.out
        rw [ew.out] at hy
        have HR := Lib.hid hR
        clear hb BX c0 hR hj hB C
        gi_wp2_with fail
        refine ⟨(fun h => by cases h), HR.out.mono ?_⟩
        rintro e w2 (⟨rfl, hj2, _⟩ | ⟨rfl, hx, _⟩)
        · have HN := Lib.hid (hn.symm ▸ hj2)
          clear hj2 hn hj1 HR d0 d1 hy
          gi_wp2_with fail
          go_roundw
          case rel => exact ⟨6, by omega, rfl, HN⟩
          case measure => simp [intOf]
        · have HN := Lib.hid hx
          clear hx hn hj1 HR d0 d1 hy
          gi_wp2_with fail
          refine bodyPost_ret (results_none rfl _ _ _) rfl ?_
          exact ⟨⟨_, rfl⟩, .inr HN.out⟩
      · have hw := Lib.hid (show sylB (wayAt n 5) = false by rw [ew.out]; exact decide_eq_false hs)
        have hn := waysAt_snoc n 5
        rw [hw.out, if_neg (by decide), List.append_nil] at hn
        have HN := Lib.hid (hn.symm ▸ hj.out)
        rw [decide_eq_false hs] at C
        clear hs hy hw hn
        gi_wp2_with fail
        refine ⟨trivial, (fun h => by cases h), (C.out _).mono ?_⟩
        rintro e w1 ⟨rfl, hb⟩
        have HN1 := Lib.hid (OwnFrom.bel HJ.out HN.out (w_below (w_alloc (w_refl wr) _) hb))
        clear hb BX c0 hj C
        gi_wp2_with fail
        refine ⟨(fun _ h => (by cases h)), ?_⟩
        gi_wp2_with fail
        go_roundw
        case rel => exact ⟨6, by omega, rfl, HN1⟩
        case measure => simp [intOf]
    · have c0 := (HC.out _ _ hj.out).2
      have x1 : IntKind.i64.wrap (n - 14) = n - 14 := IntWalk.i64_in _ (by omega)
      obtain ⟨y, hy⟩ : ∃ y, n - 14 + 1 = y := ⟨_, rfl⟩
      have x2 : IntKind.i64.wrap (n - 14 + 1) = y := by rw [IntWalk.i64_in _ (by omega)]; exact hy
      have ew := Lib.hid (show wayAt n 6 = (7, y) by rw [← hy]; show (_, _) = _; simp [beginI])
      have C := Lib.hid (fun W => S.out y W)
      clear S
      have BX := Lib.hid (Cell2.made wr (7, y) 25)
      by_cases hs : 1 ≤ y ∧ y ≤ 6
      · have hw := Lib.hid (show sylB (wayAt n 6) = true by rw [ew.out]; exact decide_eq_true hs)
        have hn := Lib.hid (waysAt_snoc n 6)
        rw [hw.out, if_pos rfl] at hn
        obtain ⟨post, hp⟩ := waysAt_post n (k := 6) (by omega) hw.out
        have HP := Lib.hid hp
        rw [decide_eq_true hs] at C
        clear hs hy hw hp
        gi_wp2_with fail
        refine ⟨trivial, (fun h => by cases h), (C.out _).mono ?_⟩
        rintro e w1 ⟨rfl, hb⟩
        have hB := Lib.hid (w_below (w_alloc (w_refl wr) _) hb)
        have hj1 := Lib.hid (OwnFrom.bel HJ.out hj.out hB.out)
        obtain ⟨_, d0, d1, _, _⟩ := BX.out.later hb
        obtain ⟨fn, tmps, assign, body, hy, hR⟩ := HY.out (m - 1) _ _ post _ HP.out hj1.out
        rw [ew.out] at hy
        have HR := Lib.hid hR
        clear hb BX c0 hR hj hB C
        gi_wp2_with fail
        refine ⟨(fun h => by cases h), HR.out.mono ?_⟩
        rintro e w2 (⟨rfl, hj2, _⟩ | ⟨rfl, hx, _⟩)
        · have HN := Lib.hid (hn.symm ▸ hj2)
          clear hj2 hn hj1 HR d0 d1 hy
          gi_wp2_with fail
          go_roundw
          case rel => exact ⟨7, by omega, rfl, HN⟩
          case measure => simp [intOf]
        · have HN := Lib.hid hx
          clear hx hn hj1 HR d0 d1 hy
          gi_wp2_with fail
          refine bodyPost_ret (results_none rfl _ _ _) rfl ?_
          exact ⟨⟨_, rfl⟩, .inr HN.out⟩
      · have hw := Lib.hid (show sylB (wayAt n 6) = false by rw [ew.out]; exact decide_eq_false hs)
        have hn := waysAt_snoc n 6
        rw [hw.out, if_neg (by decide), List.append_nil] at hn
        have HN := Lib.hid (hn.symm ▸ hj.out)
        rw [decide_eq_false hs] at C
        clear hs hy hw hn
        gi_wp2_with fail
        refine ⟨trivial, (fun h => by cases h), (C.out _).mono ?_⟩
        rintro e w1 ⟨rfl, hb⟩
        have HN1 := Lib.hid (OwnFrom.bel HJ.out HN.out (w_below (w_alloc (w_refl wr) _) hb))
        clear hb BX c0 hj C
        gi_wp2_with fail
        refine ⟨(fun _ h => (by cases h)), ?_⟩
        gi_wp2_with fail
        go_roundw
        case rel => exact ⟨7, by omega, rfl, HN1⟩
        case measure => simp [intOf]
    · gi_wp2_with fail
      go_end0
      exact ⟨⟨_, rfl⟩, .inl hj.out⟩

end Go.Proofs.YtaldbjhalpgkeaaDoor
