/- The reference's search for the best solmization: the tables. -/
import Derived.Test.YtaldbjhalpgkeaaDoorGRefG
import Derived.Test.YtaldbjhalpgkeaaDoorGTab
import Derived.Test.YtaldbjhalpgkeaaDoorLate
import Derived.BigRegion
import Derived.Deep.CutBlock
namespace Go.Proofs.YtaldbjhalpgkeaaDoor
open Go.RowKit

theorem info_ss : (Tryd.prog.info? 29).map (fun i => (i.zero, i.size, i.bytes)) = some (some (.slice none 0 0), 1, 24) := by kernel_rfl
theorem info_is : (Tryd.prog.info? 43).map (fun i => (i.zero, i.size, i.bytes)) = some (some (.slice none 0 0), 1, 24) := by kernel_rfl

theorem tb_start (w : World) (l : List Pi3) : Tb w (((w.alloc (.cells (madeCells #[.slice none 0 0] l.length) 29)).alloc (.cells (madeCells #[.slice none 0 0] l.length) 43)).alloc (.cells (madeCells #[.slice none 0 0] l.length) 43)) l l.length l.length
    (fun _ => .slice none 0 0) (fun _ => .slice none 0 0) (fun _ => .slice none 0 0) := by
  refine ⟨w_alloc (w_alloc (w_alloc (w_refl w) _) _) _, ((World.rowIs_made w _ _ _).alloc _).alloc _, ?_, ?_, fun q h1 h2 => by omega, fun q h1 h2 => by omega, fun q h1 h2 => by omega, fun q _ => ⟨rfl, rfl⟩⟩
  · have := World.rowIs_made (w.alloc (.cells (madeCells #[.slice none 0 0] l.length) 29)) (.slice none 0 0) l.length 43
    rw [World.size_alloc] at this
    exact this.alloc _
  · have := World.rowIs_made ((w.alloc (.cells (madeCells #[.slice none 0 0] l.length) 29)).alloc (.cells (madeCells #[.slice none 0 0] l.length) 43)) (.slice none 0 0) l.length 43
    rw [World.size_alloc, World.size_alloc] at this
    exact this

set_option maxRecDepth 100000 in
set_option maxHeartbeats 80000000 in
theorem rbest_any (p : Option Addr) (cap : Nat) (l : List Pi3) (w : World) (h : SlP w 3 p l.length cap (flatP l)) (hl : l.length ≤ 100000) (hs : Sung l) :
    Calls Tryd.prog 58 #[.slice p l.length cap] w fun e w' => ∃ v, e = .returned (.tuple #[v, .int .i64 (movesL (bestL l))]) ∧ SylV w' v (bestL l) ∧ Below w.heap.size w w' := by
  have HS := Lib.hid h
  have f1 := h.fit
  have f2 := h.max
  clear h
  obtain ⟨i0, hi0, hz0, hz1, hz2⟩ := info_parts info_ss
  obtain ⟨j0, hj0, hy0, hy1, hy2⟩ := info_parts info_is
  obtain ⟨k0, hk0, hx0, hx1, hx2⟩ := info_parts info_int
  obtain ⟨m0, hm0, hv0, hv1, hv2⟩ := info_parts info_syl
  have MW := Lib.hid (fun p W => rmadeways_own p W)
  have CO := Lib.hid (fun a ha b hb W => rcost_any a b ha hb W)
  by_cases hn0 : l = []
  · subst hn0
    go_enter Tryd.func58, Tryd.ntmps58
    go_wp2_with fail
    go_ret2
    exact ⟨_, rfl, SylV.none w, w_refl w⟩
  · have hpos : 0 < l.length := List.length_pos_iff.2 hn0
    have hpos' : ((l.length : Int) == 0) = false := by simp; omega
    have TB0 := Lib.hid (tb_start w l)
    have x1 : IntKind.i64.wrap ((l.length : Int) - 1) = (l.length : Int) - 1 := IntWalk.i64_in _ (by omega)
    have hm1 : ∀ W : World, (Instr.makeSlice 101 (.int .i64 (l.length : Int)) (.int .i64 (l.length : Int))).run Tryd.prog W = .ok (.slice (some ⟨W.heap.size, 0, none⟩) l.length l.length) (W.alloc (.cells (madeCells #[.slice none 0 0] l.length) 29)) :=
      fun W => run_make_row _ _ i0 _ Tryd.underlying101 hi0 hz0 hz1 rfl _ _ _ (by rw [hz2]; omega) (by omega) W
    have hm2 : ∀ W : World, (Instr.makeSlice 102 (.int .i64 (l.length : Int)) (.int .i64 (l.length : Int))).run Tryd.prog W = .ok (.slice (some ⟨W.heap.size, 0, none⟩) l.length l.length) (W.alloc (.cells (madeCells #[.slice none 0 0] l.length) 43)) :=
      fun W => run_make_row _ _ j0 _ Tryd.underlying102 hj0 hy0 hy1 rfl _ _ _ (by rw [hy2]; omega) (by omega) W
    clear hn0
    go_enter Tryd.func58, Tryd.ntmps58
    go_wp2_with fail
    go_loopw [7] (fun s7 wr => ∃ c : Nat, c ≤ l.length ∧ s7 = .int .i64 ((c : Int) - 1) ∧ ∃ fA fB fC, Hid (Tb w wr l c c fA fB fC)) (fun s7 _ => (intOf s7 + 1).toNat)
    case atStart => exact ⟨l.length, Nat.le_refl _, rfl, _, _, _, TB0⟩
    case round =>
      obtain ⟨c, hc, rfl, fA, fB, fC, hT⟩ := hrel
      clear hm1 hm2 x1
      by_cases hc0 : c = 0
      · subst hc0
        rw [show (((0 : Nat) : Int) - 1) = -1 from rfl]
        generalize hwt : wr = wt at *
        clear hwt
        go_wp2_with fail
        go_loopw [14, 15] (fun s14 s15 wc => ∃ i : Nat, i ≤ l.length ∧ s15 = .int .i64 i ∧ ∃ o : List Sy, o.length = i ∧ Hid (bestL l = o ++ bestO o.getLast? (l.drop i)) ∧ (∃ q c, s14 = .slice q o.length c) ∧ Hid (OwnL wt wc 25 2 s14 o.length (flatS o))) (fun _ s15 _ => l.length - (intOf s15).toNat)
        case atStart => exact ⟨0, Nat.zero_le _, rfl, [], rfl, Lib.hid rfl, ⟨none, 0, rfl⟩, Lib.hid (OwnL.start _ _ _)⟩
        case round =>
          obtain ⟨i, hin, rfl, o, hoo, hbest, ⟨qo, co, rfl⟩, hown⟩ := hrel
          have ho := Lib.hid hoo
          clear hoo
          by_cases hi : i < l.length
          · have hi' : (i : Int) < l.length := by omega
            obtain ⟨q, hq⟩ : ∃ q, l[i]? = some q := ⟨l[i], List.getElem?_eq_getElem hi⟩
            have hpt : ptL l i = q := by unfold ptL; rw [List.getD, hq]; rfl
            have hne : waysL q ≠ [] := hs q (List.mem_of_getElem? hq)
            have hlenq : 0 < (waysL q).length := List.length_pos_iff.2 hne
            have hdrop := Lib.hid (show l.drop i = q :: l.drop (i + 1) by
              obtain ⟨hlt, e⟩ := List.getElem?_eq_some_iff.1 hq
              rw [List.drop_eq_getElem_cons hlt, e])
            have hTk := hT.out.later hown.out.bel
            have oA := hTk.uA i (by omega) hi
            have oB := hTk.uB i (by omega) hi
            have oC := hTk.uC i (by omega) hi
            rw [hpt] at oA oB oC
            have rA := hTk.rA.cell hi
            have rB := hTk.rB.cell hi
            have rC : wr.cell? ⟨w.heap.size + 1 + 1, i, none⟩ = _ := hTk.rC.cell hi
            obtain ⟨qa, ca, ea⟩ := own_val oA
            obtain ⟨qb, cb, eb⟩ := own_val oB
            obtain ⟨qc, cc, ec⟩ := own_val oC
            rw [ea] at oA rA
            rw [eb] at oB rB
            rw [ec] at oC rC
            have ml1 : (manyL l i).length = (waysL q).length := by unfold manyL; rw [List.length_map]; exact congrArg List.length (congrArg waysL hpt)
            have rl1 : (roughL l i).length = (waysL q).length := by unfold roughL; rw [List.length_map]; exact congrArg List.length (congrArg waysL hpt)
            have sA := SlP.own oA (flatS_len _) (flatS_one _)
            have sB := SlP.own oB (by rw [ints_len, ml1]) (ints_one _)
            have sC := SlP.own oC (by rw [ints_len, rl1]) (ints_one _)
            have sO := SlP.own hown.out.row (flatS_len _) (flatS_one _)
            obtain ⟨ba, oa, rfl, hba, hca⟩ := sA.at_ hlenq
            obtain ⟨bm, om, rfl, hbm, hcm⟩ := sB.at_ hlenq
            obtain ⟨br, orr, rfl, hbr, hcr⟩ := sC.at_ hlenq
            have fa := sA.fit
            have fa2 := sA.max
            have fm := sB.fit
            have fm2 := sB.max
            have fr := sC.fit
            have fr2 := sC.max
            have fo := sO.fit
            have fo2 := sO.max
            have hm1 : (waysL q).length ≤ 42 := by
              have x : (waysL q).length ≤ pairsL.length := List.length_filter_le _ _
              have y : pairsL.length = 42 := by decide
              omega
            have GA := Lib.hid (show _ ∧ _ ∧ _ from ⟨rA, rB, rC⟩)
            have HA := Lib.hid hca
            have HM := Lib.hid hcm
            have HR := Lib.hid hcr
            have SO := Lib.hid sO
            have OK := Lib.hid (show ∀ s ∈ o, okS s from fun s hso => (best_sings hs).2 s (by rw [hbest.out]; exact List.mem_append_left _ hso))
            clear oA oB oC sA sB sC sO rA rB rC hca hcm hcr ea eb ec hTk
            generalize hwk : wr = wk at *
            clear hwk
            obtain ⟨F, hFd⟩ : ∃ F : Sy → Co, F = (fun b => addC (stepO o.getLast? b) (restC (l.drop (i + 1)) b)) := ⟨_, rfl⟩
            have HF := Lib.hid hFd
            clear hFd
            go_wp2_with fail
            go_loopw [16, 17, 18, 19] (fun s16 s17 s18 s19 wc => ∃ k : Nat, k ≤ (waysL q).length ∧ s19 = .int .i64 k ∧ ∃ bz mz rz : Int, s16 = .int .i64 bz ∧ s17 = .int .i64 mz ∧ s18 = .int .i64 rz ∧
              Hid ((k = 0 ∧ bz = -1 ∧ mz = 0 ∧ rz = 0) ∨ ∃ (x : Nat) (b : Sy), bz = x ∧ x < k ∧ (waysL q)[x]? = some b ∧ firstMin F ((waysL q).take k) = some b ∧ mz = (((F b).1 : Nat) : Int) ∧ rz = (((F b).2 : Nat) : Int)) ∧
              Hid (Below wk.heap.size wk wc)) (fun _ _ _ s19 _ => (waysL q).length - (intOf s19).toNat)
            case atStart => exact ⟨0, Nat.zero_le _, rfl, -1, 0, 0, rfl, rfl, rfl, Lib.hid (.inl ⟨rfl, rfl, rfl, rfl⟩), Lib.hid (w_refl wk)⟩
            case round =>
              obtain ⟨k, hk, rfl, bz, mz, rz, rfl, rfl, rfl, hst, hb⟩ := hrel
              have g1 := cell_later hb.out GA.out.1
              by_cases hkm : k < (waysL q).length
              · have hkm' : (k : Int) < (waysL q).length := by omega
                obtain ⟨b, hbw⟩ : ∃ b, (waysL q)[k]? = some b := ⟨(waysL q)[k], List.getElem?_eq_getElem hkm⟩
                have okb := Lib.hid (way_iff.1 (List.mem_of_getElem? hbw)).1
                have etk := Lib.hid (show (waysL q).take k ++ [b] = (waysL q).take (k + 1) by rw [List.take_add_one, hbw]; rfl)
                obtain ⟨em, er⟩ := many_at (l := l) (q := i) (j := k) (b := b) (by rw [hpt]; exact hbw)
                obtain ⟨eb1, eb2⟩ := flatS_at _ _ _ hbw
                have HW := Lib.hid hbw
                have h1 := HA.out _ _ eb1
                have h2 := HA.out _ _ eb2
                rw [← Nat.add_assoc] at h2
                have h3 := HM.out _ _ em
                have h4 := HR.out _ _ er
                have bd2 := rest_le (l.drop (i + 1)) b
                rw [List.length_drop] at bd2
                obtain ⟨r1, r2, hrs⟩ : ∃ r1 r2, restC (l.drop (i + 1)) b = (r1, r2) := ⟨_, _, rfl⟩
                rw [hrs] at bd2 h3 h4
                simp only at bd2 h3 h4
                have GB := Lib.hid (show _ ∧ _ from ⟨h1, h2⟩)
                have g2 := cell_later hb.out GA.out.2.1
                have g3 := cell_later hb.out GA.out.2.2
                have k3 := cell_later hb.out h3
                have k4 := cell_later hb.out h4
                have x5 : IntKind.i64.wrap ((k : Int) + 1) = (k : Int) + 1 := IntWalk.i64_in _ (by omega)
                clear h1 h2 h3 h4 em er eb1 eb2 hbw
                go_upto_region 30 with (fail)
                go_region
                clear g2 g3 k3 k4 g1
                by_cases hi0 : i = 0
                · as_aux_lemma =>
                    have ho0 : o = [] := List.length_eq_zero_iff.1 (by have := ho.out; omega)
                    have hneg0 : ¬ ((0 : Int) < i) := by omega
                    have hFF : F b = (r1, r2) := by
                      rw [HF.out, ho0]
                      show addC (stepO none b) (restC (l.drop (i + 1)) b) = _
                      rw [hrs]; simp [stepO, addC]
                    have hX := Lib.hid (show (((F b).1 : Nat) : Int) = r1 by rw [hFF])
                    have hY := Lib.hid (show (((F b).2 : Nat) : Int) = r2 by rw [hFF])
                    have FD := Lib.hid hb.out.drew
                    clear hFF ho0 hi0 hrs
                    go_upto_region 34 with (fail)
                    rcases hst.out with ⟨k0, rfl, rfl, rfl⟩ | ⟨x, b0, rfl, hx, hxw, hfm, hmz, hrz⟩
                    · have RL := Lib.hid (show (k + 1 = 0 ∧ (k : Int) = -1 ∧ (r1 : Int) = 0 ∧ (r2 : Int) = 0) ∨ ∃ (x : Nat) (b : Sy), (k : Int) = x ∧ x < k + 1 ∧ (waysL q)[x]? = some b ∧ firstMin F ((waysL q).take (k + 1)) = some b ∧ (r1 : Int) = (((F b).1 : Nat) : Int) ∧ (r2 : Int) = (((F b).2 : Nat) : Int) from
                        .inr ⟨k, b, rfl, by omega, HW.out, by rw [← etk.out, k0]; rfl, hX.out.symm, hY.out.symm⟩)
                      clear k0 hst etk hX hY
                      go_wp2_with fail
                      go_roundw
                      case rel => exact ⟨k + 1, by omega, by go_num, _, _, _, rfl, rfl, rfl, RL, FD⟩
                      case measure => simp [intOf]; omega
                    · have hneg : ¬ (x : Int) < 0 := by omega
                      have hsn := firstMin_snoc F b ((waysL q).take k)
                      rw [etk.out, hfm] at hsn
                      simp only at hsn
                      have hXo := hX.out
                      have hYo := hY.out
                      by_cases hlt : ltC (F b) (F b0)
                      · rw [if_pos hlt] at hsn
                        have RL := Lib.hid (show (k + 1 = 0 ∧ (k : Int) = -1 ∧ (r1 : Int) = 0 ∧ (r2 : Int) = 0) ∨ ∃ (x : Nat) (b : Sy), (k : Int) = x ∧ x < k + 1 ∧ (waysL q)[x]? = some b ∧ firstMin F ((waysL q).take (k + 1)) = some b ∧ (r1 : Int) = (((F b).1 : Nat) : Int) ∧ (r2 : Int) = (((F b).2 : Nat) : Int) from
                          .inr ⟨k, b, rfl, by omega, HW.out, hsn, hX.out.symm, hY.out.symm⟩)
                        unfold ltC at hlt
                        have two : (r1 : Int) < mz ∨ (¬ (r1 : Int) < mz ∧ ((r1 : Int) == mz) = true ∧ (r2 : Int) < rz) := by
                          rcases hlt with h | ⟨h, h'⟩
                          · exact .inl (by omega)
                          · exact .inr ⟨by omega, by simp; omega, by omega⟩
                        clear hst etk hX hY hXo hYo hsn hfm hmz hrz hlt hx hxw
                        rcases two with z1 | ⟨z1, z2, z3⟩
                        · go_wp2_with fail
                          go_roundw
                          case rel => exact ⟨k + 1, by omega, by go_num, _, _, _, rfl, rfl, rfl, RL, FD⟩
                          case measure => simp [intOf]; omega
                        · go_wp2_with fail
                          go_roundw
                          case rel => exact ⟨k + 1, by omega, by go_num, _, _, _, rfl, rfl, rfl, RL, FD⟩
                          case measure => simp [intOf]; omega
                      · rw [if_neg hlt] at hsn
                        have RL := Lib.hid (show (k + 1 = 0 ∧ (x : Int) = -1 ∧ mz = 0 ∧ rz = 0) ∨ ∃ (x' : Nat) (b : Sy), (x : Int) = x' ∧ x' < k + 1 ∧ (waysL q)[x']? = some b ∧ firstMin F ((waysL q).take (k + 1)) = some b ∧ mz = (((F b).1 : Nat) : Int) ∧ rz = (((F b).2 : Nat) : Int) from
                          .inr ⟨x, b0, rfl, by omega, hxw, hsn, hmz, hrz⟩)
                        unfold ltC at hlt
                        have two : (¬ (r1 : Int) < mz ∧ ((r1 : Int) == mz) = true ∧ ¬ (r2 : Int) < rz) ∨ (¬ (r1 : Int) < mz ∧ ((r1 : Int) == mz) = false) := by
                          by_cases h : (r1 : Int) = mz
                          · exact .inl ⟨by omega, by simp [h], by omega⟩
                          · exact .inr ⟨by omega, by simp [h]⟩
                        clear hst etk hX hY hXo hYo hsn hfm hmz hrz hlt hx hxw
                        rcases two with ⟨z1, z2, z3⟩ | ⟨z1, z2⟩
                        · go_wp2_with fail
                          go_roundw
                          case rel => exact ⟨k + 1, by omega, by go_num, _, _, _, rfl, rfl, rfl, RL, FD⟩
                          case measure => simp [intOf]; omega
                        · go_wp2_with fail
                          go_roundw
                          case rel => exact ⟨k + 1, by omega, by go_num, _, _, _, rfl, rfl, rfl, RL, FD⟩
                          case measure => simp [intOf]; omega
                · as_aux_lemma =>
                    obtain ⟨i', hi1⟩ : ∃ i', i = i' + 1 := ⟨i - 1, by omega⟩
                    obtain ⟨a, ha⟩ : ∃ a, o[i']? = some a := ⟨o[i']'(by have := ho.out; omega), List.getElem?_eq_getElem (by have := ho.out; omega)⟩
                    have hlast : o.getLast? = some a := by rw [List.getLast?_eq_getElem?, ho.out, hi1]; exact ha
                    have CC := Lib.hid (fun W => CO.out a (OK.out a (List.mem_of_getElem? ha)) b okb.out W)
                    obtain ⟨bo, oo, hqo, hbo, hco⟩ := SO.out.at_ (by have := ho.out; omega)
                    subst hqo
                    obtain ⟨ec1, ec2⟩ := flatS_at _ _ _ ha
                    have h5 := hco _ _ ec1
                    have h6 := hco _ _ ec2
                    rw [← Nat.add_assoc] at h6
                    have bd1 := cost_le a b
                    obtain ⟨c1, c2, hcs⟩ : ∃ c1 c2, costS a b = (c1, c2) := ⟨_, _, rfl⟩
                    have hFF : F b = (c1 + r1, c2 + r2) := by
                      rw [HF.out, hlast]
                      show addC (costS a b) (restC (l.drop (i + 1)) b) = _
                      rw [hcs, hrs]; rfl
                    rw [hcs] at CC bd1
                    simp only at bd1
                    have hX := Lib.hid (show (((F b).1 : Nat) : Int) = (r1 : Int) + c1 by rw [hFF]; simp only; omega)
                    have hY := Lib.hid (show (((F b).2 : Nat) : Int) = (r2 : Int) + c2 by rw [hFF]; simp only; omega)
                    have GC := Lib.hid (show _ ∧ _ from ⟨h5, h6⟩)
                    have FB := Lib.hid hb.out.drew.drew
                    have x3 : IntKind.i64.wrap ((r1 : Int) + c1) = (r1 : Int) + c1 := IntWalk.i64_in _ (by omega)
                    have x4 : IntKind.i64.wrap ((r2 : Int) + c2) = (r2 : Int) + c2 := IntWalk.i64_in _ (by omega)
                    have x6 : IntKind.i64.wrap ((i : Int) - 1) = (i' : Int) := by rw [IntWalk.i64_in _ (by omega)]; omega
                    have hpos0 : (0 : Int) < i := by omega
                    have hi1' : (i' : Int) < o.length := by have := ho.out; omega
                    have hi2' : (0 : Int) ≤ i' := by omega
                    clear h5 h6 ec1 ec2 hco hFF hcs hrs hlast ha hi1 hi0 bd1
                    go_upto_region 32 with (fail)
                    go_region_held3 (fun W => W.cell? ⟨w.heap.size, i, none⟩ = some (.slice (some ⟨ba, oa, none⟩) (waysL q).length ca) ∧ W.cell? ⟨ba, oa + k * 2, none⟩ = some (.int .i64 b.1) ∧ W.cell? ⟨ba, oa + k * 2 + 1, none⟩ = some (.int .i64 b.2) ∧
                        W.cell? ⟨bo, oo + i' * 2, none⟩ = some (.int .i64 a.1) ∧ W.cell? ⟨bo, oo + i' * 2 + 1, none⟩ = some (.int .i64 a.2))
                      (first
                        | exact ⟨cell_later FB.out GA.out.1, cell_later FB.out GB.out.1, cell_later FB.out GB.out.2, cell_later FB.out GC.out.1, cell_later FB.out GC.out.2⟩
                        | fail)
                      (first
                        | (go_at_call 71; refine (CC.out _).mono ?_; rintro e wn ⟨rfl, hb2⟩; replace FB := Lib.hid (w_below FB.out hb2); clear hb2)
                        | fail)
                    have FD := Lib.hid FB.out
                    clear FB
                    go_upto_region 34 with (fail)
                    rcases hst.out with ⟨k0, rfl, rfl, rfl⟩ | ⟨x, b0, rfl, hx, hxw, hfm, hmz, hrz⟩
                    · have RL := Lib.hid (show (k + 1 = 0 ∧ (k : Int) = -1 ∧ ((r1 : Int) + c1) = 0 ∧ ((r2 : Int) + c2) = 0) ∨ ∃ (x : Nat) (b : Sy), (k : Int) = x ∧ x < k + 1 ∧ (waysL q)[x]? = some b ∧ firstMin F ((waysL q).take (k + 1)) = some b ∧ ((r1 : Int) + c1) = (((F b).1 : Nat) : Int) ∧ ((r2 : Int) + c2) = (((F b).2 : Nat) : Int) from
                        .inr ⟨k, b, rfl, by omega, HW.out, by rw [← etk.out, k0]; rfl, hX.out.symm, hY.out.symm⟩)
                      clear k0 hst etk hX hY
                      go_wp2_with fail
                      go_roundw
                      case rel => exact ⟨k + 1, by omega, by go_num, _, _, _, rfl, rfl, rfl, RL, FD⟩
                      case measure => simp [intOf]; omega
                    · have hneg : ¬ (x : Int) < 0 := by omega
                      have hsn := firstMin_snoc F b ((waysL q).take k)
                      rw [etk.out, hfm] at hsn
                      simp only at hsn
                      have hXo := hX.out
                      have hYo := hY.out
                      by_cases hlt : ltC (F b) (F b0)
                      · rw [if_pos hlt] at hsn
                        have RL := Lib.hid (show (k + 1 = 0 ∧ (k : Int) = -1 ∧ ((r1 : Int) + c1) = 0 ∧ ((r2 : Int) + c2) = 0) ∨ ∃ (x : Nat) (b : Sy), (k : Int) = x ∧ x < k + 1 ∧ (waysL q)[x]? = some b ∧ firstMin F ((waysL q).take (k + 1)) = some b ∧ ((r1 : Int) + c1) = (((F b).1 : Nat) : Int) ∧ ((r2 : Int) + c2) = (((F b).2 : Nat) : Int) from
                          .inr ⟨k, b, rfl, by omega, HW.out, hsn, hX.out.symm, hY.out.symm⟩)
                        unfold ltC at hlt
                        have two : ((r1 : Int) + c1) < mz ∨ (¬ ((r1 : Int) + c1) < mz ∧ (((r1 : Int) + c1) == mz) = true ∧ ((r2 : Int) + c2) < rz) := by
                          rcases hlt with h | ⟨h, h'⟩
                          · exact .inl (by omega)
                          · exact .inr ⟨by omega, by simp; omega, by omega⟩
                        clear hst etk hX hY hXo hYo hsn hfm hmz hrz hlt hx hxw
                        rcases two with z1 | ⟨z1, z2, z3⟩
                        · go_wp2_with fail
                          go_roundw
                          case rel => exact ⟨k + 1, by omega, by go_num, _, _, _, rfl, rfl, rfl, RL, FD⟩
                          case measure => simp [intOf]; omega
                        · go_wp2_with fail
                          go_roundw
                          case rel => exact ⟨k + 1, by omega, by go_num, _, _, _, rfl, rfl, rfl, RL, FD⟩
                          case measure => simp [intOf]; omega
                      · rw [if_neg hlt] at hsn
                        have RL := Lib.hid (show (k + 1 = 0 ∧ (x : Int) = -1 ∧ mz = 0 ∧ rz = 0) ∨ ∃ (x' : Nat) (b : Sy), (x : Int) = x' ∧ x' < k + 1 ∧ (waysL q)[x']? = some b ∧ firstMin F ((waysL q).take (k + 1)) = some b ∧ mz = (((F b).1 : Nat) : Int) ∧ rz = (((F b).2 : Nat) : Int) from
                          .inr ⟨x, b0, rfl, by omega, hxw, hsn, hmz, hrz⟩)
                        unfold ltC at hlt
                        have two : (¬ ((r1 : Int) + c1) < mz ∧ (((r1 : Int) + c1) == mz) = true ∧ ¬ ((r2 : Int) + c2) < rz) ∨ (¬ ((r1 : Int) + c1) < mz ∧ (((r1 : Int) + c1) == mz) = false) := by
                          by_cases h : ((r1 : Int) + c1) = mz
                          · exact .inl ⟨by omega, by simp [h], by omega⟩
                          · exact .inr ⟨by omega, by simp [h]⟩
                        clear hst etk hX hY hXo hYo hsn hfm hmz hrz hlt hx hxw
                        rcases two with ⟨z1, z2, z3⟩ | ⟨z1, z2⟩
                        · go_wp2_with fail
                          go_roundw
                          case rel => exact ⟨k + 1, by omega, by go_num, _, _, _, rfl, rfl, rfl, RL, FD⟩
                          case measure => simp [intOf]; omega
                        · go_wp2_with fail
                          go_roundw
                          case rel => exact ⟨k + 1, by omega, by go_num, _, _, _, rfl, rfl, rfl, RL, FD⟩
                          case measure => simp [intOf]; omega
              · obtain rfl : k = (waysL q).length := by omega
                have ht : (waysL q).take (waysL q).length = waysL q := List.take_length
                obtain ⟨x, b, hbz, hx, hxw, hfm, _, _⟩ := hst.out.resolve_left (fun y => by omega)
                rw [ht] at hfm
                subst hbz
                have hxm : (x : Int) < (waysL q).length := by omega
                obtain ⟨eb1, eb2⟩ := flatS_at _ _ _ hxw
                have h1 := cell_later hb.out (HA.out _ _ eb1)
                have h2 := HA.out _ _ eb2
                rw [← Nat.add_assoc] at h2
                have h2' := cell_later hb.out h2
                have HO := Lib.hid (hown.out.later (w_alloc hb.out (.cells #[.int .i64 b.1, .int .i64 b.2] 25)))
                obtain ⟨o2, ho2⟩ : ∃ o2, o ++ [b] = o2 := ⟨_, rfl⟩
                have hB2 := Lib.hid (show bestL l = o2 ++ bestO o2.getLast? (l.drop (i + 1)) by
                  rw [hbest.out, hdrop.out, best_step (b := b) (by rw [← HF.out]; exact hfm), ← ho2]
                  simp)
                have hol : o.length ≤ 100000 := by have := ho.out; omega
                have hL2 := Lib.hid (show o2.length = o.length + 1 by rw [← ho2]; simp)
                have hE2 := Lib.hid (show flatS o2 = flatS o ++ flatS [b] by rw [← ho2, flatS_app])
                clear hst ht h2 eb1 eb2 hfm hx hxw ho2
                go_wp2_with (at_builtin; refine wpList_append_own_at _ rfl _ _ 29 rfl wt.heap.size 25 m0 (.agg #[.int .i64 0, .int .i64 0]) 2 16 Tryd.underlying29 hm0 hv0 hv1 hv2 rfl (by decide) _ o.length (flatS o) rfl HO.out.row ⟨wr.heap.size, 0, none⟩ 1 1 (flatS [b]) rfl rfl (lit_new _ _ _) (flatS_one _) (by unfold maxLen; omega) (by omega) HO.out.bel.size ?_)
                intro v' w3 hownv hgrow _ _
                have HN := Lib.hid (show OwnL wt w3 25 2 v' o2.length (flatS o2) by
                  rw [hL2.out, hE2.out]
                  exact hown.out.app (w_alloc hb.out _) hownv hgrow)
                obtain ⟨q2, c2, hv⟩ := HN.out.val
                subst hv
                clear hownv hgrow HO g1 h1 h2'
                go_wp2_with fail
                go_roundw
                case rel => exact ⟨i + 1, by omega, by go_num, o2, by rw [hL2.out, ho.out], hB2, ⟨q2, c2, rfl⟩, HN⟩
                case measure => simp [intOf]; omega
          · obtain rfl : i = l.length := by omega
            have hfin := Lib.hid (show bestL l = o by
              rw [hbest.out, List.drop_eq_nil_of_le (Nat.le_refl _)]
              simp [bestO])
            have sO := SlP.own hown.out.row (flatS_len _) (flatS_one _)
            have MV := Lib.hid (rmoves_any qo co o wr sO)
            have HB := Lib.hid (show Below w.heap.size w wr from w_below hT.out.bel hown.out.bel)
            have SV := Lib.hid (show SylV wr (.slice qo o.length co) o from ⟨qo, co, rfl, sO⟩)
            clear sO
            go_wp2_with fail
            refine MV.out.mono ?_
            rintro e w9 ⟨rfl, hb9⟩
            have HB9 := Lib.hid (w_below HB.out hb9)
            have SV9 := Lib.hid (SV.out.later hb9)
            clear hb9 HB SV MV
            go_wp2_with fail
            go_ret2
            exact ⟨_, by rw [hfin.out]; rfl, by rw [hfin.out]; exact SV9.out, HB9.out⟩
      · obtain ⟨i, rfl⟩ : ∃ i, c = i + 1 := ⟨c - 1, by omega⟩
        have ei : (((i + 1 : Nat) : Int) - 1) = i := by omega
        rw [ei]
        have hi : i < l.length := by omega
        have hi' : (i : Int) < l.length := by omega
        obtain ⟨q, hq⟩ : ∃ q, l[i]? = some q := ⟨l[i], List.getElem?_eq_getElem hi⟩
        obtain ⟨bl, off, hp, hbl, a0, a1, a2⟩ := (HS.out.later hT.out.bel).pit hq
        subst hp
        have C := Lib.hid (fun W => MW.out q W)
        have hpt : ptL l i = q := by unfold ptL; rw [List.getD, hq]; rfl
        clear hq
        go_wp2_with fail
        refine (C.out _).mono ?_
        rintro e w1 ⟨v, rfl, hv, hb⟩
        obtain ⟨qv, cv, rfl⟩ := own_val hv
        have hT1 := Lib.hid (hT.out.later hb)
        have hlow : w.heap.size + 3 ≤ wr.heap.size := by have := hT.out.rC.lt; omega
        have hT2 := Lib.hid (hT1.out.putA (v := .slice qv (waysL q).length cv) (by rw [hpt]; exact own_lift hv hlow))
        have g0 := hT1.out.rA.cell hi
        have g1 := hT1.out.rA.frozen i
        have HV := Lib.hid (show SylV (w1.setCell ⟨w.heap.size, i, none⟩ (.slice qv (waysL q).length cv)) (.slice qv (waysL q).length cv) (waysL q) from by
          have := hT2.out.uA i (Nat.le_refl _) hi
          rw [hpt, if_pos rfl] at this
          exact SylV.of_own this)
        clear hv hb a0 a1 a2 C hT
        go_wp2_with fail
        clear g0 g1 hT1
        generalize w1.setCell ⟨w.heap.size, i, none⟩ (.slice qv (waysL q).length cv) = wi at *
        have hm : (waysL q).length ≤ 42 := by
          have a : (waysL q).length ≤ pairsL.length := List.length_filter_le _ _
          have c : pairsL.length = 42 := by decide
          omega
        have ml : (manyL l i).length = (waysL q).length := by unfold manyL; rw [List.length_map]; exact congrArg List.length (congrArg waysL hpt)
        have rl : (roughL l i).length = (waysL q).length := by unfold roughL; rw [List.length_map]; exact congrArg List.length (congrArg waysL hpt)
        go_loopw [8] (fun s8 wk => ∃ k : Nat, k ≤ (waysL q).length ∧ s8 = .int .i64 k ∧ ∃ vB vC, Hid (Zz w wi wk l.length i fB fC vB vC vB vC k k (ints ((manyL l i).take k)) (ints ((roughL l i).take k)))) (fun s8 _ => (waysL q).length - (intOf s8).toNat)
        case atStart => exact ⟨0, Nat.zero_le _, rfl, _, _, Lib.hid (Zz.start hT2.out)⟩
        case round =>
          obtain ⟨k, hk, rfl, vB, vC, hZ⟩ := hrel
          have gA : wr.cell? ⟨w.heap.size, i, none⟩ = some (.slice qv (waysL q).length cv) := by
            have := (hZ.out.keepA hT2.out.rA).cell hi
            rwa [if_pos rfl] at this
          by_cases hkm : k < (waysL q).length
          · have hkm' : (k : Int) < (waysL q).length := by omega
            obtain ⟨a, ha⟩ : ∃ a, (waysL q)[k]? = some a := ⟨(waysL q)[k], List.getElem?_eq_getElem hkm⟩
            go_upto_block 4 with (fail)
            generalize hwk : wr = wk at *
            clear hwk
            go_cut [9, 10] from 51 to 154 (fun s9 s10 wc => s9 = .int .i64 ((restC (l.drop (i + 1)) a).1 : Int) ∧ s10 = .int .i64 ((restC (l.drop (i + 1)) a).2 : Int) ∧ Hid (Below wk.heap.size wk wc))
            case first =>
              by_cases hlast : i + 1 < l.length
              · obtain ⟨q1, hq1⟩ : ∃ q1, l[i + 1]? = some q1 := ⟨l[i + 1], List.getElem?_eq_getElem hlast⟩
                have hpt1 : ptL l (i + 1) = q1 := by unfold ptL; rw [List.getD, hq1]; rfl
                have hne1 : waysL q1 ≠ [] := hs q1 (List.mem_of_getElem? hq1)
                have hlen1 : 0 < (waysL q1).length := List.length_pos_iff.2 hne1
                have hRN := Lib.hid (rest_next hq1 a)
                have oA := hT2.out.uA (i + 1) (by omega) hlast
                have oB := hT2.out.uB (i + 1) (Nat.le_refl _) hlast
                have oC := hT2.out.uC (i + 1) (Nat.le_refl _) hlast
                rw [if_neg (by omega), hpt1] at oA
                rw [hpt1] at oB oC
                have rA := (hZ.out.keepA hT2.out.rA).cell hlast
                rw [if_neg (by omega)] at rA
                have rB := hZ.out.rB.cell hlast
                have rC : wk.cell? ⟨w.heap.size + 1 + 1, i + 1, none⟩ = _ := hZ.out.rC.cell hlast
                rw [if_neg (by omega)] at rB rC
                replace oA := hZ.out.keepO oA
                replace oB := hZ.out.keepO oB
                replace oC := hZ.out.keepO oC
                obtain ⟨qa, ca, ea⟩ := own_val oA
                obtain ⟨qb, cb, eb⟩ := own_val oB
                obtain ⟨qc, cc, ec⟩ := own_val oC
                rw [ea] at oA rA
                rw [eb] at oB rB
                rw [ec] at oC rC
                have ml1 : (manyL l (i + 1)).length = (waysL q1).length := by unfold manyL; rw [List.length_map]; exact congrArg List.length (congrArg waysL hpt1)
                have rl1 : (roughL l (i + 1)).length = (waysL q1).length := by unfold roughL; rw [List.length_map]; exact congrArg List.length (congrArg waysL hpt1)
                have sA := SlP.own oA (flatS_len _) (flatS_one _)
                have sB := SlP.own oB (by rw [ints_len, ml1]) (ints_one _)
                have sC := SlP.own oC (by rw [ints_len, rl1]) (ints_one _)
                have oV := hT2.out.uA i (Nat.le_refl _) hi
                rw [if_pos rfl, hpt] at oV
                have sV := SlP.own (hZ.out.keepO oV) (flatS_len _) (flatS_one _)
                obtain ⟨ba, oa, rfl, hba, hca⟩ := sV.at_ (by omega)
                obtain ⟨bb, ob, rfl, hbb, hcb⟩ := sA.at_ hlen1
                obtain ⟨bm, om, rfl, hbm, hcm⟩ := sB.at_ hlen1
                obtain ⟨br, orr, rfl, hbr, hcr⟩ := sC.at_ hlen1
                have fa := sV.fit
                have fa2 := sV.max
                have fb := sA.fit
                have fb2 := sA.max
                have fm := sB.fit
                have fm2 := sB.max
                have fr := sC.fit
                have fr2 := sC.max
                have hm1 : (waysL q1).length ≤ 42 := by
                  have x : (waysL q1).length ≤ pairsL.length := List.length_filter_le _ _
                  have y : pairsL.length = 42 := by decide
                  omega
                have oka := Lib.hid ((way_iff.1 (List.mem_of_getElem? ha)).1)
                obtain ⟨ea1, ea2⟩ := flatS_at _ _ _ ha
                have ga1 := hca _ _ ea1
                have ga2 := hca _ _ ea2
                rw [← Nat.add_assoc] at ga2
                have GA := Lib.hid (show _ ∧ _ ∧ _ ∧ _ ∧ _ ∧ _ from ⟨gA, rA, rB, rC, ga1, ga2⟩)
                have HB := Lib.hid hcb
                have HM := Lib.hid hcm
                have HR := Lib.hid hcr
                clear oA oB oC sA sB sC sV oV rA rB rC hca hcb hcm hcr ea1 ea2 ga1 ga2 ea eb ec gA ha hZ hT2 HV MW HS
                have x2 : IntKind.i64.wrap ((i : Int) + 1) = (i : Int) + 1 := IntWalk.i64_in _ (by omega)
                have n0 : (0 : Int) ≤ (i : Int) + 1 := by omega
                have hlast' : (i : Int) + 1 < l.length := by omega
                go_wp2_with fail
                go_loopw [9, 10, 11] (fun s9 s10 s11 wc => ∃ j : Nat, j ≤ (waysL q1).length ∧ s11 = .int .i64 j ∧ s9 = .int .i64 ((minC (fun b => addC (costS a b) (restC (l.drop (i + 1 + 1)) b)) ((waysL q1).take j)).1 : Int) ∧
                  s10 = .int .i64 ((minC (fun b => addC (costS a b) (restC (l.drop (i + 1 + 1)) b)) ((waysL q1).take j)).2 : Int) ∧ Hid (Below wk.heap.size wk wc)) (fun _ _ s11 _ => (waysL q1).length - (intOf s11).toNat)
                case atStart => exact ⟨0, Nat.zero_le _, rfl, rfl, rfl, Lib.hid (w_refl wk)⟩
                case round =>
                  obtain ⟨j, hj, rfl, rfl, rfl, hb⟩ := hrel
                  have g1 := cell_later hb.out GA.out.1
                  have g2 := cell_later hb.out GA.out.2.1
                  have g3 := cell_later hb.out GA.out.2.2.1
                  have g4 := cell_later hb.out GA.out.2.2.2.1
                  have g5 := cell_later hb.out GA.out.2.2.2.2.1
                  have g6 := cell_later hb.out GA.out.2.2.2.2.2
                  by_cases hjm : j < (waysL q1).length
                  · have hjm' : (j : Int) < (waysL q1).length := by omega
                    obtain ⟨b, hbw⟩ : ∃ b, (waysL q1)[j]? = some b := ⟨(waysL q1)[j], List.getElem?_eq_getElem hjm⟩
                    have okb := (way_iff.1 (List.mem_of_getElem? hbw)).1
                    have CC := Lib.hid (fun W => CO.out a oka.out b okb W)
                    obtain ⟨eb1, eb2⟩ := flatS_at _ _ _ hbw
                    obtain ⟨em, er⟩ := many_at (l := l) (q := i + 1) (j := j) (b := b) (by rw [hpt1]; exact hbw)
                    have h1 := HB.out _ _ eb1
                    have h2 := HB.out _ _ eb2
                    have h3 := HM.out _ _ em
                    have h4 := HR.out _ _ er
                    rw [← Nat.add_assoc] at h2
                    have hnext := minC_snoc (fun b => addC (costS a b) (restC (l.drop (i + 1 + 1)) b)) b ((waysL q1).take j)
                    have etk : (waysL q1).take j ++ [b] = (waysL q1).take (j + 1) := by rw [List.take_add_one, hbw]; rfl
                    rw [etk] at hnext
                    have hz0 : (waysL q1).take j = [] ↔ j = 0 := by
                      constructor
                      · intro x
                        have := congrArg List.length x
                        rw [List.length_take, List.length_nil] at this; omega
                      · intro x; subst x; rfl
                    have bd1 := cost_le a b
                    have bd2 := rest_le (l.drop (i + 1 + 1)) b
                    rw [List.length_drop] at bd2
                    obtain ⟨c1, c2, hcs⟩ : ∃ c1 c2, costS a b = (c1, c2) := ⟨_, _, rfl⟩
                    obtain ⟨r1, r2, hrs⟩ : ∃ r1 r2, restC (l.drop (i + 1 + 1)) b = (r1, r2) := ⟨_, _, rfl⟩
                    rw [hcs] at CC bd1
                    rw [hrs] at bd2 h3 h4
                    simp only [hcs, hrs] at hnext
                    simp only at bd1 bd2 h3 h4
                    obtain ⟨mn, rn, hmn⟩ : ∃ mn rn, minC (fun b => addC (costS a b) (restC (l.drop (i + 1 + 1)) b)) ((waysL q1).take j) = (mn, rn) := ⟨_, _, rfl⟩
                    have GB := Lib.hid (show _ ∧ _ ∧ _ ∧ _ from ⟨h1, h2, h3, h4⟩)
                    have FB := Lib.hid (hb.out.drew)
                    rw [hmn] at hnext ⊢
                    have x3 : IntKind.i64.wrap ((c1 : Int) + r1) = (c1 : Int) + r1 := IntWalk.i64_in _ (by omega)
                    have x4 : IntKind.i64.wrap ((c2 : Int) + r2) = (c2 : Int) + r2 := IntWalk.i64_in _ (by omega)
                    have x5 : IntKind.i64.wrap ((j : Int) + 1) = (j : Int) + 1 := IntWalk.i64_in _ (by omega)
                    have HN := Lib.hid hnext
                    have HZ := Lib.hid hz0
                    clear h1 h2 h3 h4 eb1 eb2 em er hnext etk bd1 bd2 hcs hrs hz0 hbw okb
                    go_upto_region 17 with (fail)
                    clear g1 g2 g3 g4 g5 g6
                    go_region_held3 (fun W => W.cell? ⟨w.heap.size, i, none⟩ = some (.slice (some ⟨ba, oa, none⟩) (waysL q).length cv) ∧ W.cell? ⟨w.heap.size, i + 1, none⟩ = some (.slice (some ⟨bb, ob, none⟩) (waysL q1).length ca) ∧
                        W.cell? ⟨ba, oa + k * 2, none⟩ = some (.int .i64 a.1) ∧ W.cell? ⟨ba, oa + k * 2 + 1, none⟩ = some (.int .i64 a.2) ∧ W.cell? ⟨bb, ob + j * 2, none⟩ = some (.int .i64 b.1) ∧ W.cell? ⟨bb, ob + j * 2 + 1, none⟩ = some (.int .i64 b.2))
                      (first
                        | exact ⟨cell_later FB.out GA.out.1, cell_later FB.out GA.out.2.1, cell_later FB.out GA.out.2.2.2.2.1, cell_later FB.out GA.out.2.2.2.2.2, cell_later FB.out GB.out.1, cell_later FB.out GB.out.2.1⟩
                        | fail)
                      (first
                        | (go_at_call 71; refine (CC.out _).mono ?_; rintro e wn ⟨rfl, hb2⟩; replace FB := Lib.hid (w_below FB.out hb2); clear hb2)
                        | fail)
                    have g3 := cell_later FB.out GA.out.2.2.1
                    have g4 := cell_later FB.out GA.out.2.2.2.1
                    have k3 := cell_later FB.out GB.out.2.2.1
                    have k4 := cell_later FB.out GB.out.2.2.2
                    go_upto_region 18 with (fail)
                    go_region
                    have FD := Lib.hid FB.out.drew
                    clear g3 g4 k3 k4 FB
                    have five : ((j : Int) == 0) = true ∧ j = 0 ∨ (((j : Int) == 0) = false ∧ j ≠ 0 ∧ (c1 : Int) + r1 < mn) ∨ (((j : Int) == 0) = false ∧ j ≠ 0 ∧ ¬ (c1 : Int) + r1 < mn ∧ (((c1 : Int) + r1 == mn) = true) ∧ (c1 : Int) + r1 = mn ∧ (c2 : Int) + r2 < rn) ∨
                        (((j : Int) == 0) = false ∧ j ≠ 0 ∧ ¬ (c1 : Int) + r1 < mn ∧ (((c1 : Int) + r1 == mn) = true) ∧ (c1 : Int) + r1 = mn ∧ ¬ (c2 : Int) + r2 < rn) ∨ (((j : Int) == 0) = false ∧ j ≠ 0 ∧ ¬ (c1 : Int) + r1 < mn ∧ (((c1 : Int) + r1 == mn) = false) ∧ (c1 : Int) + r1 ≠ mn) := by
                      by_cases z1 : j = 0
                      · exact .inl ⟨by simp [z1], z1⟩
                      · have z1' : ((j : Int) == 0) = false := by simp; omega
                        by_cases z2 : (c1 : Int) + r1 < mn
                        · exact .inr (.inl ⟨z1', z1, z2⟩)
                        · by_cases z3 : (c1 : Int) + r1 = mn
                          · have z3' : ((c1 : Int) + r1 == mn) = true := by simp [z3]
                            by_cases z4 : (c2 : Int) + r2 < rn
                            · exact .inr (.inr (.inl ⟨z1', z1, z2, z3', z3, z4⟩))
                            · exact .inr (.inr (.inr (.inl ⟨z1', z1, z2, z3', z3, z4⟩)))
                          · exact .inr (.inr (.inr (.inr ⟨z1', z1, z2, by simp [z3], z3⟩)))
                    rcases five with ⟨z0, z1⟩ | ⟨z0, z1, z2⟩ | ⟨z0, z1, z2, z3, z4, z5⟩ | ⟨z0, z1, z2, z3, z4, z5⟩ | ⟨z0, z1, z2, z3, z4⟩
                    · have hv := HN.out
                      rw [if_pos (.inl (HZ.out.2 z1))] at hv
                      have R1 := Lib.hid (show (((minC (fun b => addC (costS a b) (restC (l.drop (i + 1 + 1)) b)) ((waysL q1).take (j + 1))).1 : Nat) : Int) = (c1 : Int) + r1 by rw [hv]; exact Int.natCast_add _ _)
                      have R2 := Lib.hid (show (((minC (fun b => addC (costS a b) (restC (l.drop (i + 1 + 1)) b)) ((waysL q1).take (j + 1))).2 : Nat) : Int) = (c2 : Int) + r2 by rw [hv]; exact Int.natCast_add _ _)
                      clear hv HN HZ
                      clear z1
                      go_wp2_with fail
                      go_roundw
                      case rel => exact ⟨j + 1, by omega, by go_num, by rw [R1.out], by rw [R2.out], FD⟩
                      case measure => simp [intOf]; omega
                    · have hv := HN.out
                      rw [if_pos (.inr (by unfold ltC addC; simp only; omega))] at hv
                      have R1 := Lib.hid (show (((minC (fun b => addC (costS a b) (restC (l.drop (i + 1 + 1)) b)) ((waysL q1).take (j + 1))).1 : Nat) : Int) = (c1 : Int) + r1 by rw [hv]; exact Int.natCast_add _ _)
                      have R2 := Lib.hid (show (((minC (fun b => addC (costS a b) (restC (l.drop (i + 1 + 1)) b)) ((waysL q1).take (j + 1))).2 : Nat) : Int) = (c2 : Int) + r2 by rw [hv]; exact Int.natCast_add _ _)
                      clear hv HN HZ
                      go_wp2_with fail
                      go_roundw
                      case rel => exact ⟨j + 1, by omega, by go_num, by rw [R1.out], by rw [R2.out], FD⟩
                      case measure => simp [intOf]; omega
                    · have hv := HN.out
                      rw [if_pos (.inr (by unfold ltC addC; simp only; omega))] at hv
                      have R1 := Lib.hid (show (((minC (fun b => addC (costS a b) (restC (l.drop (i + 1 + 1)) b)) ((waysL q1).take (j + 1))).1 : Nat) : Int) = (c1 : Int) + r1 by rw [hv]; exact Int.natCast_add _ _)
                      have R2 := Lib.hid (show (((minC (fun b => addC (costS a b) (restC (l.drop (i + 1 + 1)) b)) ((waysL q1).take (j + 1))).2 : Nat) : Int) = (c2 : Int) + r2 by rw [hv]; exact Int.natCast_add _ _)
                      clear hv HN HZ
                      clear z4
                      go_wp2_with fail
                      go_roundw
                      case rel => exact ⟨j + 1, by omega, by go_num, by rw [R1.out], by rw [R2.out], FD⟩
                      case measure => simp [intOf]; omega
                    · have hv := HN.out
                      rw [if_neg (by rintro (x | x); exact z1 (HZ.out.1 x); unfold ltC addC at x; simp only at x; omega)] at hv
                      have R1 := Lib.hid (show (((minC (fun b => addC (costS a b) (restC (l.drop (i + 1 + 1)) b)) ((waysL q1).take (j + 1))).1 : Nat) : Int) = mn by rw [hv])
                      have R2 := Lib.hid (show (((minC (fun b => addC (costS a b) (restC (l.drop (i + 1 + 1)) b)) ((waysL q1).take (j + 1))).2 : Nat) : Int) = rn by rw [hv])
                      clear hv HN HZ
                      clear z4
                      go_wp2_with fail
                      go_roundw
                      case rel => exact ⟨j + 1, by omega, by go_num, by rw [R1.out], by rw [R2.out], FD⟩
                      case measure => simp [intOf]; omega
                    · have hv := HN.out
                      rw [if_neg (by rintro (x | x); exact z1 (HZ.out.1 x); unfold ltC addC at x; simp only at x; omega)] at hv
                      have R1 := Lib.hid (show (((minC (fun b => addC (costS a b) (restC (l.drop (i + 1 + 1)) b)) ((waysL q1).take (j + 1))).1 : Nat) : Int) = mn by rw [hv])
                      have R2 := Lib.hid (show (((minC (fun b => addC (costS a b) (restC (l.drop (i + 1 + 1)) b)) ((waysL q1).take (j + 1))).2 : Nat) : Int) = rn by rw [hv])
                      clear hv HN HZ
                      go_wp2_with fail
                      go_roundw
                      case rel => exact ⟨j + 1, by omega, by go_num, by rw [R1.out], by rw [R2.out], FD⟩
                      case measure => simp [intOf]; omega
                  · obtain rfl : j = (waysL q1).length := by omega
                    have ht := Lib.hid (show (waysL q1).take (waysL q1).length = waysL q1 from List.take_length)
                    go_wp2_with fail
                    go_meet
                    exact ⟨by rw [hRN.out, ht.out], by rw [hRN.out, ht.out], hb⟩
              · have hd : l.drop (i + 1) = [] := List.drop_eq_nil_of_le (by omega)
                have hlast' : ¬ ((i : Int) + 1 < l.length) := by omega
                have x2 : IntKind.i64.wrap ((i : Int) + 1) = (i : Int) + 1 := IntWalk.i64_in _ (by omega)
                go_wp2_with fail
                go_loopw [9, 10, 11] (fun s9 s10 s11 wc => s9 = .int .i64 0 ∧ s10 = .int .i64 0 ∧ Hid (Below wk.heap.size wk wc)) (fun _ _ _ _ => 0)
                case atStart => exact ⟨rfl, rfl, Lib.hid (w_refl wk)⟩
                case round =>
                  obtain ⟨rfl, rfl, hb⟩ := hrel
                  go_wp2_with fail
                  go_meet
                  exact ⟨by rw [hd]; rfl, by rw [hd]; rfl, hb⟩
            case rest =>
              obtain ⟨rfl, rfl, hbk⟩ := hcut
              have hZ2 := Lib.hid (hZ.out.later hbk.out)
              obtain ⟨hT1, hT3⟩ := many_take (l := l) (i := i) (k := k) (a := a) (by rw [hpt]; exact ha)
              generalize ((restC (l.drop (i + 1)) a).1 : Int) = M at *
              generalize ((restC (l.drop (i + 1)) a).2 : Int) = R at *
              have TK := Lib.hid (show _ ∧ _ from ⟨hT1, hT3⟩)
              clear hT1 hT3 gA hZ hbk
              have e9 : (ints ((manyL l i).take k)).length = k := by simp; omega
              have e10 : (ints ((roughL l i).take k)).length = k := by simp; omega
              go_upto_region 21 with (fail)
              refine wp_region_late (S := fun W => W.cell? ⟨w.heap.size + 1, i, none⟩ = some vB ∧ W.cell? ⟨w.heap.size + 1 + 1, i, none⟩ = some vC) ([19, 21]) (by kernel_rfl) ?_
              have FX := Lib.hid (hZ2.out.later (w_refl wc).drew)
              generalize hy : World.drew wc = y0 at *
              clear hy
              refine wpL_take (i := 0) (v := .slice (some ⟨w.heap.size + 1, 0, none⟩) l.length l.length) rfl (by kernel_rfl) (by kernel_rfl) (by kernel_rfl) (by kernel_rfl) (fun _ _ _ h => h) (Or.inl ⟨by kernel_rfl, fun _ => by go_simp⟩) (.inl (FX.out.cells hi)) ?_
              refine wpL_take (i := 1) (v := .int .i64 i) rfl (by kernel_rfl) (by kernel_rfl) (by kernel_rfl) (by kernel_rfl) (fun _ _ _ h => h) (Or.inl ⟨by kernel_rfl, fun _ => by go_simp⟩) (.inl (FX.out.cells hi)) ?_
              refine wpL_take (i := 2) (v := .slice (some ⟨w.heap.size + 1 + 1, 0, none⟩) l.length l.length) rfl (by kernel_rfl) (by kernel_rfl) (by kernel_rfl) (by kernel_rfl) (fun _ _ _ h => h) (Or.inl ⟨by kernel_rfl, fun _ => by go_simp⟩) (.inl (FX.out.cells hi)) ?_
              refine wpL_take (i := 3) (v := .int .i64 i) rfl (by kernel_rfl) (by kernel_rfl) (by kernel_rfl) (by kernel_rfl) (fun _ _ _ h => h) (Or.inl ⟨by kernel_rfl, fun _ => by go_simp⟩) (.inl (FX.out.cells hi)) ?_
              refine wpL_take (i := 4) (v := .slice (some ⟨w.heap.size + 1, 0, none⟩) l.length l.length) rfl (by kernel_rfl) (by kernel_rfl) (by kernel_rfl) (by kernel_rfl) (fun _ _ _ h => h) (Or.inl ⟨by kernel_rfl, fun _ => by go_simp⟩) (.inl (FX.out.cells hi)) ?_
              refine wpL_take (i := 5) (v := .int .i64 i) rfl (by kernel_rfl) (by kernel_rfl) (by kernel_rfl) (by kernel_rfl) (fun _ _ _ h => h) (Or.inl ⟨by kernel_rfl, fun _ => by go_simp⟩) (.inl (FX.out.cells hi)) ?_
              refine wpL_take (i := 6) (v := .pointer (some ⟨w.heap.size + 1, i, none⟩)) rfl (by kernel_rfl) (by kernel_rfl) (by kernel_rfl) (by kernel_rfl) (fun _ _ _ h => h) (Or.inl ⟨by kernel_rfl, fun _ => by go_simp⟩) (.inl (FX.out.cells hi)) ?_
              refine wpL_load (i := 7) (v := vB) rfl (by kernel_rfl) (by kernel_rfl) (by kernel_rfl) (by kernel_rfl) (by kernel_rfl) (fun _ _ _ h => h) (Or.inl ⟨by kernel_rfl, fun W hW => by (obtain ⟨hA, hB⟩ := hW; go_simp)⟩) (FX.out.cells hi) (by kernel_rfl) ?_
              refine wpL_take (i := 8) (v := .int .i64 M) rfl (by kernel_rfl) (by kernel_rfl) (by kernel_rfl) (by kernel_rfl) (fun _ _ _ h => h) (Or.inl ⟨by kernel_rfl, fun _ => by go_simp⟩) (.inl (FX.out.cells hi)) ?_
              refine wpL_take (i := 11) (v := .slice (some ⟨w.heap.size + 1 + 1, 0, none⟩) l.length l.length) rfl (by kernel_rfl) (by kernel_rfl) (by kernel_rfl) (by kernel_rfl) (fun _ _ _ h => h) (Or.inl ⟨by kernel_rfl, fun _ => by go_simp⟩) (.inl (FX.out.cells hi)) ?_
              refine wpL_take (i := 12) (v := .int .i64 i) rfl (by kernel_rfl) (by kernel_rfl) (by kernel_rfl) (by kernel_rfl) (fun _ _ _ h => h) (Or.inl ⟨by kernel_rfl, fun _ => by go_simp⟩) (.inl (FX.out.cells hi)) ?_
              refine wpL_take (i := 13) (v := .pointer (some ⟨w.heap.size + 1 + 1, i, none⟩)) rfl (by kernel_rfl) (by kernel_rfl) (by kernel_rfl) (by kernel_rfl) (fun _ _ _ h => h) (Or.inl ⟨by kernel_rfl, fun _ => by go_simp⟩) (.inl (FX.out.cells hi)) ?_
              refine wpL_load (i := 14) (v := vC) rfl (by kernel_rfl) (by kernel_rfl) (by kernel_rfl) (by kernel_rfl) (by kernel_rfl) (fun _ _ _ h => h) (Or.inl ⟨by kernel_rfl, fun W hW => by (obtain ⟨hA, hB⟩ := hW; go_simp)⟩) (FX.out.cells hi) (by kernel_rfl) ?_
              refine wpL_take (i := 15) (v := .int .i64 R) rfl (by kernel_rfl) (by kernel_rfl) (by kernel_rfl) (by kernel_rfl) (fun _ _ _ h => h) (Or.inl ⟨by kernel_rfl, fun _ => by go_simp⟩) (.inl (FX.out.cells hi)) ?_
              refine wpL_ready (rs := [9, 16]) (by kernel_rfl) (by simp) ?_
              refine AllL.cons rfl (fun K hK => ?_) ?_
              · skip
                rw [if_pos (by kernel_rfl)]
                go_simp
                have hLt := FX.out.lit (.int .i64 M) 3
                have hFx := FX.out.later (w_alloc (w_refl y0) (.cells #[.int .i64 M] 3))
                generalize hy : World.alloc y0 (.cells #[.int .i64 M] 3) = y1 at *
                clear hy
                have LB := Lib.hid hLt
                replace FX := Lib.hid hFx
                clear hLt hFx
                refine hK.out _ _ (.inl (FX.out.cells hi)) ?_
                clear hK K
                refine wpL_ready (rs := [10, 16]) (by kernel_rfl) (by simp) ?_
                refine AllL.cons rfl (fun K hK => ?_) ?_
                · skip
                  refine step_append_lies _ rfl (.tmp 142) (.tmp 144) 43 rfl wi.heap.size 3 k0 (.int .i64 0) 1 8 Tryd.underlying43 hk0 hx0 hx1 hx2 rfl (by decide) vB k (ints ((manyL l i).take k)) (by kernel_rfl) FX.out.oB ⟨y0.heap.size, 0, none⟩ 1 1 [.int .i64 M] (by kernel_rfl) rfl (one_new LB.out.1) (one_int _) (by decide) (by unfold maxLen; omega) (by omega) FX.out.sz _ rfl ?_
                  intro g1 c1 y2 hown hgrow hat hlt
                  have hFx := FX.out.appB hown hgrow (hat.imp Eq.symm (fun e => by rw [e]; rfl))
                  replace FX := Lib.hid hFx
                  clear hFx hown hgrow hat hlt
                  refine hK.out _ _ (.inl (FX.out.cells hi)) ?_
                  clear hK K
                  refine wpL_ready (rs := [16]) (by kernel_rfl) (by simp) ?_
                  refine AllL.cons rfl (fun K hK => ?_) AllL.nil
                  rw [if_pos (by kernel_rfl)]
                  go_simp
                  have hLt := FX.out.lit (.int .i64 R) 3
                  have hFx := FX.out.later (w_alloc (w_refl y2) (.cells #[.int .i64 R] 3))
                  generalize hy : World.alloc y2 (.cells #[.int .i64 R] 3) = y3 at *
                  clear hy
                  have LC := Lib.hid hLt
                  replace FX := Lib.hid hFx
                  clear hLt hFx
                  refine hK.out _ _ (.inl (FX.out.cells hi)) ?_
                  clear hK K
                  refine wpL_ready (rs := [17]) (by kernel_rfl) (by simp) ?_
                  refine AllL.cons rfl (fun K hK => ?_) AllL.nil
                  refine step_append_lies _ rfl (.tmp 149) (.tmp 151) 43 rfl wi.heap.size 3 k0 (.int .i64 0) 1 8 Tryd.underlying43 hk0 hx0 hx1 hx2 rfl (by decide) vC k (ints ((roughL l i).take k)) (by kernel_rfl) FX.out.oC ⟨y2.heap.size, 0, none⟩ 1 1 [.int .i64 R] (by kernel_rfl) rfl (one_new LC.out.1) (one_int _) (by decide) (by unfold maxLen; omega) (by omega) FX.out.sz _ rfl ?_
                  intro g2 c2 y4 hown hgrow hat hlt
                  have hFx := FX.out.appC hown hgrow (hat.imp Eq.symm (fun e => by rw [e]; rfl))
                  replace FX := Lib.hid hFx
                  clear hFx hown hgrow hat hlt
                  refine hK.out _ _ (.inl (FX.out.cells hi)) ?_
                  clear hK K
                  refine wpL_take (i := 18) (v := .pointer (some ⟨w.heap.size + 1, i, none⟩)) rfl (by kernel_rfl) (by kernel_rfl) (by kernel_rfl) (by kernel_rfl) (fun _ _ _ h => h) (Or.inl ⟨by kernel_rfl, fun _ => by go_simp⟩) (.inl (FX.out.cells hi)) ?_
                  refine wpL_ready (rs := [19]) (by kernel_rfl) (by simp) ?_
                  refine AllL.cons rfl (fun K hK => ?_) AllL.nil
                  have e0 := (FX.out.cells hi).1
                  have e1 : World.frozen? y4 ⟨w.heap.size + 1, i, none⟩ = false := FX.out.rB.frozen i
                  rw [if_pos (by kernel_rfl)]
                  go_simp
                  have hFx := FX.out.putB
                  clear e0 e1 FX
                  generalize hy : World.setCell y4 ⟨w.heap.size + 1, i, none⟩ (.slice (some ⟨g1, 0, none⟩) (k + 1) c1) = z at *
                  clear hy
                  have FX := Lib.hid hFx
                  clear hFx
                  refine hK.out _ _ (.inr (by kernel_rfl)) ?_
                  clear hK K
                  refine wpL_take (i := 20) (v := .pointer (some ⟨w.heap.size + 1 + 1, i, none⟩)) rfl (by kernel_rfl) (by kernel_rfl) (by kernel_rfl) (by kernel_rfl) (fun _ _ _ h => h) (Or.inl ⟨by kernel_rfl, fun _ => by go_simp⟩) (.inr (by kernel_rfl)) ?_
                  refine wpL_ready (rs := [21]) (by kernel_rfl) (by simp) ?_
                  refine AllL.cons rfl (fun K hK => ?_) AllL.nil
                  have e0 := (FX.out.cells hi).2
                  have e1 : World.frozen? z ⟨w.heap.size + 1 + 1, i, none⟩ = false := FX.out.rC.frozen i
                  rw [if_pos (by kernel_rfl)]
                  go_simp
                  have hFx := FX.out.putC
                  clear e0 e1 FX
                  have FX := Lib.hid hFx
                  clear hFx
                  refine hK.out _ _ (.inr (by kernel_rfl)) ?_
                  clear hK K
                  refine wpL_done (by kernel_rfl) ?_ _
                  have hRel := FX.out
                  rw [← TK.out.1, ← TK.out.2] at hRel
                  have RL := Lib.hid hRel
                  clear hRel FX LB LC
                  go_wp2_with fail
                  go_roundw
                  case rel => exact ⟨k + 1, by omega, by go_num, _, _, RL⟩
                  case measure => simp [intOf]; omega
                refine AllL.cons rfl (fun K hK => ?_) AllL.nil
                rw [if_pos (by kernel_rfl)]
                go_simp
                have hLt := FX.out.lit (.int .i64 R) 3
                have hFx := FX.out.later (w_alloc (w_refl y1) (.cells #[.int .i64 R] 3))
                have hOt := LB.out.later (w_alloc (w_refl y1) (.cells #[.int .i64 R] 3))
                generalize hy : World.alloc y1 (.cells #[.int .i64 R] 3) = y5 at *
                clear hy
                have LC := Lib.hid hLt
                replace FX := Lib.hid hFx
                clear hLt hFx
                replace LB := Lib.hid hOt
                clear hOt
                refine hK.out _ _ (.inl (FX.out.cells hi)) ?_
                clear hK K
                refine wpL_ready (rs := [10]) (by kernel_rfl) (by simp) ?_
                refine AllL.cons rfl (fun K hK => ?_) AllL.nil
                refine step_append_lies _ rfl (.tmp 142) (.tmp 144) 43 rfl wi.heap.size 3 k0 (.int .i64 0) 1 8 Tryd.underlying43 hk0 hx0 hx1 hx2 rfl (by decide) vB k (ints ((manyL l i).take k)) (by kernel_rfl) FX.out.oB ⟨y0.heap.size, 0, none⟩ 1 1 [.int .i64 M] (by kernel_rfl) rfl (one_new LB.out.1) (one_int _) (by decide) (by unfold maxLen; omega) (by omega) FX.out.sz _ rfl ?_
                intro g1 c1 y6 hown hgrow hat hlt
                have hOt := (hgrow.cell_far ⟨y1.heap.size, 0, none⟩ LC.out.2.1 (fun e => LC.out.2.2.1 e.symm)).trans LC.out.1
                have hFx := FX.out.appB hown hgrow (hat.imp Eq.symm (fun e => by rw [e]; rfl))
                replace FX := Lib.hid hFx
                clear hFx hown hgrow hat hlt
                replace LC := Lib.hid (show _ ∧ True from ⟨hOt, trivial⟩)
                clear hOt
                refine hK.out _ _ (.inl (FX.out.cells hi)) ?_
                clear hK K
                refine wpL_ready (rs := [17]) (by kernel_rfl) (by simp) ?_
                refine AllL.cons rfl (fun K hK => ?_) AllL.nil
                refine step_append_lies _ rfl (.tmp 149) (.tmp 151) 43 rfl wi.heap.size 3 k0 (.int .i64 0) 1 8 Tryd.underlying43 hk0 hx0 hx1 hx2 rfl (by decide) vC k (ints ((roughL l i).take k)) (by kernel_rfl) FX.out.oC ⟨y1.heap.size, 0, none⟩ 1 1 [.int .i64 R] (by kernel_rfl) rfl (one_new LC.out.1) (one_int _) (by decide) (by unfold maxLen; omega) (by omega) FX.out.sz _ rfl ?_
                intro g2 c2 y7 hown hgrow hat hlt
                have hFx := FX.out.appC hown hgrow (hat.imp Eq.symm (fun e => by rw [e]; rfl))
                replace FX := Lib.hid hFx
                clear hFx hown hgrow hat hlt
                refine hK.out _ _ (.inl (FX.out.cells hi)) ?_
                clear hK K
                refine wpL_take (i := 18) (v := .pointer (some ⟨w.heap.size + 1, i, none⟩)) rfl (by kernel_rfl) (by kernel_rfl) (by kernel_rfl) (by kernel_rfl) (fun _ _ _ h => h) (Or.inl ⟨by kernel_rfl, fun _ => by go_simp⟩) (.inl (FX.out.cells hi)) ?_
                refine wpL_ready (rs := [19]) (by kernel_rfl) (by simp) ?_
                refine AllL.cons rfl (fun K hK => ?_) AllL.nil
                have e0 := (FX.out.cells hi).1
                have e1 : World.frozen? y7 ⟨w.heap.size + 1, i, none⟩ = false := FX.out.rB.frozen i
                rw [if_pos (by kernel_rfl)]
                go_simp
                have hFx := FX.out.putB
                clear e0 e1 FX
                generalize hy : World.setCell y7 ⟨w.heap.size + 1, i, none⟩ (.slice (some ⟨g1, 0, none⟩) (k + 1) c1) = z at *
                clear hy
                have FX := Lib.hid hFx
                clear hFx
                refine hK.out _ _ (.inr (by kernel_rfl)) ?_
                clear hK K
                refine wpL_take (i := 20) (v := .pointer (some ⟨w.heap.size + 1 + 1, i, none⟩)) rfl (by kernel_rfl) (by kernel_rfl) (by kernel_rfl) (by kernel_rfl) (fun _ _ _ h => h) (Or.inl ⟨by kernel_rfl, fun _ => by go_simp⟩) (.inr (by kernel_rfl)) ?_
                refine wpL_ready (rs := [21]) (by kernel_rfl) (by simp) ?_
                refine AllL.cons rfl (fun K hK => ?_) AllL.nil
                have e0 := (FX.out.cells hi).2
                have e1 : World.frozen? z ⟨w.heap.size + 1 + 1, i, none⟩ = false := FX.out.rC.frozen i
                rw [if_pos (by kernel_rfl)]
                go_simp
                have hFx := FX.out.putC
                clear e0 e1 FX
                have FX := Lib.hid hFx
                clear hFx
                refine hK.out _ _ (.inr (by kernel_rfl)) ?_
                clear hK K
                refine wpL_done (by kernel_rfl) ?_ _
                have hRel := FX.out
                rw [← TK.out.1, ← TK.out.2] at hRel
                have RL := Lib.hid hRel
                clear hRel FX LB LC
                go_wp2_with fail
                go_roundw
                case rel => exact ⟨k + 1, by omega, by go_num, _, _, RL⟩
                case measure => simp [intOf]; omega
              refine AllL.cons rfl (fun K hK => ?_) AllL.nil
              rw [if_pos (by kernel_rfl)]
              go_simp
              have hLt := FX.out.lit (.int .i64 R) 3
              have hFx := FX.out.later (w_alloc (w_refl y0) (.cells #[.int .i64 R] 3))
              generalize hy : World.alloc y0 (.cells #[.int .i64 R] 3) = y8 at *
              clear hy
              have LC := Lib.hid hLt
              replace FX := Lib.hid hFx
              clear hLt hFx
              refine hK.out _ _ (.inl (FX.out.cells hi)) ?_
              clear hK K
              refine wpL_ready (rs := [9]) (by kernel_rfl) (by simp) ?_
              refine AllL.cons rfl (fun K hK => ?_) AllL.nil
              rw [if_pos (by kernel_rfl)]
              go_simp
              have hLt := FX.out.lit (.int .i64 M) 3
              have hFx := FX.out.later (w_alloc (w_refl y8) (.cells #[.int .i64 M] 3))
              have hOt := LC.out.later (w_alloc (w_refl y8) (.cells #[.int .i64 M] 3))
              generalize hy : World.alloc y8 (.cells #[.int .i64 M] 3) = y9 at *
              clear hy
              have LB := Lib.hid hLt
              replace FX := Lib.hid hFx
              clear hLt hFx
              replace LC := Lib.hid hOt
              clear hOt
              refine hK.out _ _ (.inl (FX.out.cells hi)) ?_
              clear hK K
              refine wpL_ready (rs := [10]) (by kernel_rfl) (by simp) ?_
              refine AllL.cons rfl (fun K hK => ?_) AllL.nil
              refine step_append_lies _ rfl (.tmp 142) (.tmp 144) 43 rfl wi.heap.size 3 k0 (.int .i64 0) 1 8 Tryd.underlying43 hk0 hx0 hx1 hx2 rfl (by decide) vB k (ints ((manyL l i).take k)) (by kernel_rfl) FX.out.oB ⟨y8.heap.size, 0, none⟩ 1 1 [.int .i64 M] (by kernel_rfl) rfl (one_new LB.out.1) (one_int _) (by decide) (by unfold maxLen; omega) (by omega) FX.out.sz _ rfl ?_
              intro g1 c1 y10 hown hgrow hat hlt
              have hOt := (hgrow.cell_far ⟨y0.heap.size, 0, none⟩ LC.out.2.1 (fun e => LC.out.2.2.1 e.symm)).trans LC.out.1
              have hFx := FX.out.appB hown hgrow (hat.imp Eq.symm (fun e => by rw [e]; rfl))
              replace FX := Lib.hid hFx
              clear hFx hown hgrow hat hlt
              replace LC := Lib.hid (show _ ∧ True from ⟨hOt, trivial⟩)
              clear hOt
              refine hK.out _ _ (.inl (FX.out.cells hi)) ?_
              clear hK K
              refine wpL_ready (rs := [17]) (by kernel_rfl) (by simp) ?_
              refine AllL.cons rfl (fun K hK => ?_) AllL.nil
              refine step_append_lies _ rfl (.tmp 149) (.tmp 151) 43 rfl wi.heap.size 3 k0 (.int .i64 0) 1 8 Tryd.underlying43 hk0 hx0 hx1 hx2 rfl (by decide) vC k (ints ((roughL l i).take k)) (by kernel_rfl) FX.out.oC ⟨y0.heap.size, 0, none⟩ 1 1 [.int .i64 R] (by kernel_rfl) rfl (one_new LC.out.1) (one_int _) (by decide) (by unfold maxLen; omega) (by omega) FX.out.sz _ rfl ?_
              intro g2 c2 y11 hown hgrow hat hlt
              have hFx := FX.out.appC hown hgrow (hat.imp Eq.symm (fun e => by rw [e]; rfl))
              replace FX := Lib.hid hFx
              clear hFx hown hgrow hat hlt
              refine hK.out _ _ (.inl (FX.out.cells hi)) ?_
              clear hK K
              refine wpL_take (i := 18) (v := .pointer (some ⟨w.heap.size + 1, i, none⟩)) rfl (by kernel_rfl) (by kernel_rfl) (by kernel_rfl) (by kernel_rfl) (fun _ _ _ h => h) (Or.inl ⟨by kernel_rfl, fun _ => by go_simp⟩) (.inl (FX.out.cells hi)) ?_
              refine wpL_ready (rs := [19]) (by kernel_rfl) (by simp) ?_
              refine AllL.cons rfl (fun K hK => ?_) AllL.nil
              have e0 := (FX.out.cells hi).1
              have e1 : World.frozen? y11 ⟨w.heap.size + 1, i, none⟩ = false := FX.out.rB.frozen i
              rw [if_pos (by kernel_rfl)]
              go_simp
              have hFx := FX.out.putB
              clear e0 e1 FX
              generalize hy : World.setCell y11 ⟨w.heap.size + 1, i, none⟩ (.slice (some ⟨g1, 0, none⟩) (k + 1) c1) = z at *
              clear hy
              have FX := Lib.hid hFx
              clear hFx
              refine hK.out _ _ (.inr (by kernel_rfl)) ?_
              clear hK K
              refine wpL_take (i := 20) (v := .pointer (some ⟨w.heap.size + 1 + 1, i, none⟩)) rfl (by kernel_rfl) (by kernel_rfl) (by kernel_rfl) (by kernel_rfl) (fun _ _ _ h => h) (Or.inl ⟨by kernel_rfl, fun _ => by go_simp⟩) (.inr (by kernel_rfl)) ?_
              refine wpL_ready (rs := [21]) (by kernel_rfl) (by simp) ?_
              refine AllL.cons rfl (fun K hK => ?_) AllL.nil
              have e0 := (FX.out.cells hi).2
              have e1 : World.frozen? z ⟨w.heap.size + 1 + 1, i, none⟩ = false := FX.out.rC.frozen i
              rw [if_pos (by kernel_rfl)]
              go_simp
              have hFx := FX.out.putC
              clear e0 e1 FX
              have FX := Lib.hid hFx
              clear hFx
              refine hK.out _ _ (.inr (by kernel_rfl)) ?_
              clear hK K
              refine wpL_done (by kernel_rfl) ?_ _
              have hRel := FX.out
              rw [← TK.out.1, ← TK.out.2] at hRel
              have RL := Lib.hid hRel
              clear hRel FX LB LC
              go_wp2_with fail
              go_roundw
              case rel => exact ⟨k + 1, by omega, by go_num, _, _, RL⟩
              case measure => simp [intOf]; omega
          · obtain rfl : k = (waysL q).length := by omega
            have hfull := Lib.hid (hZ.out.full hi hT2.out (by rw [hpt]) (by rw [hpt]) (by rw [List.take_of_length_le (by omega)]) (by rw [List.take_of_length_le (by omega)]))
            go_wp2_with fail
            go_roundw
            case rel => exact ⟨i, by omega, by go_num, _, _, _, hfull⟩
            case measure => simp [intOf]

end Go.Proofs.YtaldbjhalpgkeaaDoor
