/- The law on blanks, comments and lines without words, and on two texts. -/
import Derived.Test.YtdjkgnganbeonaaDoorLsMath
import Derived.Test.YtdjkgnganbeonaaDoorRowsApp
import Derived.Deep.DeepCutAuto
import Derived.Deep.RegionHeld
namespace Go.Proofs.YtdjkgnganbeonaaDoor
open Go.RowKit

theorem new_cell {w w1 : World} {cs : List Value} {ty : TypeId} {n : Nat} {v : Value} (h : w.alloc (.cells cs.toArray ty) = w1) (hv : cs[n]? = some v) : w1.cell? ⟨w.heap.size, n, none⟩ = some v := by
  rw [← h, lit_cells]; exact hv
theorem keep_cell {w w1 : World} {o : Obj} {p : Addr} {v : Value} (h : w.alloc o = w1) (hv : w.cell? p = some v) : w1.cell? p = some v := by
  rw [← h]; exact ka hv _
theorem new_below {w w1 : World} {o : Obj} (h : w.alloc o = w1) : Below w.heap.size w w1 ∧ w1.heap.size = w.heap.size + 1 := by
  subst h; exact ⟨w_alloc (w_refl w) _, by simp⟩
theorem w_below2 {w0 w w1 w2 : World} (g : Below w0.heap.size w0 w) (h : Below w.heap.size w w1 ∧ w1.heap.size = w.heap.size + 1) (k : Below w1.heap.size w1 w2 ∧ w2.heap.size = w1.heap.size + 1) : Below w0.heap.size w0 w2 := w_below (w_below g h.1) k.1
theorem w_below1 {w0 w w1 : World} (g : Below w0.heap.size w0 w) (h : Below w.heap.size w w1 ∧ w1.heap.size = w.heap.size + 1) : Below w0.heap.size w0 w1 := w_below g h.1
theorem held_mono {P : Program} {md : Region.Mode} {ops : Array Oper} {Q : Exit → Act → World → Prop} {S S' : World → Prop} (hm : ∀ w, S' w → S w) : ∀ (fuel : Nat) (listed : Array Bool) (a : Act) (w : World), wpAnyH P md ops Q S' fuel listed a w → wpAnyH P md ops Q S fuel listed a w
  | 0, _, _, _, h => h
  | fuel + 1, _, _, _, h => ⟨h.1, fun i hi => wpOp_mono (fun a' w' h' => ⟨hm _ h'.1, held_mono hm fuel _ a' w' h'.2⟩) (h.2 i hi)⟩
theorem drew_below {w w0 : World} (h : w.drew = w0) : Below w.heap.size w w0 := by subst h; exact (w_refl w).drew
theorem gap_cell (n : Nat) (hn : n < 5) : ([.string ⟨#[]⟩, .string ⟨#[32, 32]⟩, .string ⟨#[32, 59, 10, 10]⟩, .string ⟨#[59, 32, 34, 97, 10, 32, 32, 32]⟩, .string ⟨#[10]⟩] : List Value)[n]? = some (.string (gapsB.getD n noB)) := by
  have h5 : n = 0 ∨ n = 1 ∨ n = 2 ∨ n = 3 ∨ n = 4 := by omega
  rcases h5 with rfl | rfl | rfl | rfl | rfl <;> rfl
theorem end_cell (n : Nat) (hn : n < 5) : ([.string ⟨#[]⟩, .string ⟨#[32]⟩, .string ⟨#[32, 32, 59, 32, 120, 59, 34]⟩, .string ⟨#[32, 59]⟩, .string ⟨#[59, 255]⟩] : List Value)[n]? = some (.string (endsB.getD n noB)) := by
  have h5 : n = 0 ∨ n = 1 ∨ n = 2 ∨ n = 3 ∨ n = 4 := by omega
  rcases h5 with rfl | rfl | rfl | rfl | rfl <;> rfl

set_option maxRecDepth 100000 in
set_option maxHeartbeats 8000000 in
theorem looselaw_any (p1 p2 p3 : Option Addr) (cap1 cap2 cap3 : Nat) (xs ys gs : List Int) (w : World) (h1 : IntsP w p1 cap1 xs) (h2 : IntsP w p2 cap2 ys) (h3 : IntsP w p3 cap3 gs) :
    Calls Tryd.prog 8 #[.slice p1 xs.length cap1, .slice p2 ys.length cap2, .slice p3 gs.length cap3] w fun e w' => e = .returned (.bool true) ∧ Below w.heap.size w w' := by
  have H1 := Lib.hid h1
  have H2 := Lib.hid h2
  have H3 := Lib.hid h3
  clear h1 h2 h3
  go_enter Tryd.func8, Tryd.ntmps8
  go_wp2_with fail
  refine (known_any _).mono ?_
  rintro e w1 ⟨rfl, hb1⟩
  have B1 := Lib.hid hb1
  have X1 := Lib.hid (H1.out.later hb1)
  clear hb1 H1
  go_wp2_with fail
  refine (made_any p1 cap1 xs _ X1.out).mono ?_
  rintro e w2 ⟨v1, rs1, rfl, hv1, hr1, hb2⟩
  have B2 := Lib.hid (w_below B1.out hb2)
  have X2 := Lib.hid (H2.out.later B2.out)
  have V2 := Lib.hid hv1
  have R1 := Lib.hid hr1
  clear hb2 B1 X1 H2 hv1 hr1
  go_wp2_with fail
  refine (made_any p2 cap2 ys _ X2.out).mono ?_
  rintro e w3 ⟨v2, rs2, rfl, hv2, hr2, hb3⟩
  have B3 := Lib.hid (w_below B2.out hb3)
  have X3 := Lib.hid (H3.out.later B3.out)
  have V3 := Lib.hid (V2.out.later hb3)
  have U3 := Lib.hid hv2
  have R2 := Lib.hid hr2
  clear hb3 B2 X2 H3 V2 hv2 hr2
  obtain ⟨q1, c1, rfl, f11, f12⟩ := rows_nil V3.out
  obtain ⟨q2, c2, rfl, f21, f22⟩ := rows_nil U3.out
  go_upto_if 28 with (fail)
  go_cut [8] (fun v wc => ∃ (rs : List Rw) (q : Option Addr) (c : Nat), v = .slice q rs.length c ∧ rs.length ≤ 6 ∧ Hid (∀ r ∈ rs, RowOk r.words) ∧ Hid (RowsV wc (.slice q rs.length c) rs) ∧ wc = w3)
  case first =>
    by_cases hbig : 6 < rs1.length
    · have hbig' : (6 : Int) < rs1.length := by omega
      obtain ⟨b, off, rfl⟩ := rowsV_addr V3.out (by omega)
      have hs := Lib.hid (rowsV_sub V3.out 0 6 6 (by omega) (by omega) rfl)
      have hk := Lib.hid (show (rs1.take 6).length = 6 by rw [List.length_take]; omega)
      have ho := Lib.hid (show ∀ r ∈ rs1.take 6, RowOk r.words from fun r hr => R1.out.2 r (List.mem_of_mem_take hr))
      clear V3 U3
      go_wp2_with fail
      go_meet
      exact ⟨rs1.take 6, some ⟨b, off, none⟩, c1, by rw [hk.out], by rw [hk.out]; omega, ho, Lib.hid (by rw [hk.out]; simpa using hs.out), rfl⟩
    · have hbig' : (rs1.length : Int) ≤ 6 := by omega
      go_wp2_with fail
      go_meet
      exact ⟨rs1, q1, c1, rfl, by omega, Lib.hid R1.out.2, V3, rfl⟩
  case rest =>
    obtain ⟨l, ql, cl, rfl, hl6, HL, VL, hwc⟩ := hcut
    obtain rfl := hwc.symm
    clear hwc V3 R1 f11 f12
    go_upto_if 33 with (fail)
    go_cut [9] (fun v wc => ∃ (rs : List Rw) (q : Option Addr) (c : Nat), v = .slice q rs.length c ∧ rs.length ≤ 6 ∧ Hid (∀ r ∈ rs, RowOk r.words) ∧ Hid (RowsV wc (.slice q rs.length c) rs) ∧ wc = w3)
    case first =>
      by_cases hbig : 6 < rs2.length
      · have hbig' : (6 : Int) < rs2.length := by omega
        obtain ⟨b, off, rfl⟩ := rowsV_addr U3.out (by omega)
        have hs := Lib.hid (rowsV_sub U3.out 0 6 6 (by omega) (by omega) rfl)
        have hk := Lib.hid (show (rs2.take 6).length = 6 by rw [List.length_take]; omega)
        have ho := Lib.hid (show ∀ r ∈ rs2.take 6, RowOk r.words from fun r hr => R2.out.2 r (List.mem_of_mem_take hr))
        clear U3 VL
        go_wp2_with fail
        go_meet
        exact ⟨rs2.take 6, some ⟨b, off, none⟩, c2, by rw [hk.out], by rw [hk.out]; omega, ho, Lib.hid (by rw [hk.out]; simpa using hs.out), rfl⟩
      · have hbig' : (rs2.length : Int) ≤ 6 := by omega
        go_wp2_with fail
        go_meet
        exact ⟨rs2, q2, c2, rfl, by omega, Lib.hid R2.out.2, U3, rfl⟩
    case rest =>
      obtain ⟨m, qm, cm, rfl, hm6, HM, VM, hwc⟩ := hcut
      obtain rfl := hwc.symm
      clear hwc U3 R2 f21 f22
      have fl1 := (rows_nil VL.out)
      obtain ⟨_, _, ee, fl1, fl2⟩ := fl1
      simp only [Value.slice.injEq, true_and] at ee
      obtain ⟨rfl, rfl⟩ := ee
      go_wp2_with fail
      go_loopw [10, 11] (fun t i wr => ∃ (k : Nat) (T : ByteArray), k ≤ l.length ∧ i = .int .i64 k ∧ t = .string T ∧ T.size ≤ k * 100 ∧ Hid (Reads T.data.toList (bareR (l.take k))) ∧ Hid (Below w3.heap.size w3 wr)) (fun _ i _ => l.length - (intOf i).toNat)
      case atStart => exact ⟨0, ⟨#[]⟩, by omega, rfl, rfl, by decide, Lib.hid Reads.nil, Lib.hid (w_refl w3)⟩
      case round =>
        obtain ⟨k, T, hk, rfl, rfl, hTs, hT, hb⟩ := hrel
        by_cases hlt : k < l.length
        · obtain ⟨b, off, rfl⟩ := rowsV_addr VL.out (by omega)
          have hs := rowsV_sub VL.out k (k + 1) 1 (by omega) (by omega) (by omega)
          rw [one_row hlt] at hs
          have hok := Lib.hid (HL.out _ (getR_mem hlt))
          have hbt := Lib.hid (bare_take hlt)
          generalize l.getD k noRw = r at *
          have hrs := Lib.hid (hs.later hb.out)
          have hmd := Lib.hid (made_modest (rs := [r]) (by simp) (fun x hx => by rw [List.mem_singleton] at hx; rw [hx]; exact hok.out))
          have htx := (made_text (rs := [r]) (by simp) (fun x hx => by rw [List.mem_singleton] at hx; rw [hx]; exact hok.out)).1
          have hbo : bodyL [r] = lineL r.words ++ [10] := by simp [bodyL]
          rw [hbo] at htx
          have HTX := Lib.hid htx
          obtain ⟨S, hS⟩ : ∃ S : ByteArray, S = ⟨(lineL r.words ++ [10]).toArray⟩ := ⟨_, rfl⟩
          have HSS := Lib.hid hS
          have hS1 : S.size = (lineL r.words).length + 1 := by rw [hS, list_size]; simp
          have hS2 := hok.out.good.2
          have hS3 : 1 ≤ S.size := by omega
          have hS4 : S.size ≤ 73 := by omega
          have hSe := ne_empty (s := S) (by omega)
          have hx3 := Lib.hid (fun W (h : Below w3.heap.size w3 W) => X3.out.later h)
          have hzb := getD_bds X3.out k
          have hzb2 := getD_bds X3.out (k + 7)
          have A1 := Lib.hid (fun W (h : Below w3.heap.size w3 W) => at_any p3 cap3 gs k W (X3.out.later h) (by omega))
          have A2' := Lib.hid (fun W (h : Below w3.heap.size w3 W) => at_any p3 cap3 gs (k + 7) W (X3.out.later h) (by omega))
          clear hs htx hbo hS hS1 hS2
          generalize gs.getD k 0 = z at *
          generalize gs.getD (k + 7) 0 = z2 at *
          rw [show ((k + 7 : Nat) : Int) = (k : Int) + 7 by omega] at A2'
          obtain ⟨n, hn, hne⟩ := mod_nat z 5 (by decide)
          obtain ⟨m2, hm2, hme⟩ := mod_nat z2 5 (by decide)
          have M1 := Lib.hid (fun W => mod_any z 5 W hzb.1 hzb.2 (by decide) (by decide))
          have M2 := Lib.hid (fun W => mod_any z2 5 W hzb2.1 hzb2.2 (by decide) (by decide))
          rw [show ((5 : Nat) : Int) = 5 from rfl] at hne hme
          rw [hne] at M1
          rw [hme] at M2
          clear hne hme hzb hzb2
          go_wp2_with fail
          refine (wtext_any _ [r] _ hrs.out hmd.out).mono ?_
          rintro e w5 ⟨rfl, hb5⟩
          rw [HTX.out]
          have hb6 := Lib.hid (w_below hb.out hb5)
          have e9 : (⟨(lineL r.words ++ [10], (0 : Int)).fst.toArray⟩ : ByteArray) = S := HSS.out.symm
          rw [e9]
          clear hb5 hrs hmd HTX hb
          go_wp2_with fail
          refine (A1.out _ hb6.out).mono ?_
          rintro e w6 ⟨rfl, rfl⟩
          go_wp2_with fail
          refine (M1.out _).mono ?_
          rintro e w7 ⟨rfl, rfl⟩
          have DM := Lib.hid (deco_more hT.out hn hm2 hok.out HSS.out)
          have hg5 := gap_cell n hn
          have he5 := end_cell m2 hm2
          have hgs := (gap_size n hn).1
          have hes := (gap_size m2 hm2).2
          generalize gapsB.getD n noB = gn at *
          generalize endsB.getD m2 noB = em at *
          have A2 := Lib.hid (fun W (h : Below w5.heap.size w5 W) => A2'.out W (w_below hb6.out h))
          clear A2' A1 M1 HSS hok
          go_upto_region 15 with (fail)
          obtain ⟨u, hu⟩ : ∃ u : Nat, S.size - 1 = u := ⟨_, rfl⟩
          have wS : IntKind.i64.wrap ((S.size : Int) - 1) = (u : Int) := by rw [IntWalk.i64_in _ (by omega)]; omega
          have wk : IntKind.i64.wrap ((k : Int) + 7) = (k : Int) + 7 := IntWalk.i64_in _ (by omega)
          have hu1 : u ≤ S.size := by omega
          have hu2 : (u : Int) ≤ S.size := by omega
          rw [hu] at DM
          obtain ⟨d1, d2⟩ := DM.out
          rw [← hbt.out] at d1
          have hnew := Lib.hid d1
          have hds : (T ++ gn ++ S.extract 0 u ++ em ++ (⟨#[10]⟩ : ByteArray)).size ≤ (k + 1) * 100 := by omega
          have hDS := Lib.hid hds
          have hnI : (n : Int) < 5 := by omega
          have hmI : (m2 : Int) < 5 := by omega
          have z1 : T.size + gn.size ≤ 9223372036854775807 := by omega
          have z2' : T.size + gn.size + u ≤ 9223372036854775807 := by omega
          have z3 : T.size + gn.size + u + em.size ≤ 9223372036854775807 := by omega
          have z4 : T.size + gn.size + u + em.size + 1 ≤ 9223372036854775807 := by omega
          clear DM hT hbt hx3 VL VM HL HM X3 B3 d1 d2 hds hSe hu
          refine wp_region_any (by kernel_rfl) ?_
          change wpAny _ _ _ _ _ _ _ (World.drew _)
          generalize hw0 : World.drew w5 = w0
          have hw0 := Lib.hid (drew_below hw0)
          refine wpAny_take (i := 0) (v := .string T) rfl (by kernel_rfl) (by kernel_rfl) (by kernel_rfl) (fun _ _ _ h => h) (Or.inl ⟨by kernel_rfl, fun _ => by go_simp⟩) ?_
          refine wpAny_take (i := 2) (v := .int .i64 n) rfl (by kernel_rfl) (by kernel_rfl) (by kernel_rfl) (fun _ _ _ h => h) (Or.inl ⟨by kernel_rfl, fun _ => by go_simp⟩) ?_
          refine wpAny_take (i := 6) (v := .string S) rfl (by kernel_rfl) (by kernel_rfl) (by kernel_rfl) (fun _ _ _ h => h) (Or.inl ⟨by kernel_rfl, fun _ => by go_simp⟩) ?_
          refine wpAny_take (i := 7) (v := .string S) rfl (by kernel_rfl) (by kernel_rfl) (by kernel_rfl) (fun _ _ _ h => h) (Or.inl ⟨by kernel_rfl, fun _ => by go_simp⟩) ?_
          refine wpAny_take (i := 8) (v := .int .i64 S.size) rfl (by kernel_rfl) (by kernel_rfl) (by kernel_rfl) (fun _ _ _ h => h) (Or.inl ⟨by kernel_rfl, fun _ => by go_simp⟩) ?_
          refine wpAny_take (i := 9) (v := .int .i64 u) rfl (by kernel_rfl) (by kernel_rfl) (by kernel_rfl) (fun _ _ _ h => h) (Or.inl ⟨by kernel_rfl, fun _ => by go_simp⟩) ?_
          refine wpAny_take (i := 10) (v := .string (S.extract 0 u)) rfl (by kernel_rfl) (by kernel_rfl) (by kernel_rfl) (fun _ _ _ h => h) (Or.inl ⟨by kernel_rfl, fun _ => by go_simp⟩) ?_
          refine wpAny_take (i := 13) (v := .slice p3 gs.length cap3) rfl (by kernel_rfl) (by kernel_rfl) (by kernel_rfl) (fun _ _ _ h => h) (Or.inl ⟨by kernel_rfl, fun _ => by go_simp⟩) ?_
          refine wpAny_take (i := 14) (v := .int .i64 k) rfl (by kernel_rfl) (by kernel_rfl) (by kernel_rfl) (fun _ _ _ h => h) (Or.inl ⟨by kernel_rfl, fun _ => by go_simp⟩) ?_
          refine wpAny_take (i := 15) (v := .int .i64 (k + 7)) rfl (by kernel_rfl) (by kernel_rfl) (by kernel_rfl) (fun _ _ _ h => h) (Or.inl ⟨by kernel_rfl, fun _ => by go_simp⟩) ?_
          refine wpAny_ready (rs := [1, 12, 16]) (by kernel_rfl) (by simp) ?_
          refine AllReady.cons rfl (fun K hK => ?_) (AllReady.cons rfl (fun K hK => ?_) (AllReady.cons rfl (fun K hK => ?_) AllReady.nil))
          · rw [if_pos (by kernel_rfl)]
            go_simp
            generalize hwa : World.alloc w0 (.cells #[.string ⟨#[]⟩, .string ⟨#[32, 32]⟩, .string ⟨#[32, 59, 10, 10]⟩, .string ⟨#[59, 32, 34, 97, 10, 32, 32, 32]⟩, .string ⟨#[10]⟩] 9) = wa
            have cG := new_cell hwa hg5
            replace hwa := Lib.hid (new_below hwa)
            refine hK _ _ ?_
            clear hK K
            refine wpAny_of_held (S := fun W => W.cell? ⟨w0.heap.size, n, none⟩ = some (.string gn)) _ _ _ _ ?_
            refine wpAnyH_take (i := 3) (v := .pointer (some ⟨w0.heap.size, n, none⟩)) rfl (by kernel_rfl) (by kernel_rfl) (by kernel_rfl) (fun _ _ _ h => h) (Or.inl ⟨by kernel_rfl, fun _ _ => by go_simp⟩) cG ?_
            refine wpAnyH_take (i := 4) (v := .string gn) rfl (by kernel_rfl) (by kernel_rfl) (by kernel_rfl) (fun _ _ _ h => h) (Or.inl ⟨by kernel_rfl, fun W hW => by (replace hW : W.cell? ⟨w0.heap.size, n, none⟩ = some (.string gn) := hW; go_simp)⟩) cG ?_
            refine wpAnyH_take (i := 5) (v := .string (T ++ gn)) rfl (by kernel_rfl) (by kernel_rfl) (by kernel_rfl) (fun _ _ _ h => h) (Or.inl ⟨by kernel_rfl, fun _ _ => by go_simp⟩) cG ?_
            refine wpAnyH_take (i := 11) (v := .string (T ++ gn ++ S.extract 0 u)) rfl (by kernel_rfl) (by kernel_rfl) (by kernel_rfl) (fun _ _ _ h => h) (Or.inl ⟨by kernel_rfl, fun _ _ => by go_simp⟩) cG ?_
            refine wpAnyH_ready (rs := [12, 16]) (by kernel_rfl) (by simp) ?_
            refine AllReadyH.cons rfl (fun K hK => ?_) (AllReadyH.cons rfl (fun K hK => ?_) AllReadyH.nil)
            · rw [if_pos (by kernel_rfl)]
              go_simp
              generalize hwb : World.alloc wa (.cells #[.string ⟨#[]⟩, .string ⟨#[32]⟩, .string ⟨#[32, 32, 59, 32, 120, 59, 34]⟩, .string ⟨#[32, 59]⟩, .string ⟨#[59, 255]⟩] 9) = wb
              have cH := new_cell hwb he5
              replace cG := keep_cell hwb cG
              replace hwb := Lib.hid (new_below hwb)
              refine hK.out _ _ cG (fun _ => ?_)
              clear hK K
              refine held_mono (S' := fun W => W.cell? ⟨w0.heap.size, n, none⟩ = some (.string gn) ∧ W.cell? ⟨wa.heap.size, m2, none⟩ = some (.string em)) (fun _ h => h.1) _ _ _ _ ?_
              refine wpAnyH_ready (rs := [16]) (by kernel_rfl) (by simp) ?_
              refine AllReadyH.cons rfl (fun K hK => ?_) AllReadyH.nil
              rw [if_pos (by kernel_rfl)]
              go_simp
              go_at_call 30
              refine (A2.out _ (w_below2 hw0.out hwa.out hwb.out)).mono ?_
              rintro e wx ⟨rfl, rfl⟩
              go_simp
              refine hK.out _ _ ⟨cG, cH⟩ (fun _ => ?_)
              clear hK K
              refine wpAnyH_ready (rs := [17]) (by kernel_rfl) (by simp) ?_
              refine AllReadyH.cons rfl (fun K hK => ?_) AllReadyH.nil
              rw [if_pos (by kernel_rfl)]
              go_simp
              go_at_call 29
              refine (M2.out _).mono ?_
              rintro e wx ⟨rfl, rfl⟩
              go_simp
              refine hK.out _ _ ⟨cG, cH⟩ (fun _ => ?_)
              clear hK K
              refine wpAnyH_take (i := 18) (v := .pointer (some ⟨wa.heap.size, m2, none⟩)) rfl (by kernel_rfl) (by kernel_rfl) (by kernel_rfl) (fun _ _ _ h => h) (Or.inl ⟨by kernel_rfl, fun _ _ => by go_simp⟩) ⟨cG, cH⟩ ?_
              refine wpAnyH_take (i := 19) (v := .string em) rfl (by kernel_rfl) (by kernel_rfl) (by kernel_rfl) (fun _ _ _ h => h) (Or.inl ⟨by kernel_rfl, fun W hW => by (obtain ⟨hA, hB⟩ := hW; go_simp)⟩) ⟨cG, cH⟩ ?_
              refine wpAnyH_take (i := 20) (v := .string (T ++ gn ++ S.extract 0 u ++ em)) rfl (by kernel_rfl) (by kernel_rfl) (by kernel_rfl) (fun _ _ _ h => h) (Or.inl ⟨by kernel_rfl, fun _ _ => by go_simp⟩) ⟨cG, cH⟩ ?_
              refine wpAnyH_take (i := 21) (v := .string (T ++ gn ++ S.extract 0 u ++ em ++ ⟨#[10]⟩)) rfl (by kernel_rfl) (by kernel_rfl) (by kernel_rfl) (fun _ _ _ h => h) (Or.inl ⟨by kernel_rfl, fun _ _ => by go_simp⟩) ⟨cG, cH⟩ ?_
              refine wpAnyH_take (i := 22) (v := .string (T ++ gn ++ S.extract 0 u ++ em ++ ⟨#[10]⟩)) rfl (by kernel_rfl) (by kernel_rfl) (by kernel_rfl) (fun _ _ _ h => h) (Or.inl ⟨by kernel_rfl, fun _ _ => by go_simp⟩) ⟨cG, cH⟩ ?_
              refine wpAnyH_done (by kernel_rfl) ?_ _
              go_wp2_with fail
              go_roundw
              case rel => exact ⟨k + 1, _, by omega, by go_num, rfl, hDS.out, hnew, Lib.hid (w_below hb6.out (w_below2 hw0.out hwa.out hwb.out))⟩
              case measure => simp [intOf]; omega
            · rw [if_pos (by kernel_rfl)]
              go_simp
              go_at_call 30
              refine (A2.out _ (w_below1 hw0.out hwa.out)).mono ?_
              rintro e wx ⟨rfl, rfl⟩
              go_simp
              refine hK.out _ _ cG (fun _ => ?_)
              clear hK K
              refine wpAnyH_ready (rs := [12, 17]) (by kernel_rfl) (by simp) ?_
              refine AllReadyH.cons rfl (fun K hK => ?_) (AllReadyH.cons rfl (fun K hK => ?_) AllReadyH.nil)
              · rw [if_pos (by kernel_rfl)]
                go_simp
                generalize hwb : World.alloc wa (.cells #[.string ⟨#[]⟩, .string ⟨#[32]⟩, .string ⟨#[32, 32, 59, 32, 120, 59, 34]⟩, .string ⟨#[32, 59]⟩, .string ⟨#[59, 255]⟩] 9) = wb
                have cH := new_cell hwb he5
                replace cG := keep_cell hwb cG
                replace hwb := Lib.hid (new_below hwb)
                refine hK.out _ _ cG (fun _ => ?_)
                clear hK K
                refine held_mono (S' := fun W => W.cell? ⟨w0.heap.size, n, none⟩ = some (.string gn) ∧ W.cell? ⟨wa.heap.size, m2, none⟩ = some (.string em)) (fun _ h => h.1) _ _ _ _ ?_
                refine wpAnyH_ready (rs := [17]) (by kernel_rfl) (by simp) ?_
                refine AllReadyH.cons rfl (fun K hK => ?_) AllReadyH.nil
                rw [if_pos (by kernel_rfl)]
                go_simp
                go_at_call 29
                refine (M2.out _).mono ?_
                rintro e wx ⟨rfl, rfl⟩
                go_simp
                refine hK.out _ _ ⟨cG, cH⟩ (fun _ => ?_)
                clear hK K
                refine wpAnyH_take (i := 18) (v := .pointer (some ⟨wa.heap.size, m2, none⟩)) rfl (by kernel_rfl) (by kernel_rfl) (by kernel_rfl) (fun _ _ _ h => h) (Or.inl ⟨by kernel_rfl, fun _ _ => by go_simp⟩) ⟨cG, cH⟩ ?_
                refine wpAnyH_take (i := 19) (v := .string em) rfl (by kernel_rfl) (by kernel_rfl) (by kernel_rfl) (fun _ _ _ h => h) (Or.inl ⟨by kernel_rfl, fun W hW => by (obtain ⟨hA, hB⟩ := hW; go_simp)⟩) ⟨cG, cH⟩ ?_
                refine wpAnyH_take (i := 20) (v := .string (T ++ gn ++ S.extract 0 u ++ em)) rfl (by kernel_rfl) (by kernel_rfl) (by kernel_rfl) (fun _ _ _ h => h) (Or.inl ⟨by kernel_rfl, fun _ _ => by go_simp⟩) ⟨cG, cH⟩ ?_
                refine wpAnyH_take (i := 21) (v := .string (T ++ gn ++ S.extract 0 u ++ em ++ ⟨#[10]⟩)) rfl (by kernel_rfl) (by kernel_rfl) (by kernel_rfl) (fun _ _ _ h => h) (Or.inl ⟨by kernel_rfl, fun _ _ => by go_simp⟩) ⟨cG, cH⟩ ?_
                refine wpAnyH_take (i := 22) (v := .string (T ++ gn ++ S.extract 0 u ++ em ++ ⟨#[10]⟩)) rfl (by kernel_rfl) (by kernel_rfl) (by kernel_rfl) (fun _ _ _ h => h) (Or.inl ⟨by kernel_rfl, fun _ _ => by go_simp⟩) ⟨cG, cH⟩ ?_
                refine wpAnyH_done (by kernel_rfl) ?_ _
                go_wp2_with fail
                go_roundw
                case rel => exact ⟨k + 1, _, by omega, by go_num, rfl, hDS.out, hnew, Lib.hid (w_below hb6.out (w_below2 hw0.out hwa.out hwb.out))⟩
                case measure => simp [intOf]; omega
              · rw [if_pos (by kernel_rfl)]
                go_simp
                go_at_call 29
                refine (M2.out _).mono ?_
                rintro e wx ⟨rfl, rfl⟩
                go_simp
                refine hK.out _ _ cG (fun _ => ?_)
                clear hK K
                refine wpAnyH_ready (rs := [12]) (by kernel_rfl) (by simp) ?_
                refine AllReadyH.cons rfl (fun K hK => ?_) AllReadyH.nil
                rw [if_pos (by kernel_rfl)]
                go_simp
                generalize hwb : World.alloc wa (.cells #[.string ⟨#[]⟩, .string ⟨#[32]⟩, .string ⟨#[32, 32, 59, 32, 120, 59, 34]⟩, .string ⟨#[32, 59]⟩, .string ⟨#[59, 255]⟩] 9) = wb
                have cH := new_cell hwb he5
                replace cG := keep_cell hwb cG
                replace hwb := Lib.hid (new_below hwb)
                refine hK.out _ _ cG (fun _ => ?_)
                clear hK K
                refine held_mono (S' := fun W => W.cell? ⟨w0.heap.size, n, none⟩ = some (.string gn) ∧ W.cell? ⟨wa.heap.size, m2, none⟩ = some (.string em)) (fun _ h => h.1) _ _ _ _ ?_
                refine wpAnyH_take (i := 18) (v := .pointer (some ⟨wa.heap.size, m2, none⟩)) rfl (by kernel_rfl) (by kernel_rfl) (by kernel_rfl) (fun _ _ _ h => h) (Or.inl ⟨by kernel_rfl, fun _ _ => by go_simp⟩) ⟨cG, cH⟩ ?_
                refine wpAnyH_take (i := 19) (v := .string em) rfl (by kernel_rfl) (by kernel_rfl) (by kernel_rfl) (fun _ _ _ h => h) (Or.inl ⟨by kernel_rfl, fun W hW => by (obtain ⟨hA, hB⟩ := hW; go_simp)⟩) ⟨cG, cH⟩ ?_
                refine wpAnyH_take (i := 20) (v := .string (T ++ gn ++ S.extract 0 u ++ em)) rfl (by kernel_rfl) (by kernel_rfl) (by kernel_rfl) (fun _ _ _ h => h) (Or.inl ⟨by kernel_rfl, fun _ _ => by go_simp⟩) ⟨cG, cH⟩ ?_
                refine wpAnyH_take (i := 21) (v := .string (T ++ gn ++ S.extract 0 u ++ em ++ ⟨#[10]⟩)) rfl (by kernel_rfl) (by kernel_rfl) (by kernel_rfl) (fun _ _ _ h => h) (Or.inl ⟨by kernel_rfl, fun _ _ => by go_simp⟩) ⟨cG, cH⟩ ?_
                refine wpAnyH_take (i := 22) (v := .string (T ++ gn ++ S.extract 0 u ++ em ++ ⟨#[10]⟩)) rfl (by kernel_rfl) (by kernel_rfl) (by kernel_rfl) (fun _ _ _ h => h) (Or.inl ⟨by kernel_rfl, fun _ _ => by go_simp⟩) ⟨cG, cH⟩ ?_
                refine wpAnyH_done (by kernel_rfl) ?_ _
                go_wp2_with fail
                go_roundw
                case rel => exact ⟨k + 1, _, by omega, by go_num, rfl, hDS.out, hnew, Lib.hid (w_below hb6.out (w_below2 hw0.out hwa.out hwb.out))⟩
                case measure => simp [intOf]; omega
          · rw [if_pos (by kernel_rfl)]
            go_simp
            generalize hwa : World.alloc w0 (.cells #[.string ⟨#[]⟩, .string ⟨#[32]⟩, .string ⟨#[32, 32, 59, 32, 120, 59, 34]⟩, .string ⟨#[32, 59]⟩, .string ⟨#[59, 255]⟩] 9) = wa
            have cH := new_cell hwa he5
            replace hwa := Lib.hid (new_below hwa)
            refine hK _ _ ?_
            clear hK K
            refine wpAny_of_held (S := fun W => W.cell? ⟨w0.heap.size, m2, none⟩ = some (.string em)) _ _ _ _ ?_
            refine wpAnyH_ready (rs := [1, 16]) (by kernel_rfl) (by simp) ?_
            refine AllReadyH.cons rfl (fun K hK => ?_) (AllReadyH.cons rfl (fun K hK => ?_) AllReadyH.nil)
            · rw [if_pos (by kernel_rfl)]
              go_simp
              generalize hwb : World.alloc wa (.cells #[.string ⟨#[]⟩, .string ⟨#[32, 32]⟩, .string ⟨#[32, 59, 10, 10]⟩, .string ⟨#[59, 32, 34, 97, 10, 32, 32, 32]⟩, .string ⟨#[10]⟩] 9) = wb
              have cG := new_cell hwb hg5
              replace cH := keep_cell hwb cH
              replace hwb := Lib.hid (new_below hwb)
              refine hK.out _ _ cH (fun _ => ?_)
              clear hK K
              refine held_mono (S' := fun W => W.cell? ⟨w0.heap.size, m2, none⟩ = some (.string em) ∧ W.cell? ⟨wa.heap.size, n, none⟩ = some (.string gn)) (fun _ h => h.1) _ _ _ _ ?_
              refine wpAnyH_take (i := 3) (v := .pointer (some ⟨wa.heap.size, n, none⟩)) rfl (by kernel_rfl) (by kernel_rfl) (by kernel_rfl) (fun _ _ _ h => h) (Or.inl ⟨by kernel_rfl, fun _ _ => by go_simp⟩) ⟨cH, cG⟩ ?_
              refine wpAnyH_take (i := 4) (v := .string gn) rfl (by kernel_rfl) (by kernel_rfl) (by kernel_rfl) (fun _ _ _ h => h) (Or.inl ⟨by kernel_rfl, fun W hW => by (obtain ⟨hA, hB⟩ := hW; go_simp)⟩) ⟨cH, cG⟩ ?_
              refine wpAnyH_take (i := 5) (v := .string (T ++ gn)) rfl (by kernel_rfl) (by kernel_rfl) (by kernel_rfl) (fun _ _ _ h => h) (Or.inl ⟨by kernel_rfl, fun _ _ => by go_simp⟩) ⟨cH, cG⟩ ?_
              refine wpAnyH_take (i := 11) (v := .string (T ++ gn ++ S.extract 0 u)) rfl (by kernel_rfl) (by kernel_rfl) (by kernel_rfl) (fun _ _ _ h => h) (Or.inl ⟨by kernel_rfl, fun _ _ => by go_simp⟩) ⟨cH, cG⟩ ?_
              refine wpAnyH_ready (rs := [16]) (by kernel_rfl) (by simp) ?_
              refine AllReadyH.cons rfl (fun K hK => ?_) AllReadyH.nil
              rw [if_pos (by kernel_rfl)]
              go_simp
              go_at_call 30
              refine (A2.out _ (w_below2 hw0.out hwa.out hwb.out)).mono ?_
              rintro e wx ⟨rfl, rfl⟩
              go_simp
              refine hK.out _ _ ⟨cH, cG⟩ (fun _ => ?_)
              clear hK K
              refine wpAnyH_ready (rs := [17]) (by kernel_rfl) (by simp) ?_
              refine AllReadyH.cons rfl (fun K hK => ?_) AllReadyH.nil
              rw [if_pos (by kernel_rfl)]
              go_simp
              go_at_call 29
              refine (M2.out _).mono ?_
              rintro e wx ⟨rfl, rfl⟩
              go_simp
              refine hK.out _ _ ⟨cH, cG⟩ (fun _ => ?_)
              clear hK K
              refine wpAnyH_take (i := 18) (v := .pointer (some ⟨w0.heap.size, m2, none⟩)) rfl (by kernel_rfl) (by kernel_rfl) (by kernel_rfl) (fun _ _ _ h => h) (Or.inl ⟨by kernel_rfl, fun _ _ => by go_simp⟩) ⟨cH, cG⟩ ?_
              refine wpAnyH_take (i := 19) (v := .string em) rfl (by kernel_rfl) (by kernel_rfl) (by kernel_rfl) (fun _ _ _ h => h) (Or.inl ⟨by kernel_rfl, fun W hW => by (obtain ⟨hA, hB⟩ := hW; go_simp)⟩) ⟨cH, cG⟩ ?_
              refine wpAnyH_take (i := 20) (v := .string (T ++ gn ++ S.extract 0 u ++ em)) rfl (by kernel_rfl) (by kernel_rfl) (by kernel_rfl) (fun _ _ _ h => h) (Or.inl ⟨by kernel_rfl, fun _ _ => by go_simp⟩) ⟨cH, cG⟩ ?_
              refine wpAnyH_take (i := 21) (v := .string (T ++ gn ++ S.extract 0 u ++ em ++ ⟨#[10]⟩)) rfl (by kernel_rfl) (by kernel_rfl) (by kernel_rfl) (fun _ _ _ h => h) (Or.inl ⟨by kernel_rfl, fun _ _ => by go_simp⟩) ⟨cH, cG⟩ ?_
              refine wpAnyH_take (i := 22) (v := .string (T ++ gn ++ S.extract 0 u ++ em ++ ⟨#[10]⟩)) rfl (by kernel_rfl) (by kernel_rfl) (by kernel_rfl) (fun _ _ _ h => h) (Or.inl ⟨by kernel_rfl, fun _ _ => by go_simp⟩) ⟨cH, cG⟩ ?_
              refine wpAnyH_done (by kernel_rfl) ?_ _
              go_wp2_with fail
              go_roundw
              case rel => exact ⟨k + 1, _, by omega, by go_num, rfl, hDS.out, hnew, Lib.hid (w_below hb6.out (w_below2 hw0.out hwa.out hwb.out))⟩
              case measure => simp [intOf]; omega
            · rw [if_pos (by kernel_rfl)]
              go_simp
              go_at_call 30
              refine (A2.out _ (w_below1 hw0.out hwa.out)).mono ?_
              rintro e wx ⟨rfl, rfl⟩
              go_simp
              refine hK.out _ _ cH (fun _ => ?_)
              clear hK K
              refine wpAnyH_ready (rs := [1, 17]) (by kernel_rfl) (by simp) ?_
              refine AllReadyH.cons rfl (fun K hK => ?_) (AllReadyH.cons rfl (fun K hK => ?_) AllReadyH.nil)
              · rw [if_pos (by kernel_rfl)]
                go_simp
                generalize hwb : World.alloc wa (.cells #[.string ⟨#[]⟩, .string ⟨#[32, 32]⟩, .string ⟨#[32, 59, 10, 10]⟩, .string ⟨#[59, 32, 34, 97, 10, 32, 32, 32]⟩, .string ⟨#[10]⟩] 9) = wb
                have cG := new_cell hwb hg5
                replace cH := keep_cell hwb cH
                replace hwb := Lib.hid (new_below hwb)
                refine hK.out _ _ cH (fun _ => ?_)
                clear hK K
                refine held_mono (S' := fun W => W.cell? ⟨w0.heap.size, m2, none⟩ = some (.string em) ∧ W.cell? ⟨wa.heap.size, n, none⟩ = some (.string gn)) (fun _ h => h.1) _ _ _ _ ?_
                refine wpAnyH_take (i := 3) (v := .pointer (some ⟨wa.heap.size, n, none⟩)) rfl (by kernel_rfl) (by kernel_rfl) (by kernel_rfl) (fun _ _ _ h => h) (Or.inl ⟨by kernel_rfl, fun _ _ => by go_simp⟩) ⟨cH, cG⟩ ?_
                refine wpAnyH_take (i := 4) (v := .string gn) rfl (by kernel_rfl) (by kernel_rfl) (by kernel_rfl) (fun _ _ _ h => h) (Or.inl ⟨by kernel_rfl, fun W hW => by (obtain ⟨hA, hB⟩ := hW; go_simp)⟩) ⟨cH, cG⟩ ?_
                refine wpAnyH_take (i := 5) (v := .string (T ++ gn)) rfl (by kernel_rfl) (by kernel_rfl) (by kernel_rfl) (fun _ _ _ h => h) (Or.inl ⟨by kernel_rfl, fun _ _ => by go_simp⟩) ⟨cH, cG⟩ ?_
                refine wpAnyH_take (i := 11) (v := .string (T ++ gn ++ S.extract 0 u)) rfl (by kernel_rfl) (by kernel_rfl) (by kernel_rfl) (fun _ _ _ h => h) (Or.inl ⟨by kernel_rfl, fun _ _ => by go_simp⟩) ⟨cH, cG⟩ ?_
                refine wpAnyH_ready (rs := [17]) (by kernel_rfl) (by simp) ?_
                refine AllReadyH.cons rfl (fun K hK => ?_) AllReadyH.nil
                rw [if_pos (by kernel_rfl)]
                go_simp
                go_at_call 29
                refine (M2.out _).mono ?_
                rintro e wx ⟨rfl, rfl⟩
                go_simp
                refine hK.out _ _ ⟨cH, cG⟩ (fun _ => ?_)
                clear hK K
                refine wpAnyH_take (i := 18) (v := .pointer (some ⟨w0.heap.size, m2, none⟩)) rfl (by kernel_rfl) (by kernel_rfl) (by kernel_rfl) (fun _ _ _ h => h) (Or.inl ⟨by kernel_rfl, fun _ _ => by go_simp⟩) ⟨cH, cG⟩ ?_
                refine wpAnyH_take (i := 19) (v := .string em) rfl (by kernel_rfl) (by kernel_rfl) (by kernel_rfl) (fun _ _ _ h => h) (Or.inl ⟨by kernel_rfl, fun W hW => by (obtain ⟨hA, hB⟩ := hW; go_simp)⟩) ⟨cH, cG⟩ ?_
                refine wpAnyH_take (i := 20) (v := .string (T ++ gn ++ S.extract 0 u ++ em)) rfl (by kernel_rfl) (by kernel_rfl) (by kernel_rfl) (fun _ _ _ h => h) (Or.inl ⟨by kernel_rfl, fun _ _ => by go_simp⟩) ⟨cH, cG⟩ ?_
                refine wpAnyH_take (i := 21) (v := .string (T ++ gn ++ S.extract 0 u ++ em ++ ⟨#[10]⟩)) rfl (by kernel_rfl) (by kernel_rfl) (by kernel_rfl) (fun _ _ _ h => h) (Or.inl ⟨by kernel_rfl, fun _ _ => by go_simp⟩) ⟨cH, cG⟩ ?_
                refine wpAnyH_take (i := 22) (v := .string (T ++ gn ++ S.extract 0 u ++ em ++ ⟨#[10]⟩)) rfl (by kernel_rfl) (by kernel_rfl) (by kernel_rfl) (fun _ _ _ h => h) (Or.inl ⟨by kernel_rfl, fun _ _ => by go_simp⟩) ⟨cH, cG⟩ ?_
                refine wpAnyH_done (by kernel_rfl) ?_ _
                go_wp2_with fail
                go_roundw
                case rel => exact ⟨k + 1, _, by omega, by go_num, rfl, hDS.out, hnew, Lib.hid (w_below hb6.out (w_below2 hw0.out hwa.out hwb.out))⟩
                case measure => simp [intOf]; omega
              · rw [if_pos (by kernel_rfl)]
                go_simp
                go_at_call 29
                refine (M2.out _).mono ?_
                rintro e wx ⟨rfl, rfl⟩
                go_simp
                refine hK.out _ _ cH (fun _ => ?_)
                clear hK K
                refine wpAnyH_take (i := 18) (v := .pointer (some ⟨w0.heap.size, m2, none⟩)) rfl (by kernel_rfl) (by kernel_rfl) (by kernel_rfl) (fun _ _ _ h => h) (Or.inl ⟨by kernel_rfl, fun _ _ => by go_simp⟩) cH ?_
                refine wpAnyH_take (i := 19) (v := .string em) rfl (by kernel_rfl) (by kernel_rfl) (by kernel_rfl) (fun _ _ _ h => h) (Or.inl ⟨by kernel_rfl, fun W hW => by (replace hW : W.cell? ⟨w0.heap.size, m2, none⟩ = some (.string em) := hW; go_simp)⟩) cH ?_
                refine wpAnyH_ready (rs := [1]) (by kernel_rfl) (by simp) ?_
                refine AllReadyH.cons rfl (fun K hK => ?_) AllReadyH.nil
                rw [if_pos (by kernel_rfl)]
                go_simp
                generalize hwb : World.alloc wa (.cells #[.string ⟨#[]⟩, .string ⟨#[32, 32]⟩, .string ⟨#[32, 59, 10, 10]⟩, .string ⟨#[59, 32, 34, 97, 10, 32, 32, 32]⟩, .string ⟨#[10]⟩] 9) = wb
                have cG := new_cell hwb hg5
                replace cH := keep_cell hwb cH
                replace hwb := Lib.hid (new_below hwb)
                refine hK.out _ _ cH (fun _ => ?_)
                clear hK K
                refine held_mono (S' := fun W => W.cell? ⟨w0.heap.size, m2, none⟩ = some (.string em) ∧ W.cell? ⟨wa.heap.size, n, none⟩ = some (.string gn)) (fun _ h => h.1) _ _ _ _ ?_
                refine wpAnyH_take (i := 3) (v := .pointer (some ⟨wa.heap.size, n, none⟩)) rfl (by kernel_rfl) (by kernel_rfl) (by kernel_rfl) (fun _ _ _ h => h) (Or.inl ⟨by kernel_rfl, fun _ _ => by go_simp⟩) ⟨cH, cG⟩ ?_
                refine wpAnyH_take (i := 4) (v := .string gn) rfl (by kernel_rfl) (by kernel_rfl) (by kernel_rfl) (fun _ _ _ h => h) (Or.inl ⟨by kernel_rfl, fun W hW => by (obtain ⟨hA, hB⟩ := hW; go_simp)⟩) ⟨cH, cG⟩ ?_
                refine wpAnyH_take (i := 5) (v := .string (T ++ gn)) rfl (by kernel_rfl) (by kernel_rfl) (by kernel_rfl) (fun _ _ _ h => h) (Or.inl ⟨by kernel_rfl, fun _ _ => by go_simp⟩) ⟨cH, cG⟩ ?_
                refine wpAnyH_take (i := 11) (v := .string (T ++ gn ++ S.extract 0 u)) rfl (by kernel_rfl) (by kernel_rfl) (by kernel_rfl) (fun _ _ _ h => h) (Or.inl ⟨by kernel_rfl, fun _ _ => by go_simp⟩) ⟨cH, cG⟩ ?_
                refine wpAnyH_take (i := 20) (v := .string (T ++ gn ++ S.extract 0 u ++ em)) rfl (by kernel_rfl) (by kernel_rfl) (by kernel_rfl) (fun _ _ _ h => h) (Or.inl ⟨by kernel_rfl, fun _ _ => by go_simp⟩) ⟨cH, cG⟩ ?_
                refine wpAnyH_take (i := 21) (v := .string (T ++ gn ++ S.extract 0 u ++ em ++ ⟨#[10]⟩)) rfl (by kernel_rfl) (by kernel_rfl) (by kernel_rfl) (fun _ _ _ h => h) (Or.inl ⟨by kernel_rfl, fun _ _ => by go_simp⟩) ⟨cH, cG⟩ ?_
                refine wpAnyH_take (i := 22) (v := .string (T ++ gn ++ S.extract 0 u ++ em ++ ⟨#[10]⟩)) rfl (by kernel_rfl) (by kernel_rfl) (by kernel_rfl) (fun _ _ _ h => h) (Or.inl ⟨by kernel_rfl, fun _ _ => by go_simp⟩) ⟨cH, cG⟩ ?_
                refine wpAnyH_done (by kernel_rfl) ?_ _
                go_wp2_with fail
                go_roundw
                case rel => exact ⟨k + 1, _, by omega, by go_num, rfl, hDS.out, hnew, Lib.hid (w_below hb6.out (w_below2 hw0.out hwa.out hwb.out))⟩
                case measure => simp [intOf]; omega
          · rw [if_pos (by kernel_rfl)]
            go_simp
            go_at_call 30
            refine (A2.out _ hw0.out).mono ?_
            rintro e wx ⟨rfl, rfl⟩
            go_simp
            refine hK _ _ ?_
            clear hK K
            refine wpAny_ready (rs := [1, 12, 17]) (by kernel_rfl) (by simp) ?_
            refine AllReady.cons rfl (fun K hK => ?_) (AllReady.cons rfl (fun K hK => ?_) (AllReady.cons rfl (fun K hK => ?_) AllReady.nil))
            · rw [if_pos (by kernel_rfl)]
              go_simp
              generalize hwa : World.alloc w0 (.cells #[.string ⟨#[]⟩, .string ⟨#[32, 32]⟩, .string ⟨#[32, 59, 10, 10]⟩, .string ⟨#[59, 32, 34, 97, 10, 32, 32, 32]⟩, .string ⟨#[10]⟩] 9) = wa
              have cG := new_cell hwa hg5
              replace hwa := Lib.hid (new_below hwa)
              refine hK _ _ ?_
              clear hK K
              refine wpAny_of_held (S := fun W => W.cell? ⟨w0.heap.size, n, none⟩ = some (.string gn)) _ _ _ _ ?_
              refine wpAnyH_take (i := 3) (v := .pointer (some ⟨w0.heap.size, n, none⟩)) rfl (by kernel_rfl) (by kernel_rfl) (by kernel_rfl) (fun _ _ _ h => h) (Or.inl ⟨by kernel_rfl, fun _ _ => by go_simp⟩) cG ?_
              refine wpAnyH_take (i := 4) (v := .string gn) rfl (by kernel_rfl) (by kernel_rfl) (by kernel_rfl) (fun _ _ _ h => h) (Or.inl ⟨by kernel_rfl, fun W hW => by (replace hW : W.cell? ⟨w0.heap.size, n, none⟩ = some (.string gn) := hW; go_simp)⟩) cG ?_
              refine wpAnyH_take (i := 5) (v := .string (T ++ gn)) rfl (by kernel_rfl) (by kernel_rfl) (by kernel_rfl) (fun _ _ _ h => h) (Or.inl ⟨by kernel_rfl, fun _ _ => by go_simp⟩) cG ?_
              refine wpAnyH_take (i := 11) (v := .string (T ++ gn ++ S.extract 0 u)) rfl (by kernel_rfl) (by kernel_rfl) (by kernel_rfl) (fun _ _ _ h => h) (Or.inl ⟨by kernel_rfl, fun _ _ => by go_simp⟩) cG ?_
              refine wpAnyH_ready (rs := [12, 17]) (by kernel_rfl) (by simp) ?_
              refine AllReadyH.cons rfl (fun K hK => ?_) (AllReadyH.cons rfl (fun K hK => ?_) AllReadyH.nil)
              · rw [if_pos (by kernel_rfl)]
                go_simp
                generalize hwb : World.alloc wa (.cells #[.string ⟨#[]⟩, .string ⟨#[32]⟩, .string ⟨#[32, 32, 59, 32, 120, 59, 34]⟩, .string ⟨#[32, 59]⟩, .string ⟨#[59, 255]⟩] 9) = wb
                have cH := new_cell hwb he5
                replace cG := keep_cell hwb cG
                replace hwb := Lib.hid (new_below hwb)
                refine hK.out _ _ cG (fun _ => ?_)
                clear hK K
                refine held_mono (S' := fun W => W.cell? ⟨w0.heap.size, n, none⟩ = some (.string gn) ∧ W.cell? ⟨wa.heap.size, m2, none⟩ = some (.string em)) (fun _ h => h.1) _ _ _ _ ?_
                refine wpAnyH_ready (rs := [17]) (by kernel_rfl) (by simp) ?_
                refine AllReadyH.cons rfl (fun K hK => ?_) AllReadyH.nil
                rw [if_pos (by kernel_rfl)]
                go_simp
                go_at_call 29
                refine (M2.out _).mono ?_
                rintro e wx ⟨rfl, rfl⟩
                go_simp
                refine hK.out _ _ ⟨cG, cH⟩ (fun _ => ?_)
                clear hK K
                refine wpAnyH_take (i := 18) (v := .pointer (some ⟨wa.heap.size, m2, none⟩)) rfl (by kernel_rfl) (by kernel_rfl) (by kernel_rfl) (fun _ _ _ h => h) (Or.inl ⟨by kernel_rfl, fun _ _ => by go_simp⟩) ⟨cG, cH⟩ ?_
                refine wpAnyH_take (i := 19) (v := .string em) rfl (by kernel_rfl) (by kernel_rfl) (by kernel_rfl) (fun _ _ _ h => h) (Or.inl ⟨by kernel_rfl, fun W hW => by (obtain ⟨hA, hB⟩ := hW; go_simp)⟩) ⟨cG, cH⟩ ?_
                refine wpAnyH_take (i := 20) (v := .string (T ++ gn ++ S.extract 0 u ++ em)) rfl (by kernel_rfl) (by kernel_rfl) (by kernel_rfl) (fun _ _ _ h => h) (Or.inl ⟨by kernel_rfl, fun _ _ => by go_simp⟩) ⟨cG, cH⟩ ?_
                refine wpAnyH_take (i := 21) (v := .string (T ++ gn ++ S.extract 0 u ++ em ++ ⟨#[10]⟩)) rfl (by kernel_rfl) (by kernel_rfl) (by kernel_rfl) (fun _ _ _ h => h) (Or.inl ⟨by kernel_rfl, fun _ _ => by go_simp⟩) ⟨cG, cH⟩ ?_
                refine wpAnyH_take (i := 22) (v := .string (T ++ gn ++ S.extract 0 u ++ em ++ ⟨#[10]⟩)) rfl (by kernel_rfl) (by kernel_rfl) (by kernel_rfl) (fun _ _ _ h => h) (Or.inl ⟨by kernel_rfl, fun _ _ => by go_simp⟩) ⟨cG, cH⟩ ?_
                refine wpAnyH_done (by kernel_rfl) ?_ _
                go_wp2_with fail
                go_roundw
                case rel => exact ⟨k + 1, _, by omega, by go_num, rfl, hDS.out, hnew, Lib.hid (w_below hb6.out (w_below2 hw0.out hwa.out hwb.out))⟩
                case measure => simp [intOf]; omega
              · rw [if_pos (by kernel_rfl)]
                go_simp
                go_at_call 29
                refine (M2.out _).mono ?_
                rintro e wx ⟨rfl, rfl⟩
                go_simp
                refine hK.out _ _ cG (fun _ => ?_)
                clear hK K
                refine wpAnyH_ready (rs := [12]) (by kernel_rfl) (by simp) ?_
                refine AllReadyH.cons rfl (fun K hK => ?_) AllReadyH.nil
                rw [if_pos (by kernel_rfl)]
                go_simp
                generalize hwb : World.alloc wa (.cells #[.string ⟨#[]⟩, .string ⟨#[32]⟩, .string ⟨#[32, 32, 59, 32, 120, 59, 34]⟩, .string ⟨#[32, 59]⟩, .string ⟨#[59, 255]⟩] 9) = wb
                have cH := new_cell hwb he5
                replace cG := keep_cell hwb cG
                replace hwb := Lib.hid (new_below hwb)
                refine hK.out _ _ cG (fun _ => ?_)
                clear hK K
                refine held_mono (S' := fun W => W.cell? ⟨w0.heap.size, n, none⟩ = some (.string gn) ∧ W.cell? ⟨wa.heap.size, m2, none⟩ = some (.string em)) (fun _ h => h.1) _ _ _ _ ?_
                refine wpAnyH_take (i := 18) (v := .pointer (some ⟨wa.heap.size, m2, none⟩)) rfl (by kernel_rfl) (by kernel_rfl) (by kernel_rfl) (fun _ _ _ h => h) (Or.inl ⟨by kernel_rfl, fun _ _ => by go_simp⟩) ⟨cG, cH⟩ ?_
                refine wpAnyH_take (i := 19) (v := .string em) rfl (by kernel_rfl) (by kernel_rfl) (by kernel_rfl) (fun _ _ _ h => h) (Or.inl ⟨by kernel_rfl, fun W hW => by (obtain ⟨hA, hB⟩ := hW; go_simp)⟩) ⟨cG, cH⟩ ?_
                refine wpAnyH_take (i := 20) (v := .string (T ++ gn ++ S.extract 0 u ++ em)) rfl (by kernel_rfl) (by kernel_rfl) (by kernel_rfl) (fun _ _ _ h => h) (Or.inl ⟨by kernel_rfl, fun _ _ => by go_simp⟩) ⟨cG, cH⟩ ?_
                refine wpAnyH_take (i := 21) (v := .string (T ++ gn ++ S.extract 0 u ++ em ++ ⟨#[10]⟩)) rfl (by kernel_rfl) (by kernel_rfl) (by kernel_rfl) (fun _ _ _ h => h) (Or.inl ⟨by kernel_rfl, fun _ _ => by go_simp⟩) ⟨cG, cH⟩ ?_
                refine wpAnyH_take (i := 22) (v := .string (T ++ gn ++ S.extract 0 u ++ em ++ ⟨#[10]⟩)) rfl (by kernel_rfl) (by kernel_rfl) (by kernel_rfl) (fun _ _ _ h => h) (Or.inl ⟨by kernel_rfl, fun _ _ => by go_simp⟩) ⟨cG, cH⟩ ?_
                refine wpAnyH_done (by kernel_rfl) ?_ _
                go_wp2_with fail
                go_roundw
                case rel => exact ⟨k + 1, _, by omega, by go_num, rfl, hDS.out, hnew, Lib.hid (w_below hb6.out (w_below2 hw0.out hwa.out hwb.out))⟩
                case measure => simp [intOf]; omega
            · rw [if_pos (by kernel_rfl)]
              go_simp
              generalize hwa : World.alloc w0 (.cells #[.string ⟨#[]⟩, .string ⟨#[32]⟩, .string ⟨#[32, 32, 59, 32, 120, 59, 34]⟩, .string ⟨#[32, 59]⟩, .string ⟨#[59, 255]⟩] 9) = wa
              have cH := new_cell hwa he5
              replace hwa := Lib.hid (new_below hwa)
              refine hK _ _ ?_
              clear hK K
              refine wpAny_of_held (S := fun W => W.cell? ⟨w0.heap.size, m2, none⟩ = some (.string em)) _ _ _ _ ?_
              refine wpAnyH_ready (rs := [1, 17]) (by kernel_rfl) (by simp) ?_
              refine AllReadyH.cons rfl (fun K hK => ?_) (AllReadyH.cons rfl (fun K hK => ?_) AllReadyH.nil)
              · rw [if_pos (by kernel_rfl)]
                go_simp
                generalize hwb : World.alloc wa (.cells #[.string ⟨#[]⟩, .string ⟨#[32, 32]⟩, .string ⟨#[32, 59, 10, 10]⟩, .string ⟨#[59, 32, 34, 97, 10, 32, 32, 32]⟩, .string ⟨#[10]⟩] 9) = wb
                have cG := new_cell hwb hg5
                replace cH := keep_cell hwb cH
                replace hwb := Lib.hid (new_below hwb)
                refine hK.out _ _ cH (fun _ => ?_)
                clear hK K
                refine held_mono (S' := fun W => W.cell? ⟨w0.heap.size, m2, none⟩ = some (.string em) ∧ W.cell? ⟨wa.heap.size, n, none⟩ = some (.string gn)) (fun _ h => h.1) _ _ _ _ ?_
                refine wpAnyH_take (i := 3) (v := .pointer (some ⟨wa.heap.size, n, none⟩)) rfl (by kernel_rfl) (by kernel_rfl) (by kernel_rfl) (fun _ _ _ h => h) (Or.inl ⟨by kernel_rfl, fun _ _ => by go_simp⟩) ⟨cH, cG⟩ ?_
                refine wpAnyH_take (i := 4) (v := .string gn) rfl (by kernel_rfl) (by kernel_rfl) (by kernel_rfl) (fun _ _ _ h => h) (Or.inl ⟨by kernel_rfl, fun W hW => by (obtain ⟨hA, hB⟩ := hW; go_simp)⟩) ⟨cH, cG⟩ ?_
                refine wpAnyH_take (i := 5) (v := .string (T ++ gn)) rfl (by kernel_rfl) (by kernel_rfl) (by kernel_rfl) (fun _ _ _ h => h) (Or.inl ⟨by kernel_rfl, fun _ _ => by go_simp⟩) ⟨cH, cG⟩ ?_
                refine wpAnyH_take (i := 11) (v := .string (T ++ gn ++ S.extract 0 u)) rfl (by kernel_rfl) (by kernel_rfl) (by kernel_rfl) (fun _ _ _ h => h) (Or.inl ⟨by kernel_rfl, fun _ _ => by go_simp⟩) ⟨cH, cG⟩ ?_
                refine wpAnyH_ready (rs := [17]) (by kernel_rfl) (by simp) ?_
                refine AllReadyH.cons rfl (fun K hK => ?_) AllReadyH.nil
                rw [if_pos (by kernel_rfl)]
                go_simp
                go_at_call 29
                refine (M2.out _).mono ?_
                rintro e wx ⟨rfl, rfl⟩
                go_simp
                refine hK.out _ _ ⟨cH, cG⟩ (fun _ => ?_)
                clear hK K
                refine wpAnyH_take (i := 18) (v := .pointer (some ⟨w0.heap.size, m2, none⟩)) rfl (by kernel_rfl) (by kernel_rfl) (by kernel_rfl) (fun _ _ _ h => h) (Or.inl ⟨by kernel_rfl, fun _ _ => by go_simp⟩) ⟨cH, cG⟩ ?_
                refine wpAnyH_take (i := 19) (v := .string em) rfl (by kernel_rfl) (by kernel_rfl) (by kernel_rfl) (fun _ _ _ h => h) (Or.inl ⟨by kernel_rfl, fun W hW => by (obtain ⟨hA, hB⟩ := hW; go_simp)⟩) ⟨cH, cG⟩ ?_
                refine wpAnyH_take (i := 20) (v := .string (T ++ gn ++ S.extract 0 u ++ em)) rfl (by kernel_rfl) (by kernel_rfl) (by kernel_rfl) (fun _ _ _ h => h) (Or.inl ⟨by kernel_rfl, fun _ _ => by go_simp⟩) ⟨cH, cG⟩ ?_
                refine wpAnyH_take (i := 21) (v := .string (T ++ gn ++ S.extract 0 u ++ em ++ ⟨#[10]⟩)) rfl (by kernel_rfl) (by kernel_rfl) (by kernel_rfl) (fun _ _ _ h => h) (Or.inl ⟨by kernel_rfl, fun _ _ => by go_simp⟩) ⟨cH, cG⟩ ?_
                refine wpAnyH_take (i := 22) (v := .string (T ++ gn ++ S.extract 0 u ++ em ++ ⟨#[10]⟩)) rfl (by kernel_rfl) (by kernel_rfl) (by kernel_rfl) (fun _ _ _ h => h) (Or.inl ⟨by kernel_rfl, fun _ _ => by go_simp⟩) ⟨cH, cG⟩ ?_
                refine wpAnyH_done (by kernel_rfl) ?_ _
                go_wp2_with fail
                go_roundw
                case rel => exact ⟨k + 1, _, by omega, by go_num, rfl, hDS.out, hnew, Lib.hid (w_below hb6.out (w_below2 hw0.out hwa.out hwb.out))⟩
                case measure => simp [intOf]; omega
              · rw [if_pos (by kernel_rfl)]
                go_simp
                go_at_call 29
                refine (M2.out _).mono ?_
                rintro e wx ⟨rfl, rfl⟩
                go_simp
                refine hK.out _ _ cH (fun _ => ?_)
                clear hK K
                refine wpAnyH_take (i := 18) (v := .pointer (some ⟨w0.heap.size, m2, none⟩)) rfl (by kernel_rfl) (by kernel_rfl) (by kernel_rfl) (fun _ _ _ h => h) (Or.inl ⟨by kernel_rfl, fun _ _ => by go_simp⟩) cH ?_
                refine wpAnyH_take (i := 19) (v := .string em) rfl (by kernel_rfl) (by kernel_rfl) (by kernel_rfl) (fun _ _ _ h => h) (Or.inl ⟨by kernel_rfl, fun W hW => by (replace hW : W.cell? ⟨w0.heap.size, m2, none⟩ = some (.string em) := hW; go_simp)⟩) cH ?_
                refine wpAnyH_ready (rs := [1]) (by kernel_rfl) (by simp) ?_
                refine AllReadyH.cons rfl (fun K hK => ?_) AllReadyH.nil
                rw [if_pos (by kernel_rfl)]
                go_simp
                generalize hwb : World.alloc wa (.cells #[.string ⟨#[]⟩, .string ⟨#[32, 32]⟩, .string ⟨#[32, 59, 10, 10]⟩, .string ⟨#[59, 32, 34, 97, 10, 32, 32, 32]⟩, .string ⟨#[10]⟩] 9) = wb
                have cG := new_cell hwb hg5
                replace cH := keep_cell hwb cH
                replace hwb := Lib.hid (new_below hwb)
                refine hK.out _ _ cH (fun _ => ?_)
                clear hK K
                refine held_mono (S' := fun W => W.cell? ⟨w0.heap.size, m2, none⟩ = some (.string em) ∧ W.cell? ⟨wa.heap.size, n, none⟩ = some (.string gn)) (fun _ h => h.1) _ _ _ _ ?_
                refine wpAnyH_take (i := 3) (v := .pointer (some ⟨wa.heap.size, n, none⟩)) rfl (by kernel_rfl) (by kernel_rfl) (by kernel_rfl) (fun _ _ _ h => h) (Or.inl ⟨by kernel_rfl, fun _ _ => by go_simp⟩) ⟨cH, cG⟩ ?_
                refine wpAnyH_take (i := 4) (v := .string gn) rfl (by kernel_rfl) (by kernel_rfl) (by kernel_rfl) (fun _ _ _ h => h) (Or.inl ⟨by kernel_rfl, fun W hW => by (obtain ⟨hA, hB⟩ := hW; go_simp)⟩) ⟨cH, cG⟩ ?_
                refine wpAnyH_take (i := 5) (v := .string (T ++ gn)) rfl (by kernel_rfl) (by kernel_rfl) (by kernel_rfl) (fun _ _ _ h => h) (Or.inl ⟨by kernel_rfl, fun _ _ => by go_simp⟩) ⟨cH, cG⟩ ?_
                refine wpAnyH_take (i := 11) (v := .string (T ++ gn ++ S.extract 0 u)) rfl (by kernel_rfl) (by kernel_rfl) (by kernel_rfl) (fun _ _ _ h => h) (Or.inl ⟨by kernel_rfl, fun _ _ => by go_simp⟩) ⟨cH, cG⟩ ?_
                refine wpAnyH_take (i := 20) (v := .string (T ++ gn ++ S.extract 0 u ++ em)) rfl (by kernel_rfl) (by kernel_rfl) (by kernel_rfl) (fun _ _ _ h => h) (Or.inl ⟨by kernel_rfl, fun _ _ => by go_simp⟩) ⟨cH, cG⟩ ?_
                refine wpAnyH_take (i := 21) (v := .string (T ++ gn ++ S.extract 0 u ++ em ++ ⟨#[10]⟩)) rfl (by kernel_rfl) (by kernel_rfl) (by kernel_rfl) (fun _ _ _ h => h) (Or.inl ⟨by kernel_rfl, fun _ _ => by go_simp⟩) ⟨cH, cG⟩ ?_
                refine wpAnyH_take (i := 22) (v := .string (T ++ gn ++ S.extract 0 u ++ em ++ ⟨#[10]⟩)) rfl (by kernel_rfl) (by kernel_rfl) (by kernel_rfl) (fun _ _ _ h => h) (Or.inl ⟨by kernel_rfl, fun _ _ => by go_simp⟩) ⟨cH, cG⟩ ?_
                refine wpAnyH_done (by kernel_rfl) ?_ _
                go_wp2_with fail
                go_roundw
                case rel => exact ⟨k + 1, _, by omega, by go_num, rfl, hDS.out, hnew, Lib.hid (w_below hb6.out (w_below2 hw0.out hwa.out hwb.out))⟩
                case measure => simp [intOf]; omega
            · rw [if_pos (by kernel_rfl)]
              go_simp
              go_at_call 29
              refine (M2.out _).mono ?_
              rintro e wx ⟨rfl, rfl⟩
              go_simp
              refine hK _ _ ?_
              clear hK K
              refine wpAny_ready (rs := [1, 12]) (by kernel_rfl) (by simp) ?_
              refine AllReady.cons rfl (fun K hK => ?_) (AllReady.cons rfl (fun K hK => ?_) AllReady.nil)
              · rw [if_pos (by kernel_rfl)]
                go_simp
                generalize hwa : World.alloc w0 (.cells #[.string ⟨#[]⟩, .string ⟨#[32, 32]⟩, .string ⟨#[32, 59, 10, 10]⟩, .string ⟨#[59, 32, 34, 97, 10, 32, 32, 32]⟩, .string ⟨#[10]⟩] 9) = wa
                have cG := new_cell hwa hg5
                replace hwa := Lib.hid (new_below hwa)
                refine hK _ _ ?_
                clear hK K
                refine wpAny_of_held (S := fun W => W.cell? ⟨w0.heap.size, n, none⟩ = some (.string gn)) _ _ _ _ ?_
                refine wpAnyH_take (i := 3) (v := .pointer (some ⟨w0.heap.size, n, none⟩)) rfl (by kernel_rfl) (by kernel_rfl) (by kernel_rfl) (fun _ _ _ h => h) (Or.inl ⟨by kernel_rfl, fun _ _ => by go_simp⟩) cG ?_
                refine wpAnyH_take (i := 4) (v := .string gn) rfl (by kernel_rfl) (by kernel_rfl) (by kernel_rfl) (fun _ _ _ h => h) (Or.inl ⟨by kernel_rfl, fun W hW => by (replace hW : W.cell? ⟨w0.heap.size, n, none⟩ = some (.string gn) := hW; go_simp)⟩) cG ?_
                refine wpAnyH_take (i := 5) (v := .string (T ++ gn)) rfl (by kernel_rfl) (by kernel_rfl) (by kernel_rfl) (fun _ _ _ h => h) (Or.inl ⟨by kernel_rfl, fun _ _ => by go_simp⟩) cG ?_
                refine wpAnyH_take (i := 11) (v := .string (T ++ gn ++ S.extract 0 u)) rfl (by kernel_rfl) (by kernel_rfl) (by kernel_rfl) (fun _ _ _ h => h) (Or.inl ⟨by kernel_rfl, fun _ _ => by go_simp⟩) cG ?_
                refine wpAnyH_ready (rs := [12]) (by kernel_rfl) (by simp) ?_
                refine AllReadyH.cons rfl (fun K hK => ?_) AllReadyH.nil
                rw [if_pos (by kernel_rfl)]
                go_simp
                generalize hwb : World.alloc wa (.cells #[.string ⟨#[]⟩, .string ⟨#[32]⟩, .string ⟨#[32, 32, 59, 32, 120, 59, 34]⟩, .string ⟨#[32, 59]⟩, .string ⟨#[59, 255]⟩] 9) = wb
                have cH := new_cell hwb he5
                replace cG := keep_cell hwb cG
                replace hwb := Lib.hid (new_below hwb)
                refine hK.out _ _ cG (fun _ => ?_)
                clear hK K
                refine held_mono (S' := fun W => W.cell? ⟨w0.heap.size, n, none⟩ = some (.string gn) ∧ W.cell? ⟨wa.heap.size, m2, none⟩ = some (.string em)) (fun _ h => h.1) _ _ _ _ ?_
                refine wpAnyH_take (i := 18) (v := .pointer (some ⟨wa.heap.size, m2, none⟩)) rfl (by kernel_rfl) (by kernel_rfl) (by kernel_rfl) (fun _ _ _ h => h) (Or.inl ⟨by kernel_rfl, fun _ _ => by go_simp⟩) ⟨cG, cH⟩ ?_
                refine wpAnyH_take (i := 19) (v := .string em) rfl (by kernel_rfl) (by kernel_rfl) (by kernel_rfl) (fun _ _ _ h => h) (Or.inl ⟨by kernel_rfl, fun W hW => by (obtain ⟨hA, hB⟩ := hW; go_simp)⟩) ⟨cG, cH⟩ ?_
                refine wpAnyH_take (i := 20) (v := .string (T ++ gn ++ S.extract 0 u ++ em)) rfl (by kernel_rfl) (by kernel_rfl) (by kernel_rfl) (fun _ _ _ h => h) (Or.inl ⟨by kernel_rfl, fun _ _ => by go_simp⟩) ⟨cG, cH⟩ ?_
                refine wpAnyH_take (i := 21) (v := .string (T ++ gn ++ S.extract 0 u ++ em ++ ⟨#[10]⟩)) rfl (by kernel_rfl) (by kernel_rfl) (by kernel_rfl) (fun _ _ _ h => h) (Or.inl ⟨by kernel_rfl, fun _ _ => by go_simp⟩) ⟨cG, cH⟩ ?_
                refine wpAnyH_take (i := 22) (v := .string (T ++ gn ++ S.extract 0 u ++ em ++ ⟨#[10]⟩)) rfl (by kernel_rfl) (by kernel_rfl) (by kernel_rfl) (fun _ _ _ h => h) (Or.inl ⟨by kernel_rfl, fun _ _ => by go_simp⟩) ⟨cG, cH⟩ ?_
                refine wpAnyH_done (by kernel_rfl) ?_ _
                go_wp2_with fail
                go_roundw
                case rel => exact ⟨k + 1, _, by omega, by go_num, rfl, hDS.out, hnew, Lib.hid (w_below hb6.out (w_below2 hw0.out hwa.out hwb.out))⟩
                case measure => simp [intOf]; omega
              · rw [if_pos (by kernel_rfl)]
                go_simp
                generalize hwa : World.alloc w0 (.cells #[.string ⟨#[]⟩, .string ⟨#[32]⟩, .string ⟨#[32, 32, 59, 32, 120, 59, 34]⟩, .string ⟨#[32, 59]⟩, .string ⟨#[59, 255]⟩] 9) = wa
                have cH := new_cell hwa he5
                replace hwa := Lib.hid (new_below hwa)
                refine hK _ _ ?_
                clear hK K
                refine wpAny_of_held (S := fun W => W.cell? ⟨w0.heap.size, m2, none⟩ = some (.string em)) _ _ _ _ ?_
                refine wpAnyH_take (i := 18) (v := .pointer (some ⟨w0.heap.size, m2, none⟩)) rfl (by kernel_rfl) (by kernel_rfl) (by kernel_rfl) (fun _ _ _ h => h) (Or.inl ⟨by kernel_rfl, fun _ _ => by go_simp⟩) cH ?_
                refine wpAnyH_take (i := 19) (v := .string em) rfl (by kernel_rfl) (by kernel_rfl) (by kernel_rfl) (fun _ _ _ h => h) (Or.inl ⟨by kernel_rfl, fun W hW => by (replace hW : W.cell? ⟨w0.heap.size, m2, none⟩ = some (.string em) := hW; go_simp)⟩) cH ?_
                refine wpAnyH_ready (rs := [1]) (by kernel_rfl) (by simp) ?_
                refine AllReadyH.cons rfl (fun K hK => ?_) AllReadyH.nil
                rw [if_pos (by kernel_rfl)]
                go_simp
                generalize hwb : World.alloc wa (.cells #[.string ⟨#[]⟩, .string ⟨#[32, 32]⟩, .string ⟨#[32, 59, 10, 10]⟩, .string ⟨#[59, 32, 34, 97, 10, 32, 32, 32]⟩, .string ⟨#[10]⟩] 9) = wb
                have cG := new_cell hwb hg5
                replace cH := keep_cell hwb cH
                replace hwb := Lib.hid (new_below hwb)
                refine hK.out _ _ cH (fun _ => ?_)
                clear hK K
                refine held_mono (S' := fun W => W.cell? ⟨w0.heap.size, m2, none⟩ = some (.string em) ∧ W.cell? ⟨wa.heap.size, n, none⟩ = some (.string gn)) (fun _ h => h.1) _ _ _ _ ?_
                refine wpAnyH_take (i := 3) (v := .pointer (some ⟨wa.heap.size, n, none⟩)) rfl (by kernel_rfl) (by kernel_rfl) (by kernel_rfl) (fun _ _ _ h => h) (Or.inl ⟨by kernel_rfl, fun _ _ => by go_simp⟩) ⟨cH, cG⟩ ?_
                refine wpAnyH_take (i := 4) (v := .string gn) rfl (by kernel_rfl) (by kernel_rfl) (by kernel_rfl) (fun _ _ _ h => h) (Or.inl ⟨by kernel_rfl, fun W hW => by (obtain ⟨hA, hB⟩ := hW; go_simp)⟩) ⟨cH, cG⟩ ?_
                refine wpAnyH_take (i := 5) (v := .string (T ++ gn)) rfl (by kernel_rfl) (by kernel_rfl) (by kernel_rfl) (fun _ _ _ h => h) (Or.inl ⟨by kernel_rfl, fun _ _ => by go_simp⟩) ⟨cH, cG⟩ ?_
                refine wpAnyH_take (i := 11) (v := .string (T ++ gn ++ S.extract 0 u)) rfl (by kernel_rfl) (by kernel_rfl) (by kernel_rfl) (fun _ _ _ h => h) (Or.inl ⟨by kernel_rfl, fun _ _ => by go_simp⟩) ⟨cH, cG⟩ ?_
                refine wpAnyH_take (i := 20) (v := .string (T ++ gn ++ S.extract 0 u ++ em)) rfl (by kernel_rfl) (by kernel_rfl) (by kernel_rfl) (fun _ _ _ h => h) (Or.inl ⟨by kernel_rfl, fun _ _ => by go_simp⟩) ⟨cH, cG⟩ ?_
                refine wpAnyH_take (i := 21) (v := .string (T ++ gn ++ S.extract 0 u ++ em ++ ⟨#[10]⟩)) rfl (by kernel_rfl) (by kernel_rfl) (by kernel_rfl) (fun _ _ _ h => h) (Or.inl ⟨by kernel_rfl, fun _ _ => by go_simp⟩) ⟨cH, cG⟩ ?_
                refine wpAnyH_take (i := 22) (v := .string (T ++ gn ++ S.extract 0 u ++ em ++ ⟨#[10]⟩)) rfl (by kernel_rfl) (by kernel_rfl) (by kernel_rfl) (fun _ _ _ h => h) (Or.inl ⟨by kernel_rfl, fun _ _ => by go_simp⟩) ⟨cH, cG⟩ ?_
                refine wpAnyH_done (by kernel_rfl) ?_ _
                go_wp2_with fail
                go_roundw
                case rel => exact ⟨k + 1, _, by omega, by go_num, rfl, hDS.out, hnew, Lib.hid (w_below hb6.out (w_below2 hw0.out hwa.out hwb.out))⟩
                case measure => simp [intOf]; omega
        · obtain rfl : k = l.length := by omega
          have hT2 := Lib.hid (show Reads T.data.toList (bareR l) by have := hT.out; rwa [List.take_of_length_le (Nat.le_refl _)] at this)
          have VL1 := Lib.hid (VL.out.later hb.out)
          have VM1 := Lib.hid (VM.out.later hb.out)
          have BB := Lib.hid (w_below B3.out hb.out)
          have hTs2 : T.size ≤ 600 := by omega
          have HMm := Lib.hid (made_modest (by omega) HM.out)
          have HLm := Lib.hid (made_modest (by omega) HL.out)
          have HTX := Lib.hid (made_text (by omega) HM.out)
          have hbl := (made_text (by omega) HM.out).2
          have BR := Lib.hid (both_rows hT2.out HM.out)
          have R1 := Lib.hid (fun W => wrows_any T W (by omega))
          clear hT hTs VL VM hb B3 X3 HM HL hlt
          go_wp2_with fail
          refine (R1.out _).mono ?_
          rintro e w10 ⟨rs5, b5, v5, hres, hb10, rfl, hv5⟩
          obtain ⟨hbn, hbare⟩ := whole_text hT2.out (by omega) hres
          subst hbn
          rw [show fE none = 0 from rfl, show fA none = 0 from rfl]
          have hw11 : Below w10.heap.size w10 (w10.alloc (.cells #[.int .i64 0, .int .i64 0] 26)) := w_alloc (w_refl w10) _
          have VL2 := Lib.hid ((VL1.out.later hb10).later hw11)
          have VM2 := Lib.hid ((VM1.out.later hb10).later hw11)
          have VA2 := Lib.hid (hv5.later hw11)
          have BB2 := Lib.hid (w_below (w_below BB.out hb10) hw11)
          have SA := Lib.hid (same_of_bare hbare)
          have F1 := Lib.hid (Cell2.made w10 0 0 26)
          clear hb10 hw11 hv5 VL1 VM1 BB R1 hres hbare hT2
          go_wp2_with fail
          refine (wtext_any _ m _ VM2.out HMm.out).mono ?_
          rintro e w12 ⟨rfl, hb12⟩
          rw [HTX.out.1]
          have VL3 := Lib.hid (VL2.out.later hb12)
          have VM3 := Lib.hid (VM2.out.later hb12)
          have VA3 := Lib.hid (VA2.out.later hb12)
          have BB3 := Lib.hid (w_below BB2.out hb12)
          have F2 := Lib.hid (F1.out.below hb12 F1.out.inb)
          clear hb12 VL2 VM2 VA2 BB2 F1 HTX
          obtain ⟨S2, hS2⟩ : ∃ S2 : ByteArray, S2 = ⟨(bodyL m).toArray⟩ := ⟨_, rfl⟩
          have e9 : (⟨(bodyL m, (0 : Int)).fst.toArray⟩ : ByteArray) = S2 := hS2.symm
          rw [e9]
          have hS2s : S2.size ≤ 438 := by rw [hS2, list_size]; omega
          have BR2 := Lib.hid (show Reads ((T ++ (⟨#[10]⟩ : ByteArray) ++ S2).data.toList) (bareR (l ++ m)) by rw [hS2]; exact BR.out)
          clear e9 hS2 BR
          have hTz : (T ++ (⟨#[10]⟩ : ByteArray) ++ S2).size = T.size + 1 + S2.size := by rw [ByteArray.size_append, ByteArray.size_append]; rfl
          have R2 := Lib.hid (fun W => wrows_any (T ++ (⟨#[10]⟩ : ByteArray) ++ S2) W (by rw [hTz]; omega))
          have WT := Lib.hid (fun rs b k => whole_text BR2.out (by rw [hTz]; omega) (rs := rs) (b := b) k)
          have y1 : T.size + 1 ≤ 9223372036854775807 := by omega
          have y2 : T.size + 1 + S2.size ≤ 9223372036854775807 := by omega
          clear hTz BR2
          go_wp2_with fail
          refine (R2.out _).mono ?_
          rintro e w13 ⟨rs6, b6, v6, hres, hb13, rfl, hv6⟩
          obtain ⟨hbn, hbare⟩ := WT.out _ _ hres
          subst hbn
          rw [show fE none = 0 from rfl, show fA none = 0 from rfl]
          have hw14 : Below w13.heap.size w13 (w13.alloc (.cells #[.int .i64 0, .int .i64 0] 26)) := w_alloc (w_refl w13) _
          have VL4 := Lib.hid ((VL3.out.later hb13).later hw14)
          have VM4 := Lib.hid ((VM3.out.later hb13).later hw14)
          have VA4 := Lib.hid ((VA3.out.later hb13).later hw14)
          have VB4 := Lib.hid (hv6.later hw14)
          have BB4 := Lib.hid (w_below (w_below BB3.out hb13) hw14)
          have SB := Lib.hid (same_of_bare hbare)
          have F3 := F2.out.below hb13 F2.out.inb
          have F4 := F3.below hw14 F3.inb
          have G4 := Cell2.made w13 0 0 26
          obtain ⟨_, o0, o1, o2, o3⟩ := F3
          obtain ⟨_, r0, r1, r2, r3⟩ := F4
          obtain ⟨_, q0, q1', q2', q3'⟩ := G4
          clear hb13 hw14 hv6 VL3 VM3 VA3 BB3 R2 WT hres hbare
          go_wp2_with fail
          refine (same_any _ _ _ _ false _ VA4.out VL4.out SA.out).mono ?_
          rintro e w15 ⟨rfl, hb15⟩
          have VL5 := Lib.hid (VL4.out.later hb15)
          have VM5 := Lib.hid (VM4.out.later hb15)
          have VB5 := Lib.hid (VB4.out.later hb15)
          have BB5 := Lib.hid (w_below BB4.out hb15)
          clear hb15 VL4 VM4 VA4 VB4 BB4 SA o0 o1 o2 o3 r0 r1 r2 r3 q0 q1' q2' q3' F2
          go_wp2_with fail
          refine (own_any _ l _ VL5.out HLm.out).mono ?_
          rintro e w16 ⟨v7, rfl, hr7, hb16⟩
          have RI := Lib.hid hr7
          have BO := Lib.hid hb16
          clear hr7 hb16 VL5
          go_wp2_with (at_builtin; refine wpList_append_rows (by kernel_rfl) (.tmp 124) (.tmp 125) rfl v7 l (by kernel_rfl) RI.out qm cm m.length m rfl (by kernel_rfl) VM5.out BO.out (by omega) (by omega) ?_)
          intro v8 w17 hv8 hb17
          have V8 := Lib.hid hv8
          have hk17 : Below w15.heap.size w15 w17 := BO.out.trans hb17
          have VB7 := Lib.hid (VB5.out.later hk17)
          have BB7 := Lib.hid (w_below BB5.out hk17)
          clear hv8 hb17 hk17 VB5 BB5 RI BO VM5
          go_wp2_with fail
          refine (same_any _ _ _ _ false _ VB7.out V8.out SB.out).mono ?_
          rintro e w18 ⟨rfl, hb18⟩
          have BB8 := Lib.hid (w_below BB7.out hb18)
          clear hb18 VB7 V8 BB7
          go_wp2_with fail
          go_ret
          exact ⟨rfl, BB8.out⟩

end Go.Proofs.YtdjkgnganbeonaaDoor
