/- DotLocal: the meanings of a dot depend only on its note. -/
import Derived.Test.YthokapebcplmkaaDLocA
namespace Go.Proofs.Ythokapebcplmkaa
open Go.RowKit

theorem lit_two (w : World) (x y : Int) : LstI ((w.alloc (.cells #[.int .i64 x, .int .i64 y] 3)).alloc (.cells #[.slice (some ⟨w.heap.size, 0, none⟩) 2 2] 32)) (some ⟨w.heap.size + 1, 0, none⟩) 1 [.slice (some ⟨w.heap.size, 0, none⟩) 2 2] [[x, y]] := by
  have h1 := lit_in w [x, y] (by simp)
  have h2 := lit_ll (w.alloc (.cells (ints [x, y]).toArray 3)) [.slice (some ⟨w.heap.size, 0, none⟩) 2 2] [[x, y]] (by simp) rfl (fun k z hz => by
    match k, hz with
    | 0, hz => simp at hz; subst hz; exact ⟨_, rfl, _, _, rfl, h1⟩
    | k + 1, hz => simp at hz)
  rw [World.size_alloc] at h2
  exact h2
theorem lit_oneL (w : World) (x : Int) (n : Nat) (hn : w.heap.size = n) : LstI ((w.alloc (.cells #[.int .i64 x] 3)).alloc (.cells #[.slice (some ⟨n, 0, none⟩) 1 1] 32)) (some ⟨n + 1, 0, none⟩) 1 [.slice (some ⟨n, 0, none⟩) 1 1] [[x]] := by
  subst hn
  have h1 := lit_in w [x] (by simp)
  have h2 := lit_ll (w.alloc (.cells (ints [x]).toArray 3)) [.slice (some ⟨w.heap.size, 0, none⟩) 1 1] [[x]] (by simp) rfl (fun k z hz => by
    match k, hz with
    | 0, hz => simp at hz; subst hz; exact ⟨_, rfl, _, _, rfl, h1⟩
    | k + 1, hz => simp at hz)
  rw [World.size_alloc] at h2
  exact h2
set_option maxRecDepth 100000 in
set_option maxHeartbeats 8000000 in
theorem ldloc_any (which : Int) (hw1 : -9223372036854775808 ≤ which) (hw2 : which ≤ 9223372036854775807) (nums : List Int) (hb : ∀ z ∈ nums, -9223372036854775808 ≤ z ∧ z ≤ 9223372036854775807) (p : Option Addr) (cap : Nat) (w : World) (h : SlP w 1 p nums.length cap (ints nums)) :
    Calls Try.prog 9 #[.int .i64 which, .slice p nums.length cap] w fun e w' => e = .returned (.bool true) ∧ Below w.heap.size w w' := by
  have HP := Lib.hid h
  have KN := Lib.hid (dknown_any w)
  have MA := Lib.hid (fun p cap W hh => made_any nums hb p cap W hh)
  have KM := Lib.hid (fun W => kmens_any which ⟨hw1, hw2⟩ W)
  have hq : okM (ofN (which % 16)) := ofN_ok (by omega)
  generalize ofN (which % 16) = q at *
  have hml := made_len nums
  have hc := made_ok hq nums
  have MN := Lib.hid (fun p cap W hh => pmns_any q (madeD nums) (by omega) p cap W hh)
  have SI := Lib.hid (fun zs p q cp cq W hp hq => samei_any p q cp cq zs W hp hq)
  have SL := Lib.hid (fun L p q cp cq vs us W hp hq => samel_any L p q cp cq vs us W hp hq)
  have PT := Lib.hid (fun W => lpoint_any W)
  have NT := Lib.hid (fun v W => lnote_any v W)
  have AB := Lib.hid (fun W => rabove_any q 5 W)
  have M5 := Lib.hid (fun p cap W hh => mn_two hq (s := nS 5) (.inl rfl) (by decide) (five_len q) p cap W hh)
  rw [mns_five] at M5
  obtain ⟨ab, hab⟩ : ∃ ab, aboV q 5 = ab := ⟨_, rfl⟩
  rw [hab] at M5 AB
  unfold MnPost at MN
  rw [hc, mnD_ok hc] at MN
  have DP := Lib.hid (fun k h1 h2 => dot_prev (q := q) (l := madeD nums) (chkD_zero hc).2 (k := k) h1 h2)
  have MT := Lib.hid (fun s h1 h2 h3 p cap W hh => mn_two hq (s := s) h1 h2 h3 p cap W hh)
  have AT := Lib.hid (fun k h1 h2 => mnP_at (q := q) (l := madeD nums) (k := k) (n := (madeD nums).length) h1 h2)
  have DOT := Lib.hid (fun k h => mnP_dot (q := q) (l := madeD nums) (k := k) h)
  have NOT := Lib.hid (fun k h => mnP_not (q := q) (l := madeD nums) (k := k) h)
  have hpk := Lib.hid (fun k => mnP_len q (madeD nums) k)
  have hT0 := Lib.hid (show (mnP q (madeD nums) 0).length = 0 from rfl)
  clear h hb hq hc hw1 hw2 hab
  generalize madeD nums = M at *
  generalize hPP : mnP q M = P at *
  clear hPP
  generalize hPT : P M.length = T at *
  have hPT2 := Lib.hid hPT
  clear hPT
  obtain ⟨q1, q2, q3, q4⟩ := q
  go_enter Try.func9, Try.ntmps9
  go_wp2_with fail
  refine KN.out.mono ?_
  rintro e w1 ⟨rfl, hb⟩
  have B := Lib.hid hb
  clear hb KN
  go_wp2_with fail
  refine (KM.out _).mono ?_
  rintro e w2 ⟨rfl, hb⟩
  have KQ := Lib.hid (Cell4.made w2 (q1, q2, q3, q4) 23)
  replace B := Lib.hid (w_alloc (w_below B.out hb) (mO (q1, q2, q3, q4)))
  clear hb KM
  go_upto_region 3 with (fail)
  obtain ⟨bm, hbm⟩ : ∃ bm, w2.heap.size = bm := ⟨_, rfl⟩
  rw [hbm] at KQ ⊢
  generalize w2.alloc (.cells #[.int .i64 q1, .int .i64 q2, .int .i64 q3, .int .i64 q4] 23) = y at *
  clear hbm
  go_wp2_with fail
  refine (MA.out _ _ _ (HP.out.later B.out)).mono ?_
  rintro e w3 ⟨v, rfl, ho⟩
  obtain ⟨pm, cm, rfl⟩ := ho.val
  have HM := Lib.hid (show SlP w3 17 pm M.length cm (flatG M) from own_sl ho.row rfl)
  replace B := Lib.hid (w_below B.out ho.bel)
  replace KQ := Lib.hid (KQ.out.later ho.bel)
  have f1 := HM.out.fit
  have f2 := HM.out.max
  clear ho MA
  obtain ⟨-, k0, k1, k2, k3, -⟩ := KQ.out
  simp only at k0 k1 k2 k3
  go_wp2_with fail
  refine (MN.out _ _ _ HM.out).mono ?_
  rintro e w4 ⟨v, rfl, ⟨pa, ca, va, rfl, hA⟩, hb⟩
  replace B := Lib.hid (w_below B.out hb)
  replace KQ := Lib.hid (KQ.out.later hb)
  replace HM := Lib.hid (HM.out.later hb)
  have HA := Lib.hid hA
  have g1 := HA.out.sl.fit
  have g2 := HA.out.sl.max
  clear hb hA MN k0 k1 k2 k3
  go_wp2_with fail
  go_loopw [10, 11] (fun s10 s11 wr => ∃ k : Nat, k ≤ M.length ∧ s11 = .int .i64 k ∧ s10 = .int .i64 ((P k).length : Int) ∧ Hid (Below w4.heap.size w4 wr)) (fun _ s11 _ => M.length - (intOf s11).toNat)
  case atStart => exact ⟨0, by omega, rfl, by rw [hT0.out]; rfl, Lib.hid (w_refl _)⟩
  case round =>
    rename World => wr
    obtain ⟨k, hk, rfl, rfl, hB⟩ := hrel
    by_cases hlt : k < M.length
    · have hlt' : (k : Int) < M.length := by omega
      have hk0 : (0 : Int) ≤ k := by omega
      have hMr := HM.out.later hB.out
      obtain ⟨bb, off, rfl, -, hsg⟩ := hMr.sg (sg_some hlt)
      have e0 := hsg.e0
      have hkp := hpk.out k
      clear hsg
      by_cases h3 : (M.getD k zS).kind = 3
      · have hE := DOT.out k h3
        have hE2 := Lib.hid (show (P (k + 1)).length = (P k).length + 1 by rw [hE, List.length_append]; rfl)
        obtain ⟨j, hkj, -, hkd, hbf, hmn, hv1, hv2⟩ := DP.out k hlt h3
        have hX := AT.out k hlt h3
        rw [hbf] at hX
        have hjM : j < M.length := by omega
        have hsj := sl_same hMr hjM
        have hj1000 : j < 1000 := by omega
        obtain ⟨s, hs⟩ : ∃ s, M.getD j zS = s := ⟨_, rfl⟩
        rw [hs] at hX hkd hmn hv1 hv2 hsj
        have MX := Lib.hid (fun p cap W hh => MT.out s hkd ⟨hv1, hv2⟩ hmn p cap W hh)
        have HSG := Lib.hid hsj
        replace hkj := Lib.hid hkj
        rw [h3] at e0
        clear hE h3 DP AT MT DOT NOT hkd hbf hmn hv1 hv2 hsj hs
        generalize mns (q1, q2, q3, q4) s = X at *
        generalize hcc : (P k).length = c at *
        have hcT : c < T.length := (List.getElem?_eq_some_iff.1 hX).1
        have hcT' : (c : Int) < T.length := by omega
        have hcT2 : ¬ (T.length : Int) ≤ c := by omega
        have hc0 : (0 : Int) ≤ c := by omega
        have hLr := HA.out.later hB.out
        obtain ⟨bt, ot, rfl, -, -⟩ := hLr.sl.at_ (by omega)
        obtain ⟨ut, hut, put, cut, rfl, hust⟩ := hLr.at_ c X hX
        have ct := cell_at hLr.sl hut
        have HUT := Lib.hid hust
        clear hX hut hust hLr hMr hcc
        go_upto_region 14 with (fail)
        refine region_inv (F := tabL ([.k (.val (mv (q1, q2, q3, q4))), .k (.val (.slice (some ⟨bb, off, none⟩) M.length cm)), .k (.val (.int .i64 (k : Int))), .k (.val (.int .i64 (j : Int))), .k (.val (.pointer (some ⟨bb, off + j * 17, none⟩))), .k (.val (sgv s)), .k (.val (sgv pS)), .k (.sg [s, pS]), .k (.sg [s, pS]), .tup [X], .tup [X], .k (.ll [X]), .k (.val (.int .i64 0)), .k (.ll [X]), .k (.val (.int .i64 0))])) (by kernel_rfl) (by kernel_rfl) (fun i v w w' h b => Fl.later _ h b) ?_ ?_
        · intro j0 hj
          have ways : j0 = 0 ∨ j0 = 1 ∨ j0 = 2 ∨ j0 = 3 ∨ j0 = 4 ∨ j0 = 5 ∨ j0 = 6 ∨ j0 = 7 ∨ j0 = 8 ∨ j0 = 9 ∨ j0 = 10 ∨ j0 = 11 ∨ j0 = 12 ∨ j0 = 13 ∨ j0 = 14 := by
            have hj : j0 < 15 := hj
            omega
          clear hj
          rcases ways with rfl | rfl | rfl | rfl | rfl | rfl | rfl | rfl | rfl | rfl | rfl | rfl | rfl | rfl | rfl
          · intro o ho ls a w h hd
            obtain rfl := some_of (show some _ = some o from ho)
            exact ⟨wanted_n rfl, st_mens (.tmp 6) bm (q1, q2, q3, q4) (h.old (by kernel_rfl) rfl) (KQ.out.later (w_below hB.out h.grew)) rfl⟩
          · intro o ho ls a w h hd
            obtain rfl := some_of (show some _ = some o from ho)
            exact ⟨wanted_n rfl, st_move (.tmp 7) (.slice (some ⟨bb, off, none⟩) M.length cm) (h.old (by kernel_rfl) rfl) rfl⟩
          · intro o ho ls a w h hd
            obtain rfl := some_of (show some _ = some o from ho)
            exact ⟨wanted_n rfl, st_move (.tmp 11) (.int .i64 (k : Int)) (h.old (by kernel_rfl) rfl) rfl⟩
          · intro o ho ls a w h hd
            obtain rfl := some_of (show some _ = some o from ho)
            exact ⟨wanted_n rfl, st_sub1 (.tmp 51) j k hj1000 hkj.out (h.fact 2 51 (hd ⟨2, .data⟩ (by simp) rfl) (by rfl)) rfl⟩
          · intro o ho ls a w h hd
            obtain rfl := some_of (show some _ = some o from ho)
            exact ⟨wanted_n rfl, st_ixs (.tmp 50) (.tmp 52) bb off M.length cm j (h.fact 1 50 (hd ⟨1, .data⟩ (by simp) rfl) (by rfl)) (h.fact 3 52 (hd ⟨3, .data⟩ (by simp) rfl) (by rfl)) hjM rfl⟩
          · intro o ho ls a w h hd
            obtain rfl := some_of (show some _ = some o from ho)
            exact ⟨wanted_n rfl, st_loadO (.tmp 53) bb (off + j * 17) s (h.fact 4 53 (hd ⟨4, .data⟩ (by simp) rfl) (by rfl)) (HSG.out.later h.grew) rfl⟩
          · intro o ho ls a w h hd
            obtain rfl := some_of (show some _ = some o from ho)
            exact ⟨wanted_n rfl, st_call _ _ _ rfl #[] (by simp) (fun _ _ => by rfl) ((PT.out w).mono fun _ _ ⟨h1, h2⟩ => ⟨_, h1, rfl, h2⟩)⟩
          · intro o ho ls a w h hd
            obtain rfl := some_of (show some _ = some o from ho)
            exact ⟨wanted_n rfl, st_sg2 s pS (.tmp 54) (.tmp 55) (h.fact 5 54 (hd ⟨5, .data⟩ (by simp) rfl) (by rfl)) (h.fact 6 55 (hd ⟨6, .data⟩ (by simp) rfl) (by rfl)) rfl⟩
          · intro o ho ls a w h hd
            obtain rfl := some_of (show some _ = some o from ho)
            exact ⟨wanted_n rfl, st_run [s, pS] (.tmp 56) _ (h.fact 7 56 (hd ⟨7, .data⟩ (by simp) rfl) (by rfl)) rfl⟩
          · intro o ho ls a w h hd
            obtain rfl := some_of (show some _ = some o from ho)
            exact ⟨wanted_n rfl, st_mnT (q1, q2, q3, q4) s X MX.out (.tmp 49) (.tmp 57) _ (h.fact 0 49 (hd ⟨0, .data⟩ (by simp) rfl) (by rfl)) (h.fact 8 57 (hd ⟨8, .data⟩ (by simp) rfl) (by rfl)) rfl⟩
          · intro o ho ls a w h hd
            obtain rfl := some_of (show some _ = some o from ho)
            exact ⟨wanted_n rfl, st_moveF (.tmp 58) (.tup [X]) (h.fact 9 58 (hd ⟨9, .data⟩ (by simp) rfl) (by rfl)) rfl⟩
          · intro o ho ls a w h hd
            obtain rfl := some_of (show some _ = some o from ho)
            exact ⟨wanted_n rfl, st_ext0 (.tmp 48) [X] (h.fact 10 48 (hd ⟨10, .data⟩ (by simp) rfl) (by rfl)) rfl⟩
          · intro o ho ls a w h hd
            obtain rfl := some_of (show some _ = some o from ho)
            exact ⟨wanted_n rfl, st_ext1 (.tmp 48) [X] (h.fact 10 48 (hd ⟨10, .data⟩ (by simp) rfl) (by rfl)) rfl⟩
          · intro o ho ls a w h hd
            obtain rfl := some_of (show some _ = some o from ho)
            exact ⟨wanted_n rfl, st_assignF (.tmp 59) (.k (.ll [X])) (h.fact 11 59 (hd ⟨11, .data⟩ (by simp) rfl) (by rfl)) rfl⟩
          · intro o ho ls a w h hd
            obtain rfl := some_of (show some _ = some o from ho)
            exact ⟨wanted_n rfl, st_assignF (.tmp 60) (.k (.val (.int .i64 0))) (h.fact 12 60 (hd ⟨12, .data⟩ (by simp) rfl) (by rfl)) rfl⟩
        · intro f wf hf hbl
          have hx13 := hf 13 (by decide)
          have hx14 : f 14 = .int .i64 0 := hf 14 (by decide)
          obtain ⟨pz, cz, vz, hz13, hLz⟩ := (show LstV wf (f 13) [X] from hx13)
          have HB2 := Lib.hid (w_below hB.out hbl)
          have ct2 := cell_later hbl ct
          replace HUT := Lib.hid (HUT.out.later hbl)
          obtain ⟨uz, huz, pu, cu, rfl, husz⟩ := hLz.at_ 0 X rfl
          have m1 := hLz.sl.fit
          have m2 := hLz.sl.max
          obtain ⟨bz, oz, rfl, -, -⟩ := hLz.sl.at_ (by show 0 < 1 * 1; decide)
          have cz0 := cell_at hLz.sl huz
          have KS := Lib.hid (show ∀ n : Grown wf, Calls Try.prog 17 #[.slice pu X.length cu, .slice put X.length cut] n.W fun e w' => e = .returned (.bool true) ∧ Grew wf w' from fun n => (SI.out X _ _ _ _ n.W (husz.later n.b) (HUT.out.later n.b)).mono fun e w' ⟨h1, h2⟩ => ⟨h1, n.on h2, rfl⟩)
          have t0 : ∀ n : Grown wf, n.W.cell? ⟨bz, oz, none⟩ = some (.slice pu X.length cu) := fun n => cell_later n.b cz0
          have t1 : ∀ n : Grown wf, n.W.cell? ⟨bt, ot + c, none⟩ = some (.slice put X.length cut) := fun n => cell_later n.b ct2
          simp only [putAll, Act.put, List.setIfInBounds_toArray, List.set_cons_succ, List.set_cons_zero, Nat.reduceAdd, hz13, hx14]
          clear hx13 hx14 hz13 hf hbl hLz husz huz cz0 ct ct2 HUT MX HSG SI
          generalize X.length = lx at *
          go_wp2_with fail
          refine wp_region_grown (by kernel_rfl) (by kernel_rfl) ?_
          repeat (go_big_quiet_step (exact KS.out _))
          refine wpQuiet_nil ?_
          intro n
          have hB3 := Lib.hid (w_below HB2.out n.b)
          clear KS t0 t1
          go_wp2_with fail
          exact ⟨⟨k + 1, by omega, by go_num, by rw [hE2.out]; go_num, hB3⟩, by simp [intOf]; omega⟩
      · have hE2 := Lib.hid (NOT.out k h3)
        have h31 : ((M.getD k zS).kind == 3) = false := beq_eq_false_iff_ne.2 h3
        clear h3 hMr
        generalize (M.getD k zS).kind = kk at *
        generalize hPk : P k = Pk at *
        go_wp2_with fail
        exact ⟨⟨k + 1, by omega, by go_num, by rw [hE2.out], hB⟩, by simp [intOf]; omega⟩
    · obtain rfl : k = M.length := by omega
      have hlt' : ¬ ((M.length : Int) < M.length) := by omega
      rw [hPT2.out]
      have hC := Lib.hid hB.out
      obtain ⟨-, k0, k1, k2, k3, -⟩ := KQ.out.later hB.out
      simp only at k0 k1 k2 k3
      clear DOT NOT hpk hT0 AT DP MT SI HM HA
      go_wp2_with fail
      refine (AB.out _).mono ?_
      rintro e wd ⟨rfl, hb⟩
      replace hC := Lib.hid (w_below hC.out hb)
      clear hb AB k0 k1 k2 k3 hB
      obtain ⟨X5, hX5⟩ : ∃ X5, (if ab = 0 then [0] else [0, ab] : List Int) = X5 := ⟨_, rfl⟩
      rw [hX5] at M5
      have HX := Lib.hid hX5
      clear hX5
      go_upto_region 19 with (fail)
      refine region_inv (F := tabL ([.k (.val (mv (q1, q2, q3, q4))), .k (.val (sgv (nS 5))), .k (.val (sgv pS)), .k (.sg [nS 5, pS]), .k (.sg [nS 5, pS]), .tup [X5], .tup [X5], .k (.ll [X5]), .k (.val (.int .i64 0)), .k (.ll [X5]), .k (.val (.int .i64 0))])) (by kernel_rfl) (by kernel_rfl) (fun i v w w' h b => Fl.later _ h b) ?_ ?_
      · intro j0 hj
        have ways : j0 = 0 ∨ j0 = 1 ∨ j0 = 2 ∨ j0 = 3 ∨ j0 = 4 ∨ j0 = 5 ∨ j0 = 6 ∨ j0 = 7 ∨ j0 = 8 ∨ j0 = 9 ∨ j0 = 10 := by
          have hj : j0 < 11 := hj
          omega
        clear hj
        rcases ways with rfl | rfl | rfl | rfl | rfl | rfl | rfl | rfl | rfl | rfl | rfl
        · intro o ho ls a w h hd
          obtain rfl := some_of (show some _ = some o from ho)
          exact ⟨wanted_n rfl, st_mens (.tmp 6) bm (q1, q2, q3, q4) (h.old (by kernel_rfl) rfl) (KQ.out.later (w_below hC.out h.grew)) rfl⟩
        · intro o ho ls a w h hd
          obtain rfl := some_of (show some _ = some o from ho)
          exact ⟨wanted_n rfl, st_call _ _ _ rfl #[.int .i64 5] (by simp [Act.eval]) (fun _ _ => by rfl) ((NT.out 5 w).mono fun _ _ ⟨h1, h2⟩ => ⟨_, h1, rfl, h2⟩)⟩
        · intro o ho ls a w h hd
          obtain rfl := some_of (show some _ = some o from ho)
          exact ⟨wanted_n rfl, st_call _ _ _ rfl #[] (by simp) (fun _ _ => by rfl) ((PT.out w).mono fun _ _ ⟨h1, h2⟩ => ⟨_, h1, rfl, h2⟩)⟩
        · intro o ho ls a w h hd
          obtain rfl := some_of (show some _ = some o from ho)
          exact ⟨wanted_n rfl, st_sg2 (nS 5) pS (.tmp 88) (.tmp 89) (h.fact 1 88 (hd ⟨1, .data⟩ (by simp) rfl) (by rfl)) (h.fact 2 89 (hd ⟨2, .data⟩ (by simp) rfl) (by rfl)) rfl⟩
        · intro o ho ls a w h hd
          obtain rfl := some_of (show some _ = some o from ho)
          exact ⟨wanted_n rfl, st_run [nS 5, pS] (.tmp 90) _ (h.fact 3 90 (hd ⟨3, .data⟩ (by simp) rfl) (by rfl)) rfl⟩
        · intro o ho ls a w h hd
          obtain rfl := some_of (show some _ = some o from ho)
          exact ⟨wanted_n rfl, st_mnT (q1, q2, q3, q4) (nS 5) X5 M5.out (.tmp 87) (.tmp 91) _ (h.fact 0 87 (hd ⟨0, .data⟩ (by simp) rfl) (by rfl)) (h.fact 4 91 (hd ⟨4, .data⟩ (by simp) rfl) (by rfl)) rfl⟩
        · intro o ho ls a w h hd
          obtain rfl := some_of (show some _ = some o from ho)
          exact ⟨wanted_n rfl, st_moveF (.tmp 92) (.tup [X5]) (h.fact 5 92 (hd ⟨5, .data⟩ (by simp) rfl) (by rfl)) rfl⟩
        · intro o ho ls a w h hd
          obtain rfl := some_of (show some _ = some o from ho)
          exact ⟨wanted_n rfl, st_ext0 (.tmp 86) [X5] (h.fact 6 86 (hd ⟨6, .data⟩ (by simp) rfl) (by rfl)) rfl⟩
        · intro o ho ls a w h hd
          obtain rfl := some_of (show some _ = some o from ho)
          exact ⟨wanted_n rfl, st_ext1 (.tmp 86) [X5] (h.fact 6 86 (hd ⟨6, .data⟩ (by simp) rfl) (by rfl)) rfl⟩
        · intro o ho ls a w h hd
          obtain rfl := some_of (show some _ = some o from ho)
          exact ⟨wanted_n rfl, st_assignF (.tmp 93) (.k (.ll [X5])) (h.fact 7 93 (hd ⟨7, .data⟩ (by simp) rfl) (by rfl)) rfl⟩
        · intro o ho ls a w h hd
          obtain rfl := some_of (show some _ = some o from ho)
          exact ⟨wanted_n rfl, st_assignF (.tmp 94) (.k (.val (.int .i64 0))) (h.fact 8 94 (hd ⟨8, .data⟩ (by simp) rfl) (by rfl)) rfl⟩
      · intro f wf hf hbl
        have hx9 := hf 9 (by decide)
        have hx10 : f 10 = .int .i64 0 := hf 10 (by decide)
        obtain ⟨pz, cz, vz, hz9, hLz⟩ := (show LstV wf (f 9) [X5] from hx9)
        have HB2 := Lib.hid (w_below hC.out hbl)
        have HL := Lib.hid hLz
        simp only [putAll, Act.put, List.setIfInBounds_toArray, List.set_cons_succ, List.set_cons_zero, Nat.reduceAdd, hz9, hx10]
        clear hx9 hx10 hz9 hf hbl hLz M5 NT PT
        by_cases h0 : ab = 0
        · subst h0
          obtain rfl : [0] = X5 := HX.out
          go_wp2_with fail
          refine (SL.out [[0]] _ _ _ _ _ _ _ ((((HL.out.later (w_alloc (w_refl _) _)).later (w_alloc (w_refl _) _)).later (w_alloc (w_refl _) _)).later (w_alloc (w_refl _) _)) (lit_oneL _ 0 _ (by rw [World.size_alloc, World.size_alloc]))).mono ?_
          rintro e wz ⟨rfl, hb⟩
          have HB3 := Lib.hid (w_below B.out (w_below (w_alloc (w_alloc (w_alloc (w_alloc HB2.out _) _) _) _) hb))
          clear hb
          go_wp2_with fail
          go_ret
          exact ⟨rfl, HB3.out⟩
        · obtain rfl : [0, ab] = X5 := by
            have := HX.out
            rw [if_neg h0] at this
            exact this
          go_wp2_with fail
          refine (SL.out [[0, ab]] _ _ _ _ _ _ _ ((HL.out.later (w_alloc (w_refl _) _)).later (w_alloc (w_refl _) _)) (lit_two _ 0 ab)).mono ?_
          rintro e wz ⟨rfl, hb⟩
          have HB3 := Lib.hid (w_below B.out (w_below (w_alloc (w_alloc HB2.out _) _) hb))
          clear hb
          go_wp2_with fail
          go_ret
          exact ⟨rfl, HB3.out⟩

end Go.Proofs.Ythokapebcplmkaa
