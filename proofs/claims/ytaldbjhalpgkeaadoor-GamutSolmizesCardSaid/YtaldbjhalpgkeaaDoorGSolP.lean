/- The program's Solmize. -/
import Derived.Test.YtaldbjhalpgkeaaDoorGPlansB
import Derived.Test.YtaldbjhalpgkeaaDoorGSolE
namespace Go.Proofs.YtaldbjhalpgkeaaDoor
open Go.RowKit Go.Shelf

theorem best_next {q : Pi3} {t : List Pi3} {s : Sy} (h : waysL q ≠ []) : bestO (some s) (q :: t) = (planS (q :: t) s).2 :: bestO (some (planS (q :: t) s).2) t ∧ (planS (q :: t) s).2 ∈ waysL q := by
  obtain ⟨b, hb⟩ := firstMin_some (f := fun b => addC (costS s b) (restC t b)) h
  have e : (planS (q :: t) s).2 = b := by unfold planS minP; simp only; rw [hb]
  rw [e]
  exact ⟨best_step (a := some s) hb, (firstMin_spec hb).1⟩
theorem best_first {q : Pi3} {t : List Pi3} (h : waysL q ≠ []) (hs : Sung t) {f : Sy → Co} (hf : ∀ b ∈ waysL q, f b = addC (0, 0) (restC t b)) :
    bestL (q :: t) = (minP f (0, 0) (waysL q)).2 :: bestO (some (minP f (0, 0) (waysL q)).2) t ∧ (minP f (0, 0) (waysL q)).2 ∈ waysL q ∧ (minP f (0, 0) (waysL q)).1.1 = movesL (bestL (q :: t)) := by
  rw [minP_congr hf]
  obtain ⟨b, hb⟩ := firstMin_some (f := fun b => addC (0, 0) (restC t b)) h
  have e : minP (fun b => addC (0, 0) (restC t b)) (0, 0) (waysL q) = (addC (0, 0) (restC t b), b) := by unfold minP; rw [hb]
  have e2 : bestL (q :: t) = b :: bestO (some b) t := best_step (a := none) hb
  rw [e]
  refine ⟨e2, (firstMin_spec hb).1, ?_⟩
  rw [e2, ← total_none]
  show (addC (0, 0) (restC t b)).1 = (addC (0, 0) (totalO (some b) (bestO (some b) t))).1
  rw [rest_eq t b hs]
theorem sol_step (q : Pi3) (t : List Pi3) : solE (q :: t) = if sungE q = 0 then solE t else sungE q := by
  show (if okP q then (if waysL q = [] then 18 else solE t) else 2) = _
  unfold sungE
  by_cases h : okP q
  · rw [if_pos h, if_pos h]
    by_cases h2 : waysL q = []
    · rw [if_pos h2, if_pos h2]; rfl
    · rw [if_neg h2, if_neg h2]; rfl
  · rw [if_neg h, if_neg h]; rfl
theorem sol_okP : ∀ {l : List Pi3}, solE l = 0 → ∀ q ∈ l, okP q
  | [], _ => by intro p hp; simp at hp
  | q :: t, h => by
    intro p hp
    unfold solE at h
    by_cases h1 : okP q
    · rw [if_pos h1] at h
      by_cases h2 : waysL q = []
      · rw [if_pos h2] at h; exact absurd h (by decide)
      · rw [if_neg h2] at h
        rcases List.mem_cons.1 hp with rfl | hp
        · exact h1
        · exact sol_okP h p hp
    · rw [if_neg h1] at h; exact absurd h (by decide)
theorem best_len {l : List Pi3} (h : Sung l) : (bestL l).length = l.length := (best_sings h).len

/-- What stands while the list is made: the table and the step. -/
structure SolF (g k9 : Nat) (cur : Array Value) (s : Pl) (W : World) : Prop where
  tab : HoldsB W g 81 cur
  step : HoldsB W k9 79 (plC s)
theorem SolF.later {g k9 : Nat} {cur : Array Value} {s : Pl} {W W' : World} (h : SolF g k9 cur s W) (k : Below W.heap.size W W') : SolF g k9 cur s W' := ⟨h.tab.later k, h.step.later k⟩

set_option maxRecDepth 100000 in
set_option maxHeartbeats 4000000 in
theorem wsolmize_any (p : Option Addr) (cap : Nat) (l : List Pi3) (w : World) (h : SlP w 3 p l.length cap (flatP l)) (T : TabG w) : Calls Tryd.prog 23 #[.slice p l.length cap] w (SolPost l w) := by
  have HS := Lib.hid h
  have f1 := h.fit
  have f2 := h.max
  have HT := Lib.hid (fun W (b : Below w.heap.size w W) => T.later b)
  clear h T
  obtain ⟨m0, hm0, hv0, hv1, hv2⟩ := info_parts info_syl
  have CK := Lib.hid (fun q W (k : Below w.heap.size w W) => wsung_any q W (HT.out W k))
  by_cases hbig : 400 < l.length
  · have hbig' : (400 : Int) < l.length := by omega
    have hfin := Lib.hid (SolPost.bad (l := l) (w := w) (w' := w) (e := 11) (by unfold solErr; rw [if_pos hbig]) (by decide) (w_refl w))
    go_enter Tryd.func23, Tryd.ntmps23
    go_wp2_with fail
    go_ret3
    exact hfin.out
  · have hbig' : ¬ ((400 : Int) < l.length) := by omega
    have hE := Lib.hid (show solErr l = solE l from by unfold solErr; rw [if_neg hbig])
    go_enter Tryd.func23, Tryd.ntmps23
    go_wp2_with fail
    go_loopw [18] (fun s18 wr => ∃ i : Nat, i ≤ l.length ∧ s18 = .int .i64 i ∧ Hid (solE l = solE (l.drop i)) ∧ Hid (Below w.heap.size w wr)) (fun s18 _ => l.length - (intOf s18).toNat)
    case atStart => exact ⟨0, Nat.zero_le _, rfl, Lib.hid rfl, Lib.hid (w_refl w)⟩
    case round =>
      obtain ⟨i, hin, rfl, hd, hb⟩ := hrel
      by_cases hi : i < l.length
      · have hi' : (i : Int) < l.length := by omega
        obtain ⟨q, hq⟩ : ∃ q, l[i]? = some q := ⟨l[i], List.getElem?_eq_getElem hi⟩
        have hdrop : l.drop i = q :: l.drop (i + 1) := by
          obtain ⟨hlt, e⟩ := List.getElem?_eq_some_iff.1 hq
          rw [List.drop_eq_getElem_cons hlt, e]
        obtain ⟨bl, off, rfl, hbl, a0, a1, a2⟩ := (HS.out.later hb.out).pit hq
        have C := Lib.hid (fun W k => CK.out q W k)
        have hsol : solE (l.drop i) = if sungE q = 0 then solE (l.drop (i + 1)) else sungE q := by rw [hdrop]; exact sol_step _ _
        by_cases hok : sungE q = 0
        · rw [if_pos hok] at hsol
          rw [hok] at C
          have hd2 := Lib.hid (hd.out.trans hsol)
          clear hok hdrop hq hd hsol
          go_wp2_with fail
          refine (C.out _ (w_alloc hb.out (pO q))).mono ?_
          rintro e w1 ⟨rfl, hb1⟩
          have HB1 := Lib.hid (w_below (w_alloc hb.out (pO q)) hb1)
          clear a0 a1 a2 hb1 C
          go_wp2_with fail
          go_roundw
          case rel => exact ⟨i + 1, by omega, by go_num, hd2, HB1⟩
          case measure => simp [intOf]; omega
        · rw [if_neg hok] at hsol
          have hfin := Lib.hid (fun w' hb' => SolPost.bad (l := l) (w := w) (w' := w') (e := sungE q) (by rw [hE.out, hd.out, hsol]) hok hb')
          have hok2 : (sungE q == 0) = false := by simp [hok]
          clear hdrop hq hsol hd
          generalize sungE q = er at *
          go_wp2_with fail
          refine (C.out _ (w_alloc hb.out (pO q))).mono ?_
          rintro e w1 ⟨rfl, hb1⟩
          have HB1 := Lib.hid (w_below (w_alloc hb.out (pO q)) hb1)
          clear a0 a1 a2 hb1 C
          go_wp2_with fail
          go_ret3
          exact hfin.out _ HB1.out
      · obtain rfl : i = l.length := by omega
        have hz : solE l = 0 := by rw [hd.out, List.drop_eq_nil_of_le (Nat.le_refl _)]; rfl
        have hL := Lib.hid (show solL l = bestL l by unfold solL; rw [hE.out, if_pos hz])
        have hEz := Lib.hid (show solErr l = 0 by rw [hE.out, hz])
        have SU := Lib.hid (sol_sung hz)
        have OKP := Lib.hid (sol_okP hz)
        clear hz hd hE CK
        by_cases hn0 : l.length = 0
        · obtain rfl : l = [] := List.eq_nil_of_length_eq_zero hn0
          have hfin := Lib.hid (show SolPost [] w (.returned (.tuple #[.slice none 0 0, .int .i64 0, .int .i64 0])) wr from ⟨.slice none 0 0, by rw [hL.out, hEz.out]; rfl, by rw [hL.out]; exact SylV.none _, hb.out⟩)
          clear hL hEz SU OKP
          go_wp2_with fail
          go_ret3
          exact hfin.out
        · have hn1 : 1 ≤ l.length := by omega
          have hnz : ((l.length : Int) == 0) = false := by rw [beq_eq_false_iff_ne]; omega
          obtain ⟨q0, hq0⟩ : ∃ q0, l[0]? = some q0 := ⟨l[0], List.getElem?_eq_getElem hn1⟩
          have hld : l = q0 :: l.drop 1 := by
            obtain ⟨hlt, e⟩ := List.getElem?_eq_some_iff.1 hq0
            have := List.drop_eq_getElem_cons hlt
            rw [e] at this
            simpa using this
          have HLD := Lib.hid hld
          have PLN := Lib.hid (fun W (k : Below w.heap.size w W) => wplans_any p cap l hn1 (by omega) OKP.out W (HS.out.later k) (HT.out W k))
          have okq0 := OKP.out q0 (List.mem_of_getElem? hq0)
          have neq0 := SU.out q0 (List.mem_of_getElem? hq0)
          have HN0 := Lib.hid hn1
          have hn1' : (0 : Int) < l.length := by omega
          have hlne : ¬ l = [] := fun e => hn0 (by rw [e]; rfl)
          clear hld hn0
          go_wp2_with fail
          refine (PLN.out _ hb.out).mono ?_
          rintro e w1 ⟨g, cur, F, rfl, hrow, hT, hD, hB, hb1⟩
          have B1 := Lib.hid (w_below hb.out hb1)
          obtain ⟨bl, off, rfl, hbl, a0, a1, a2⟩ := (HS.out.later B1.out).pit hq0
          simp only [Nat.zero_mul, Nat.add_zero] at a0 a1 a2
          have hdr : ∀ b ∈ waysL q0, (F 0 b.1.toNat).1 = restC (l.drop 1) b := fun b hb => by rw [hD 0 q0 hq0 b hb, planS_fst]
          obtain ⟨bf1, bf2, bf3⟩ := best_first (q := q0) (t := l.drop 1) neq0 (fun x hx => SU.out x (List.mem_of_mem_drop hx)) (f := stepL (F 0) (0, 0)) (fun b hb => by unfold stepL; rw [if_pos rfl, hdr b hb])
          rw [← HLD.out] at bf1 bf3
          have BE := Lib.hid (fun W (k : Below w.heap.size w W) => wbefore_any (F 0) (hB 0) (0, 0) (.inl rfl) q0 okq0 W (HT.out W k))
          obtain ⟨PC, hPC⟩ : ∃ PC, rowL (F 0) = PC := ⟨_, rfl⟩
          have HPL := Lib.hid (show PC.length = 32 by rw [← hPC]; exact rowL_len _)
          rw [rowL_val, hPC] at BE
          obtain ⟨s0, hs0⟩ : ∃ s0, minP (stepL (F 0) (0, 0)) (0, 0) (waysL q0) = s0 := ⟨_, rfl⟩
          rw [hs0] at BE bf1 bf2 bf3
          have HRG := Lib.hid (show w1.rangeAt g 0 PC by
            have := hT.range (i := 0) hn1 hrow
            rwa [Nat.zero_mul, hPC] at this)
          have FX := Lib.hid (show HoldsB w1.drew g 81 cur ∧ Below w1.heap.size w1 w1.drew from ⟨hrow.later (w_refl _).drew, (w_refl _).drew⟩)
          have SC := Lib.hid (show ∀ W, HoldsB W g 81 cur ∧ Below w1.heap.size w1 W → (fun W => W.rangeAt g 0 PC ∧ W.cell? ⟨bl, off, none⟩ = some (.int .i64 q0.1) ∧ W.cell? ⟨bl, off + 1, none⟩ = some (.int .i64 q0.2.1) ∧ W.cell? ⟨bl, off + 2, none⟩ = some (.int .i64 q0.2.2)) W from fun W hW =>
            ⟨fun j v hj => cell_later hW.2 (HRG.out j v hj), cell_later hW.2 a0, cell_later hW.2 a1, cell_later hW.2 a2⟩)
          have HTT := Lib.hid hT
          have HDD := Lib.hid hD
          have HQ0 := Lib.hid hq0
          have HF1 := Lib.hid bf1
          have HF2 := Lib.hid bf2
          have HF3 := Lib.hid bf3
          obtain ⟨⟨c1, c2⟩, i1, i2⟩ := s0
          simp only at bf3
          have GLT := hrow.lt
          clear hq0 okq0 neq0 hrow hT hD hB hb1 hdr bf1 bf2 bf3 hPC hs0 a0 a1 a2 PLN hb
          go_wp2_with fail
          go_cut [9] (fun s9 wc => ∃ k9 : Nat, s9 = .pointer (some ⟨k9, 0, none⟩) ∧ Hid (SolF g k9 cur ((c1, c2), (i1, i2)) wc) ∧ Hid (Below w1.heap.size w1 wc) ∧ Hid (w1.heap.size ≤ k9))
          case first =>
            refine wp_region_late (S := fun W => W.rangeAt g 0 PC ∧ W.cell? ⟨bl, off, none⟩ = some (.int .i64 q0.1) ∧ W.cell? ⟨bl, off + 1, none⟩ = some (.int .i64 q0.2.1) ∧ W.cell? ⟨bl, off + 2, none⟩ = some (.int .i64 q0.2.2)) [9] (by kernel_rfl) ?_
            generalize hy : World.drew w1 = y at *
            clear hy
            refine wpL_take (i := 0) (v := .slice (some ⟨g, 0, none⟩) l.length l.length) rfl (by kernel_rfl) (by kernel_rfl) (by kernel_rfl) (by kernel_rfl) (fun _ _ _ h => h) (Or.inl ⟨by kernel_rfl, fun _ => by go_simp⟩) (.inl (SC.out _ FX.out)) ?_
            refine wpL_take (i := 1) (v := .pointer (some ⟨g, 0, none⟩)) rfl (by kernel_rfl) (by kernel_rfl) (by kernel_rfl) (by kernel_rfl) (fun _ _ _ h => h) (Or.inl ⟨by kernel_rfl, fun _ => by go_simp⟩) (.inl (SC.out _ FX.out)) ?_
            refine wpL_load (i := 2) (v := .agg PC.toArray) rfl (by kernel_rfl) (by kernel_rfl) (by kernel_rfl) (by kernel_rfl) (by kernel_rfl) (fun _ _ _ h => h) (yieldsIf_load_mid (by kernel_rfl) 81 (.tmp 34) rfl g 0 (by kernel_rfl) PC _ (fun W hW => hW.1) Tryd.underlying81 rfl (by rw [HPL.out]; exact size_plans)) (SC.out _ FX.out) (by kernel_rfl) ?_
            refine wpL_take (i := 3) (v := .agg #[.int .i64 0, .int .i64 0]) rfl (by kernel_rfl) (by kernel_rfl) (by kernel_rfl) (by kernel_rfl) (fun _ _ _ h => h) (Or.inl ⟨by kernel_rfl, fun _ => by go_simp⟩) (.inl (SC.out _ FX.out)) ?_
            refine wpL_take (i := 4) (v := .slice (some ⟨bl, off, none⟩) l.length cap) rfl (by kernel_rfl) (by kernel_rfl) (by kernel_rfl) (by kernel_rfl) (fun _ _ _ h => h) (Or.inl ⟨by kernel_rfl, fun _ => by go_simp⟩) (.inl (SC.out _ FX.out)) ?_
            refine wpL_take (i := 5) (v := .pointer (some ⟨bl, off, none⟩)) rfl (by kernel_rfl) (by kernel_rfl) (by kernel_rfl) (by kernel_rfl) (fun _ _ _ h => h) (Or.inl ⟨by kernel_rfl, fun _ => by go_simp⟩) (.inl (SC.out _ FX.out)) ?_
            refine wpL_load (i := 6) (v := pv q0) rfl (by kernel_rfl) (by kernel_rfl) (by kernel_rfl) (by kernel_rfl) (by kernel_rfl) (fun _ _ _ h => h) (Or.inl ⟨by kernel_rfl, fun W hW => by (obtain ⟨hA, hB, hC, hD⟩ := hW; go_simp)⟩) (SC.out _ FX.out) (by kernel_rfl) ?_
            refine wpL_ready (rs := [7, 8]) (by kernel_rfl) (by simp) ?_
            refine AllL.cons rfl (fun K hK => ?_) ?_
            · rw [if_pos (by kernel_rfl)]
              go_simp
              go_at_call 57
              refine (BE.out _ (w_below B1.out FX.out.2)).mono ?_
              rintro e z ⟨rfl, hb⟩
              replace FX := Lib.hid (show _ ∧ Below w1.heap.size w1 z from ⟨FX.out.1.later hb, w_below FX.out.2 hb⟩)
              clear hb
              go_simp
              refine hK.out _ _ (.inl (SC.out _ FX.out)) ?_
              clear hK K
              refine wpL_ready (rs := [8]) (by kernel_rfl) (by simp) ?_
              refine AllL.cons rfl (fun K hK => ?_) AllL.nil
              rw [if_pos (by kernel_rfl)]
              go_simp
              have HP := Lib.hid (HoldsB.new z 79 (plC ((0, 0), (0, 0))))
              have NK := Lib.hid (show w1.heap.size ≤ z.heap.size from FX.out.2.size)
              replace FX := Lib.hid (show _ ∧ Below w1.heap.size w1 (z.alloc (.cells (plC ((0, 0), (0, 0))) 79)) from ⟨FX.out.1.al (.cells (plC ((0, 0), (0, 0))) 79), w_alloc FX.out.2 (.cells (plC ((0, 0), (0, 0))) 79)⟩)
              generalize hy : World.alloc z _ = v at *
              clear hy
              refine hK.out _ _ (.inl (SC.out _ FX.out)) ?_
              clear hK K
              refine wpL_ready (rs := [9]) (by kernel_rfl) (by simp) ?_
              refine AllL.cons rfl (fun K hK => ?_) AllL.nil
              have e0 := HP.out.cell (j := 0) rfl
              have e1 := HP.out.cell (j := 1) rfl
              have e2 := HP.out.cell (j := 2) rfl
              have e3 := HP.out.cell (j := 3) rfl
              have f0 := HP.out.frozen 0
              have f1 := HP.out.frozen 1
              have f2 := HP.out.frozen 2
              have f3 := HP.out.frozen 3
              rw [if_pos (by kernel_rfl)]
              go_simp
              clear e0 e1 e2 e3 f0 f1 f2 f3
              have FZ := Lib.hid (show SolF g z.heap.size cur ((c1, c2), (i1, i2)) (lay4 v z.heap.size ((c1, c2), (i1, i2))) ∧ Below w1.heap.size w1 (lay4 v z.heap.size ((c1, c2), (i1, i2))) from
                ⟨⟨FX.out.1.beside4 (holds_ne' FX.out.1 HP.out (by decide)) _, HP.out.lay4 _⟩, (((FX.out.2.setCell (p := ⟨z.heap.size, 0, none⟩) NK.out _).setCell (p := ⟨z.heap.size, 1, none⟩) NK.out _).setCell (p := ⟨z.heap.size, 2, none⟩) NK.out _).setCell (p := ⟨z.heap.size, 3, none⟩) NK.out _⟩)
              refine hK.out _ _ (.inr (by kernel_rfl)) ?_
              clear hK K
              refine wpL_done (by kernel_rfl) ?_ _
              go_wp2_with fail
              go_meet
              exact ⟨z.heap.size, rfl, Lib.hid FZ.out.1, Lib.hid FZ.out.2, NK⟩
            · refine AllL.cons rfl (fun K hK => ?_) AllL.nil
              rw [if_pos (by kernel_rfl)]
              go_simp
              have HP := Lib.hid (HoldsB.new y 79 (plC ((0, 0), (0, 0))))
              have NK := Lib.hid (show w1.heap.size ≤ y.heap.size from FX.out.2.size)
              replace FX := Lib.hid (show _ ∧ Below w1.heap.size w1 (y.alloc (.cells (plC ((0, 0), (0, 0))) 79)) from ⟨FX.out.1.al (.cells (plC ((0, 0), (0, 0))) 79), w_alloc FX.out.2 (.cells (plC ((0, 0), (0, 0))) 79)⟩)
              generalize hy : World.alloc y _ = v at *
              clear hy
              refine hK.out _ _ (.inl (SC.out _ FX.out)) ?_
              clear hK K
              refine wpL_ready (rs := [7]) (by kernel_rfl) (by simp) ?_
              refine AllL.cons rfl (fun K hK => ?_) AllL.nil
              rw [if_pos (by kernel_rfl)]
              go_simp
              go_at_call 57
              refine (BE.out _ (w_below B1.out FX.out.2)).mono ?_
              rintro e z ⟨rfl, hb⟩
              replace FX := Lib.hid (show _ ∧ Below w1.heap.size w1 z from ⟨FX.out.1.later hb, w_below FX.out.2 hb⟩)
              replace HP := Lib.hid (HP.out.later hb)
              clear hb
              go_simp
              refine hK.out _ _ (.inl (SC.out _ FX.out)) ?_
              clear hK K
              refine wpL_ready (rs := [9]) (by kernel_rfl) (by simp) ?_
              refine AllL.cons rfl (fun K hK => ?_) AllL.nil
              have e0 := HP.out.cell (j := 0) rfl
              have e1 := HP.out.cell (j := 1) rfl
              have e2 := HP.out.cell (j := 2) rfl
              have e3 := HP.out.cell (j := 3) rfl
              have f0 := HP.out.frozen 0
              have f1 := HP.out.frozen 1
              have f2 := HP.out.frozen 2
              have f3 := HP.out.frozen 3
              rw [if_pos (by kernel_rfl)]
              go_simp
              clear e0 e1 e2 e3 f0 f1 f2 f3
              have FZ := Lib.hid (show SolF g y.heap.size cur ((c1, c2), (i1, i2)) (lay4 z y.heap.size ((c1, c2), (i1, i2))) ∧ Below w1.heap.size w1 (lay4 z y.heap.size ((c1, c2), (i1, i2))) from
                ⟨⟨FX.out.1.beside4 (holds_ne' FX.out.1 HP.out (by decide)) _, HP.out.lay4 _⟩, (((FX.out.2.setCell (p := ⟨y.heap.size, 0, none⟩) NK.out _).setCell (p := ⟨y.heap.size, 1, none⟩) NK.out _).setCell (p := ⟨y.heap.size, 2, none⟩) NK.out _).setCell (p := ⟨y.heap.size, 3, none⟩) NK.out _⟩)
              refine hK.out _ _ (.inr (by kernel_rfl)) ?_
              clear hK K
              refine wpL_done (by kernel_rfl) ?_ _
              go_wp2_with fail
              go_meet
              exact ⟨y.heap.size, rfl, Lib.hid FZ.out.1, Lib.hid FZ.out.2, NK⟩
          case rest =>
            obtain ⟨k9, rfl, hsf, hbl, hk9⟩ := hcut
            have GK := Lib.hid (show g ≠ k9 from holds_ne' hsf.out.tab hsf.out.step (by decide))
            clear SC HRG HPL BE FX
            obtain ⟨_, p0, p1, p2, p3⟩ : True ∧ wc.cell? ⟨k9, 0, none⟩ = some (.int .i64 c1) ∧ wc.cell? ⟨k9, 1, none⟩ = some (.int .i64 c2) ∧ wc.cell? ⟨k9, 2, none⟩ = some (.int .i64 i1) ∧ wc.cell? ⟨k9, 3, none⟩ = some (.int .i64 i2) := ⟨trivial, hsf.out.step.cell rfl, hsf.out.step.cell rfl, hsf.out.step.cell rfl, hsf.out.step.cell rfl⟩
            go_wp2_with fail
            clear p0 p1 p2 p3
            go_loopw [11, 45] (fun s11 s45 wr => ∃ (i : Nat) (s : Pl), i ≤ l.length ∧ s45 = .int .i64 i ∧ (∃ q c, s11 = .slice q i c) ∧ Hid (OwnL w1 wr 25 2 s11 i (flatS ((bestL l).take i))) ∧ Hid (SolF g k9 cur s wr) ∧ Hid (i < l.length → (bestL l).drop i = s.2 :: bestO (some s.2) (l.drop (i + 1)) ∧ okS s.2 ∧ ∃ q, l[i]? = some q ∧ s.2 ∈ waysL q)) (fun _ s45 _ => l.length - (intOf s45).toNat)
            case atStart =>
              exact ⟨0, ((c1, c2), (i1, i2)), Nat.zero_le _, rfl, ⟨none, 0, rfl⟩, Lib.hid ⟨hbl.out, World.ownsRow_nil _ _ _ _⟩, hsf, Lib.hid (fun _ => ⟨by rw [List.drop_zero]; exact HF1.out, (way_iff.1 HF2.out).1, q0, HQ0.out, HF2.out⟩)⟩
            case round =>
              obtain ⟨i, s, hin, rfl, ⟨q9, c9, rfl⟩, ho, hs9, hst⟩ := hrel
              by_cases hi : i < l.length
              · have hi' : (i : Int) < l.length := by omega
                obtain ⟨st1, st2, q, hq, st3⟩ := hst.out hi
                obtain ⟨⟨d1, d2⟩, h, y⟩ := s
                have hh := st2.1
                simp only at hh
                have g1 : 0 ≤ h := by omega
                have g2 : h < 8 := by omega
                obtain ⟨pp, hpp⟩ : ∃ pp, planS (l.drop (i + 1)) (h, y) = pp := ⟨_, rfl⟩
                have hF : F i h.toNat = pp := by rw [← hpp]; exact HDD.out i q hq (h, y) st3
                have ST4 := Lib.hid (show (bestL l)[i]? = some (h, y) from by
                  have e := congrArg (fun z => z[0]?) st1
                  simpa using e)
                have ST5 := Lib.hid (show i + 1 < l.length → (bestL l).drop (i + 1) = pp.2 :: bestO (some pp.2) (l.drop (i + 1 + 1)) ∧ okS pp.2 ∧ ∃ q, l[i + 1]? = some q ∧ pp.2 ∈ waysL q from fun hlt => by
                  obtain ⟨q', hq'⟩ : ∃ q', l[i + 1]? = some q' := ⟨l[i + 1], List.getElem?_eq_getElem hlt⟩
                  have hqd : l.drop (i + 1) = q' :: l.drop (i + 1 + 1) := by
                    obtain ⟨hlt, e⟩ := List.getElem?_eq_some_iff.1 hq'
                    rw [List.drop_eq_getElem_cons hlt, e]
                  have hne := SU.out q' (List.mem_of_getElem? hq')
                  obtain ⟨b1, b2⟩ := best_next (q := q') (t := l.drop (i + 1 + 1)) (s := (h, y)) hne
                  rw [← hqd, hpp] at b1 b2
                  refine ⟨?_, (way_iff.1 b2).1, q', hq', b2⟩
                  have e := congrArg (List.drop 1) st1
                  rw [List.drop_drop] at e
                  rw [e]
                  exact b1)
                clear st1 st2 st3 hst hq hpp
                obtain ⟨⟨e1, e2⟩, s1, s2⟩ := pp
                have HFP := Lib.hid hF
                clear hF
                have p2 := hs9.out.step.cell (j := 2) rfl
                have p3 := hs9.out.step.cell (j := 3) rfl
                have HO := Lib.hid (ho.out.later (w_alloc (w_refl wr) (sO (h, y))))
                have SF := Lib.hid (hs9.out.later (w_alloc (w_refl wr) (sO (h, y))))
                go_wp2_with (at_builtin; refine wpList_append_own_at _ rfl _ _ 29 rfl w1.heap.size 25 m0 (.agg #[.int .i64 0, .int .i64 0]) 2 16 Tryd.underlying29 hm0 hv0 hv1 hv2 rfl (by decide) _ i (flatS ((bestL l).take i)) rfl HO.out.row ⟨wr.heap.size, 0, none⟩ 1 1 (flatS [(h, y)]) rfl rfl (lit_new _ _ _) (flatS_one _) (by unfold maxLen; omega) (by omega) HO.out.bel.size ?_; intro v' w6 hown hgrow _ _; obtain ⟨g6, c6, rfl⟩ := ownsRow_succ hown)
                have hll := best_len SU.out
                have hnew := Lib.hid (show OwnL w1 w6.drew 25 2 (.slice (some ⟨g6, 0, none⟩) (i + 1) c6) (i + 1) (flatS ((bestL l).take (i + 1))) from by
                  have := (HO.out.app (w_refl _) hown hgrow).later (w_refl w6).drew
                  rw [List.take_add_one, ST4.out, flatS_app]
                  exact this)
                have FW := Lib.hid (show SolF g k9 cur ((d1, d2), (h, y)) w6.drew from
                  SolF.later ⟨SF.out.tab.kept hgrow (own_ne HO.out.row SF.out.tab (by decide)), SF.out.step.kept hgrow (own_ne HO.out.row SF.out.step (by decide))⟩ (w_refl w6).drew)
                clear hown hgrow HO SF ho hs9 p2 p3 hll
                have RC := Lib.hid (show ∀ W, SolF g k9 cur ((d1, d2), (h, y)) W → W.cell? ⟨k9, 2, none⟩ = some (.int .i64 h) ∧ W.cell? ⟨g, i * 32 + h.toNat * 4, none⟩ = some (.int .i64 e1) ∧ W.cell? ⟨g, i * 32 + h.toNat * 4 + 1, none⟩ = some (.int .i64 e2) ∧ W.cell? ⟨g, i * 32 + h.toNat * 4 + 2, none⟩ = some (.int .i64 s1) ∧ W.cell? ⟨g, i * 32 + h.toNat * 4 + 3, none⟩ = some (.int .i64 s2) from fun W hW => by
                  have h8 : h.toNat < 8 := by omega
                  have t0 := HTT.out.at_ i h.toNat 0 hi h8 (by decide)
                  have t1 := HTT.out.at_ i h.toNat 1 hi h8 (by decide)
                  have t2 := HTT.out.at_ i h.toNat 2 hi h8 (by decide)
                  have t3 := HTT.out.at_ i h.toNat 3 hi h8 (by decide)
                  rw [HFP.out] at t0 t1 t2 t3
                  exact ⟨hW.step.cell rfl, hW.tab.cell t0, hW.tab.cell t1, hW.tab.cell t2, hW.tab.cell t3⟩)
                go_wp2_with fail
                refine wp_region_late (S := fun W => W.cell? ⟨k9, 2, none⟩ = some (.int .i64 h) ∧ W.cell? ⟨g, i * 32 + h.toNat * 4, none⟩ = some (.int .i64 e1) ∧ W.cell? ⟨g, i * 32 + h.toNat * 4 + 1, none⟩ = some (.int .i64 e2) ∧ W.cell? ⟨g, i * 32 + h.toNat * 4 + 2, none⟩ = some (.int .i64 s1) ∧ W.cell? ⟨g, i * 32 + h.toNat * 4 + 3, none⟩ = some (.int .i64 s2)) [8] (by kernel_rfl) ?_
                generalize hy : World.drew w6 = u at *
                clear hy
                refine wpL_take (i := 0) (v := .slice (some ⟨g, 0, none⟩) l.length l.length) rfl (by kernel_rfl) (by kernel_rfl) (by kernel_rfl) (by kernel_rfl) (fun _ _ _ h => h) (Or.inl ⟨by kernel_rfl, fun _ => by go_simp⟩) (.inl (RC.out _ FW.out)) ?_
                refine wpL_take (i := 1) (v := .int .i64 (i : Int)) rfl (by kernel_rfl) (by kernel_rfl) (by kernel_rfl) (by kernel_rfl) (fun _ _ _ h => h) (Or.inl ⟨by kernel_rfl, fun _ => by go_simp⟩) (.inl (RC.out _ FW.out)) ?_
                refine wpL_take (i := 2) (v := .pointer (some ⟨k9, 2, none⟩)) rfl (by kernel_rfl) (by kernel_rfl) (by kernel_rfl) (by kernel_rfl) (fun _ _ _ h => h) (Or.inl ⟨by kernel_rfl, fun _ => by go_simp⟩) (.inl (RC.out _ FW.out)) ?_
                refine wpL_take (i := 3) (v := .pointer (some ⟨k9, 2, none⟩)) rfl (by kernel_rfl) (by kernel_rfl) (by kernel_rfl) (by kernel_rfl) (fun _ _ _ h => h) (Or.inl ⟨by kernel_rfl, fun _ => by go_simp⟩) (.inl (RC.out _ FW.out)) ?_
                refine wpL_load (i := 4) (v := .int .i64 h) rfl (by kernel_rfl) (by kernel_rfl) (by kernel_rfl) (by kernel_rfl) (by kernel_rfl) (fun _ _ _ h => h) (Or.inl ⟨by kernel_rfl, fun W hW => by (obtain ⟨hA, hB, hC, hD, hE⟩ := hW; go_simp)⟩) (RC.out _ FW.out) (by kernel_rfl) ?_
                refine wpL_take (i := 5) (v := .pointer (some ⟨g, i * 32, none⟩)) rfl (by kernel_rfl) (by kernel_rfl) (by kernel_rfl) (by kernel_rfl) (fun _ _ _ h => h) (Or.inl ⟨by kernel_rfl, fun _ => by go_simp⟩) (.inl (RC.out _ FW.out)) ?_
                refine wpL_take (i := 6) (v := .pointer (some ⟨g, i * 32 + h.toNat * 4, none⟩)) rfl (by kernel_rfl) (by kernel_rfl) (by kernel_rfl) (by kernel_rfl) (fun _ _ _ h => h) (Or.inl ⟨by kernel_rfl, fun _ => by go_simp⟩) (.inl (RC.out _ FW.out)) ?_
                refine wpL_load (i := 7) (v := .agg #[.int .i64 e1, .int .i64 e2, .int .i64 s1, .int .i64 s2]) rfl (by kernel_rfl) (by kernel_rfl) (by kernel_rfl) (by kernel_rfl) (by kernel_rfl) (fun _ _ _ h => h) (Or.inl ⟨by kernel_rfl, fun W hW => by (obtain ⟨hA, hB, hC, hD, hE⟩ := hW; go_simp)⟩) (RC.out _ FW.out) (by kernel_rfl) ?_
                refine wpL_ready (rs := [8]) (by kernel_rfl) (by simp) ?_
                refine AllL.cons rfl (fun K hK => ?_) AllL.nil
                have t0 := FW.out.step.cell (j := 0) rfl
                have t1 := FW.out.step.cell (j := 1) rfl
                have t2 := FW.out.step.cell (j := 2) rfl
                have t3 := FW.out.step.cell (j := 3) rfl
                have f0 := FW.out.step.frozen 0
                have f1 := FW.out.step.frozen 1
                have f2 := FW.out.step.frozen 2
                have f3 := FW.out.step.frozen 3
                rw [if_pos (by kernel_rfl)]
                go_simp
                clear t0 t1 t2 t3 f0 f1 f2 f3
                have FZ := Lib.hid (show SolF g k9 cur ((e1, e2), (s1, s2)) (lay4 u k9 ((e1, e2), (s1, s2))) from ⟨FW.out.tab.beside4 GK.out _, FW.out.step.lay4 _⟩)
                have NEW := Lib.hid (show OwnL w1 (lay4 u k9 ((e1, e2), (s1, s2))) 25 2 (.slice (some ⟨g6, 0, none⟩) (i + 1) c6) (i + 1) (flatS ((bestL l).take (i + 1))) from
                  let ne := own_ne hnew.out.row FW.out.step (by decide)
                  ⟨(((hnew.out.bel.setCell (p := ⟨k9, 0, none⟩) hk9.out _).setCell (p := ⟨k9, 1, none⟩) hk9.out _).setCell (p := ⟨k9, 2, none⟩) hk9.out _).setCell (p := ⟨k9, 3, none⟩) hk9.out _, own_put (own_put (own_put (own_put hnew.out.row ne _ _) ne _ _) ne _ _) ne _ _⟩)
                refine hK.out _ _ (.inr (by kernel_rfl)) ?_
                clear hK K
                refine wpL_done (by kernel_rfl) ?_ _
                go_wp2_with fail
                go_roundw
                case rel => exact ⟨i + 1, ((e1, e2), (s1, s2)), by omega, by go_num, ⟨_, c6, rfl⟩, NEW, FZ, ST5⟩
                case measure => simp [intOf]; omega
              · obtain rfl : i = l.length := by omega
                have hfin := Lib.hid (show SolPost l w (.returned (.tuple #[.slice q9 l.length c9, .int .i64 c1, .int .i64 0])) wr from by
                  have hll := best_len SU.out
                  have hrow := ho.out.row
                  rw [← hll, List.take_length, hll] at hrow
                  refine ⟨_, by rw [hL.out, hEz.out, ← HF3.out], ?_, w_below B1.out ho.out.bel⟩
                  rw [hL.out]
                  rw [← hll] at hrow ⊢
                  exact SylV.of_own hrow)
                go_wp2_with fail
                go_ret3
                exact hfin.out

end Go.Proofs.YtaldbjhalpgkeaaDoor
