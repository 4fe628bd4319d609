/- SignFirst: the first error counts. -/
import Derived.Test.YtcomjcflllfobaaDoorSFreB
namespace Go.Proofs.YtcomjcflllfobaaDoor
open Go.RowKit

set_option maxRecDepth 100000 in
set_option maxHeartbeats 16000000 in
theorem lfirst_any (p : Option Addr) (cap : Nat) (zs : List Int) (hz : ∀ z ∈ zs, -9223372036854775808 ≤ z ∧ z ≤ 9223372036854775807) (at_ : Int) (hat : -9223372036854775808 ≤ at_ ∧ at_ ≤ 9223372036854775807) (s : Sg) (pm : Option Addr) (cm : Nat) (more : List Sg)
    (w : World) (h : SlP w 1 p zs.length cap (ints zs)) (hmo : SlP w 17 pm more.length cm (flatG more)) (T : TabS w) : Calls Tryd.prog 9 #[.slice p zs.length cap, .int .i64 at_, sgv s, .slice pm more.length cm] w fun e w' => e = .returned (.bool true) ∧ Below w.heap.size w w' := by
  obtain ⟨i0, hi0, hz0, hz1, hz2⟩ := info_parts info_sign
  have mfit := hmo.fit
  have mmax := hmo.max
  have TT := Lib.hid (show ∀ W, Below w.heap.size w W → TabS W from fun W b => T.later b)
  have KN := Lib.hid (show ∀ W, Below w.heap.size w W → Calls Tryd.prog 6 #[] W fun e w' => e = .returned (.bool true) ∧ Below W.heap.size W w' from fun W b => lknown_any W (T.later b))
  have F1 := Lib.hid (fun W g => free_any p cap zs hz W g)
  have HL := Lib.hid h
  have HM := Lib.hid hmo
  have B := Lib.hid (w_refl w)
  clear h T hz hmo
  go_enter Tryd.func9, Tryd.ntmps9
  go_upto_region 1 with (first | (refine wl_box s (by kernel_rfl) ?_) | fail)
  have HS := Lib.hid (sg_new w s)
  replace HL := Lib.hid (HL.out.later (w_alloc (w_refl w) (sgO s)))
  replace HM := Lib.hid (HM.out.later (w_alloc (w_refl w) (sgO s)))
  replace B := Lib.hid (w_alloc B.out (sgO s))
  obtain ⟨b11, hb11⟩ : ∃ b, w.heap.size = b := ⟨_, rfl⟩
  rw [hb11] at HS ⊢
  have hw11 := Lib.hid hb11
  generalize w.alloc (sgO s) = y1 at *
  clear hb11
  go_wp2_with fail
  refine (KN.out _ B.out).mono ?_
  rintro e w1 ⟨rfl, hb⟩
  replace HL := Lib.hid (HL.out.later hb)
  replace HM := Lib.hid (HM.out.later hb)
  replace HS := Lib.hid (HS.out.later hb)
  replace B := Lib.hid (w_below B.out hb)
  clear hb KN
  go_wp2_with fail
  refine (F1.out _ HL.out).mono ?_
  rintro e w2 ⟨v, rfl, nm, l, q, c, rfl, hs1, hnm, hst, hl2, hl60, ho⟩
  obtain ⟨bq, oq, rfl, -, -⟩ := (own_sl ho.row rfl).at_ (by omega)
  have FX := Lib.hid (show MvX w (w2.alloc (ptO nm (some ⟨bq, oq, none⟩) l.length c)) w2.heap.size nm l (some ⟨bq, oq, none⟩) c from ⟨pt_new w2 nm (some ⟨bq, oq, none⟩) l.length c, (own_sl ho.row rfl).later (w_alloc (w_refl _) _), w_alloc (w_below B.out ho.bel) _⟩)
  replace HM := Lib.hid ((HM.out.later ho.bel).later (w_alloc (w_refl _) (ptO nm (some ⟨bq, oq, none⟩) l.length c)))
  replace HS := Lib.hid ((HS.out.later ho.bel).later (w_alloc (w_refl _) (ptO nm (some ⟨bq, oq, none⟩) l.length c)))
  have NS := Lib.hid hs1
  have NA := Lib.hid hnm
  have ST := Lib.hid hst
  have fit := (own_sl ho.row rfl).fit
  have mxc := (own_sl ho.row rfl).max
  clear ho hs1 hnm hst HL F1 B
  go_upto_region 3 with (fail)
  obtain ⟨b8, hb8⟩ : ∃ b, w2.heap.size = b := ⟨_, rfl⟩
  rw [hb8] at FX ⊢
  generalize w2.alloc (ptO nm (some ⟨bq, oq, none⟩) l.length c) = y at *
  clear hb8
  have PO := Lib.hid (show ∀ W, Below w.heap.size w W → Calls Tryd.prog 14 #[sgv s] W fun e w' => e = .returned (.int .i64 (oneE s)) ∧ Below W.heap.size W w' from fun W b => pone_any s W (TT.out W b))
  obtain ⟨E, hE⟩ : ∃ E, oneE s = E := ⟨_, rfl⟩
  have ON := Lib.hid hE
  rw [hE] at PO
  clear hE
  have sg0 := HS.out.sg
  go_wp2_with (first | (refine wl_load b11 0 s (by kernel_rfl) sg0 ?_) | fail)
  refine (PO.out _ FX.out.b).mono ?_
  rintro e w3 ⟨rfl, hb⟩
  replace FX := Lib.hid (FX.out.later hb)
  replace HM := Lib.hid (HM.out.later hb)
  replace HS := Lib.hid (HS.out.later hb)
  clear hb PO sg0
  have k0 := HS.out.cell (j := 0) (v := .int .i64 s.kind) rfl
  generalize hki : s.kind = ki at *
  cases h1 : (E == 0) with
  | true =>
    go_wp2_with fail
    go_ret
    exact ⟨rfl, FX.out.b⟩
  | false =>
    cases h2 : (ki == 4) with
    | true =>
      go_wp2_with fail
      go_ret
      exact ⟨rfl, FX.out.b⟩
    | false =>
      by_cases h3 : (more.length : Int) > 100
      · go_wp2_with fail
        go_ret
        exact ⟨rfl, FX.out.b⟩
      · skip
        have hE0 : E ≠ 0 := by intro e; rw [e] at h1; exact absurd h1 (by decide)
        have EN := Lib.hid (show oneE s ≠ 0 by rw [ON.out]; exact hE0)
        have x1 : IntKind.i64.wrap ((l.length : Int) + 1) = (l.length : Int) + 1 := IntWalk.i64_in _ (by omega)
        obtain ⟨i, hi, hi2⟩ : ∃ i : Nat, at_ % ((l.length : Int) + 1) = (i : Int) ∧ i ≤ l.length := ⟨(at_ % ((l.length : Int) + 1)).toNat, by have := Int.emod_nonneg at_ (show (l.length : Int) + 1 ≠ 0 by omega); omega, by have := Int.emod_nonneg at_ (show (l.length : Int) + 1 ≠ 0 by omega); have := Int.emod_lt_of_pos at_ (show 0 < (l.length : Int) + 1 by omega); omega⟩
        have MD := Lib.hid (fun W => mod_any at_ ((l.length : Int) + 1) W hat.1 hat.2 (by omega) (by omega))
        rw [hi] at MD
        clear hi hat
        have k1 := FX.out.h.cell (j := 1) rfl
        go_wp2_with fail
        refine (MD.out _).mono ?_
        rintro e w4 ⟨rfl, rfl⟩
        rename World => w4
        clear MD x1 k0
        generalize hins : pst l i = ins
        have IN := Lib.hid hins
        clear hins
        have hi2' : (i : Int) ≤ l.length := by omega
        have hi0' : (0 : Int) ≤ i := by omega
        go_upto_region 7 with (fail)
        go_cut [63] (fun s63 wc => s63 = .bool ins ∧ Hid (HoldsB wc b11 27 (sgA s)) ∧ Hid (MvX w wc b8 nm l (some ⟨bq, oq, none⟩) c) ∧ Hid (SlP wc 17 pm more.length cm (flatG more)))
        case first =>
          have e9 := IN.out
          rcases Nat.eq_zero_or_pos i with hz0 | hz0
          · have e8 : ins = false := by rw [← e9, hz0]; rfl
            have x3 : ¬ (0 : Int) < (i : Int) := by omega
            subst e8
            clear hz0
            go_wp2_with fail
            go_meet
            exact ⟨rfl, HS, FX, HM⟩
          · obtain ⟨j, hij⟩ : ∃ j, i = j + 1 := ⟨i - 1, by omega⟩
            have hj : j < l.length := by omega
            have hj0 : (0 : Int) ≤ j := by omega
            have x1 : (i : Int) - 1 = (j : Int) := by omega
            have x2 : IntKind.i64.wrap ((i : Int) - 1) = (j : Int) := by rw [x1]; exact IntWalk.i64_in _ (by omega)
            have x3 : (0 : Int) < (i : Int) := by omega
            have x4 : (j : Int) < l.length := by omega
            obtain ⟨b', o', eq, -, hsj⟩ := FX.out.s.sg (List.getElem?_eq_getElem hj)
            injection eq with eq
            injection eq with eq1 eq2 _
            subst eq1 eq2
            have gk := hsj.e0
            have gl := hsj.e7
            have hp : ins = ((l[j].kind == 4) && !(l[j].last)) := by rw [← e9, hij, pst_succ, kB_at hj, laB_at hj]
            clear hsj IN e9 hij hz0
            generalize l[j].kind = kj at *
            generalize l[j].last = la at *
            cases h2 : (kj == 4) with
            | false =>
              have e8 : ins = false := by rw [hp, h2]; rfl
              subst e8
              clear hp
              go_wp2_with fail
              go_meet
              exact ⟨rfl, HS, FX, HM⟩
            | true =>
              have e8 : ins = !la := by rw [hp, h2]; rfl
              subst e8
              clear hp
              cases la with
              | false =>
                go_wp2_with fail
                go_meet
                exact ⟨rfl, HS, FX, HM⟩
              | true =>
                go_wp2_with fail
                go_meet
                exact ⟨rfl, HS, FX, HM⟩
        case rest =>
          obtain ⟨rfl, HS, FX, HM⟩ := hcut
          rename World => y4
          clear k1
          cases ins with
          | true =>
            go_wp2_with fail
            go_ret
            exact ⟨rfl, FX.out.b⟩
          | false =>
            go_upto_region 9 with (fail)
            rename World => y5
            have hic : (i : Int) ≤ c := by omega
            have FL := Lib.hid (show flatG (l.take i) ++ flatG [s] = flatG (l.take i ++ [s]) by rw [flatG_app])
            have LT1 := Lib.hid (List.length_take_of_le hi2)
            have SX := Lib.hid (show stR false (l.take i) = some false by rw [(st_take ST.out hi2).1, IN.out])
            go_cut [13] (fun s13 wc => ∃ (b13 : Nat) (p5 : Option Addr) (k5 : Nat), s13 = .pointer (some ⟨b13, 0, none⟩) ∧ Hid (HoldsB wc b13 40 #[.string nm, .slice p5 (i + 1) k5]) ∧ Hid (wc.ownsRow y5.heap.size 27 17 (.slice p5 (i + 1) k5) (i + 1) (flatG (l.take i ++ [s]))) ∧ Hid (Below y5.heap.size y5 wc) ∧ Hid (y5.heap.size ≤ b13))
            case first =>
              refine wp_region_held (S := fun W => W.cell? ⟨b8, 0, none⟩ = some (.string nm) ∧ W.cell? ⟨b8, 1, none⟩ = some (.slice (some ⟨bq, oq, none⟩) l.length c) ∧ SgAt W b11 0 s) (by kernel_rfl) ?_
              change wpAnyH _ _ _ _ _ _ _ _ (World.drew _)
              have BY := Lib.hid (w_refl y5).drew
              generalize World.drew y5 = y0 at *
              have X0 := Lib.hid (FX.out.later BY.out)
              have S0 := Lib.hid (HS.out.later BY.out)
              have SO := Lib.hid (show ∀ W, Below y0.heap.size y0 W → W.cell? ⟨b8, 0, none⟩ = some (.string nm) ∧ W.cell? ⟨b8, 1, none⟩ = some (.slice (some ⟨bq, oq, none⟩) l.length c) ∧ SgAt W b11 0 s from fun W b => ⟨(X0.out.later b).h.cell (j := 0) rfl, (X0.out.later b).h.cell (j := 1) rfl, (S0.out.later b).sg⟩)
              have BL := Lib.hid (w_refl y0)
              have FT := Lib.hid (X0.out.s.takeG hi2)
              have OS := Lib.hid (show ∀ W, SlP W 17 (some ⟨bq, oq, none⟩) i c (flatG (l.take i)) → Calls Tryd.prog 39 #[.slice (some ⟨bq, oq, none⟩) i c] W fun e w' => ∃ v, e = .returned v ∧ OwnL W w' 27 17 v i (flatG (l.take i)) from fun W g => by
                have e : (l.take i).length = i := List.length_take_of_le hi2
                have := owns_any (some ⟨bq, oq, none⟩) c (l.take i) (by omega) W (by rw [e]; exact g)
                rw [e] at this; exact this)
              clear FX HS HM
              refine wpAnyH_take (i := 0) (v := .pointer (some ⟨b8, 0, none⟩)) rfl (by kernel_rfl) (by kernel_rfl) (by kernel_rfl) (fun _ _ _ h => h) (Or.inl ⟨by kernel_rfl, fun _ _ => by go_simp⟩) (SO.out _ BL.out) ?_
              refine wpAnyH_take (i := 1) (v := .string nm) rfl (by kernel_rfl) (by kernel_rfl) (by kernel_rfl) (fun _ _ _ h => h) (Or.inl ⟨by kernel_rfl, fun W hW => by (obtain ⟨c0, c1, c2⟩ := hW; go_simp)⟩) (SO.out _ BL.out) ?_
              refine wpAnyH_take (i := 2) (v := .pointer (some ⟨b8, 1, none⟩)) rfl (by kernel_rfl) (by kernel_rfl) (by kernel_rfl) (fun _ _ _ h => h) (Or.inl ⟨by kernel_rfl, fun _ _ => by go_simp⟩) (SO.out _ BL.out) ?_
              refine wpAnyH_take (i := 3) (v := .slice (some ⟨bq, oq, none⟩) l.length c) rfl (by kernel_rfl) (by kernel_rfl) (by kernel_rfl) (fun _ _ _ h => h) (Or.inl ⟨by kernel_rfl, fun W hW => by (obtain ⟨c0, c1, c2⟩ := hW; go_simp)⟩) (SO.out _ BL.out) ?_
              refine wpAnyH_take (i := 4) (v := .int .i64 (i : Int)) rfl (by kernel_rfl) (by kernel_rfl) (by kernel_rfl) (fun _ _ _ h => h) (Or.inl ⟨by kernel_rfl, fun _ _ => by go_simp⟩) (SO.out _ BL.out) ?_
              refine wpAnyH_take (i := 5) (v := .slice (some ⟨bq, oq, none⟩) i c) rfl (by kernel_rfl) (by kernel_rfl) (by kernel_rfl) (fun _ _ _ h => h) (Or.inl ⟨by kernel_rfl, fun _ _ => by go_simp⟩) (SO.out _ BL.out) ?_
              refine wpAnyH_take (i := 7) (v := sgv s) rfl (by kernel_rfl) (by kernel_rfl) (by kernel_rfl) (fun _ _ _ h => h) (sg_yields (.tmp 6) b11 0 s (by kernel_rfl) rfl (by kernel_rfl) (fun _ h => h.2.2)) (SO.out _ BL.out) ?_
              refine wpAnyH_ready (rs := [6, 8, 11]) (by kernel_rfl) (by simp) ?_
              refine AllReadyH.cons rfl (fun K hK => ?_) (AllReadyH.cons rfl (fun K hK => ?_) (AllReadyH.cons rfl (fun K hK => ?_) (AllReadyH.nil)))
              · as_aux_lemma =>
                  rw [if_pos (by kernel_rfl)]
                  go_simp
                  refine (OS.out _ (FT.out.later BL.out)).mono ?_
                  rintro e v1 ⟨v, rfl, ho⟩
                  obtain ⟨p1, k1, rfl⟩ := ho.val
                  have RW := Lib.hid (own_base ho.row BL.out.size)
                  replace BL := Lib.hid (w_below BL.out ho.bel)
                  clear ho
                  go_simp
                  refine hK.out _ _ (SO.out _ BL.out) (fun _ => ?_)
                  clear hK K
                  refine wpAnyH_ready (rs := [8, 11]) (by kernel_rfl) (by simp) ?_
                  refine AllReadyH.cons rfl (fun K hK => ?_) (AllReadyH.cons rfl (fun K hK => ?_) (AllReadyH.nil))
                  · refine step_lit rfl (.tmp 72) rfl s (by kernel_rfl) ?_
                    replace RW := Lib.hid (own_keep RW.out (w_alloc (w_refl _) (sgO s)) (Nat.le_refl _))
                    have LT := Lib.hid (one_sg v1 s)
                    replace BL := Lib.hid (w_alloc BL.out (sgO s))
                    refine hK.out _ _ (SO.out _ BL.out) (fun _ => ?_)
                    clear hK K
                    obtain ⟨bt, hbt⟩ : ∃ x, v1.heap.size = x := ⟨_, rfl⟩
                    rw [hbt] at LT ⊢
                    generalize v1.alloc (sgO s) = v2 at *
                    clear hbt
                    refine wpAnyH_ready (rs := [9, 11]) (by kernel_rfl) (by simp) ?_
                    refine AllReadyH.cons rfl (fun K hK => ?_) (AllReadyH.cons rfl (fun K hK => ?_) (AllReadyH.nil))
                    · refine step_append_sl rfl (.tmp 71) (.tmp 73) 38 rfl y0.heap.size 27 i0 (sgv zS) 17 128 Tryd.underlying38 hi0 hz0 hz1 hz2 rfl (by decide) (.slice p1 i k1) (i) (flatG (l.take i)) (by kernel_rfl) RW.out (some ⟨bt, 0, none⟩) (1) (1) (flatG [s]) (by kernel_rfl) LT.out (by unfold maxLen; omega) (by omega) BL.out.size ?_
                      intro u v3 hown hgrow
                      replace BL := Lib.hid (BL.out.grown hgrow BL.out.size (fun j e => (RW.out.lt j e).1))
                      replace RW := Lib.hid hown
                      obtain ⟨pA1, kA1, rfl⟩ := own_val hown
                      clear hown hgrow LT
                      refine hK.out _ _ (SO.out _ BL.out) (fun _ => ?_)
                      clear hK K
                      refine wpAnyH_take (i := 10) (v := .agg #[.string nm, .slice pA1 (i + 1) kA1]) rfl (by kernel_rfl) (by kernel_rfl) (by kernel_rfl) (fun _ _ _ h => h) (Or.inl ⟨by kernel_rfl, fun _ _ => by go_simp⟩) (SO.out _ BL.out) ?_
                      refine wpAnyH_ready (rs := [11]) (by kernel_rfl) (by simp) ?_
                      refine AllReadyH.cons rfl (fun K hK => ?_) (AllReadyH.nil)
                      rw [if_pos (by kernel_rfl)]
                      go_simp
                      replace RW := Lib.hid (own_keep RW.out (w_alloc (w_refl _) (ptO ⟨#[]⟩ none 0 0)) (Nat.le_refl _))
                      have HR := Lib.hid (pt_new v3 ⟨#[]⟩ none 0 0)
                      have RS := BL.out.size
                      replace BL := Lib.hid (w_alloc BL.out (ptO ⟨#[]⟩ none 0 0))
                      refine hK.out _ _ (SO.out _ BL.out) (fun _ => ?_)
                      clear hK K
                      obtain ⟨br, hbr⟩ : ∃ x, v3.heap.size = x := ⟨_, rfl⟩
                      have RL := Lib.hid (show y0.heap.size ≤ br by rw [← hbr]; exact RS)
                      clear RS
                      rw [hbr] at HR ⊢
                      generalize v3.alloc (ptO ⟨#[]⟩ none 0 0) = v4 at *
                      clear hbr
                      refine wpAnyH_ready (rs := [12]) (by kernel_rfl) (by simp) ?_
                      refine AllReadyH.cons rfl (fun K hK => ?_) (AllReadyH.nil)
                      have x0 := HR.out.cell (j := 0) rfl
                      have x1 := HR.out.cell (j := 1) rfl
                      have ff := HR.out.frozen
                      rw [if_pos (by kernel_rfl)]
                      go_simp
                      replace BL := Lib.hid (w_put (w_put BL.out RL.out 0 (.string nm)) RL.out 1 (.slice pA1 (i + 1) kA1))
                      replace RW := Lib.hid (own_put (own_put RW.out (own_ne RW.out HR.out (by decide)) 0 (.string nm)) (own_ne (own_put RW.out (own_ne RW.out HR.out (by decide)) 0 (.string nm)) (HR.out.set 0 (.string nm)) (by decide)) 1 (.slice pA1 (i + 1) kA1))
                      replace HR := Lib.hid ((HR.out.set 0 (.string nm)).set 1 (.slice pA1 (i + 1) kA1))
                      refine hK.out _ _ (SO.out _ BL.out) (fun _ => ?_)
                      clear hK K x0 x1 ff
                      generalize (v4.setCell ⟨br, 0, none⟩ (.string nm)).setCell ⟨br, 1, none⟩ (.slice pA1 (i + 1) kA1) = v5 at *
                      refine wpAnyH_done (by kernel_rfl) ?_ _
                      rw [FL.out] at RW
                      have hsz := BY.out.size
                      go_wp2_with fail
                      go_meet
                      exact ⟨br, pA1, kA1, rfl, HR, Lib.hid (own_base RW.out hsz), Lib.hid (w_below BY.out BL.out), Lib.hid (Nat.le_trans hsz RL.out)⟩
                    · rw [if_pos (by kernel_rfl)]
                      go_simp
                      replace RW := Lib.hid (own_keep RW.out (w_alloc (w_refl _) (ptO ⟨#[]⟩ none 0 0)) (Nat.le_refl _))
                      replace LT := Lib.hid (LT.out.later (w_alloc (w_refl _) (ptO ⟨#[]⟩ none 0 0)))
                      have HR := Lib.hid (pt_new v2 ⟨#[]⟩ none 0 0)
                      have RS := BL.out.size
                      replace BL := Lib.hid (w_alloc BL.out (ptO ⟨#[]⟩ none 0 0))
                      refine hK.out _ _ (SO.out _ BL.out) (fun _ => ?_)
                      clear hK K
                      obtain ⟨br, hbr⟩ : ∃ x, v2.heap.size = x := ⟨_, rfl⟩
                      have RL := Lib.hid (show y0.heap.size ≤ br by rw [← hbr]; exact RS)
                      clear RS
                      rw [hbr] at HR ⊢
                      generalize v2.alloc (ptO ⟨#[]⟩ none 0 0) = v3 at *
                      clear hbr
                      refine wpAnyH_ready (rs := [9]) (by kernel_rfl) (by simp) ?_
                      refine AllReadyH.cons rfl (fun K hK => ?_) (AllReadyH.nil)
                      refine step_append_sl rfl (.tmp 71) (.tmp 73) 38 rfl y0.heap.size 27 i0 (sgv zS) 17 128 Tryd.underlying38 hi0 hz0 hz1 hz2 rfl (by decide) (.slice p1 i k1) (i) (flatG (l.take i)) (by kernel_rfl) RW.out (some ⟨bt, 0, none⟩) (1) (1) (flatG [s]) (by kernel_rfl) LT.out (by unfold maxLen; omega) (by omega) BL.out.size ?_
                      intro u v4 hown hgrow
                      replace HR := Lib.hid (HR.out.kept hgrow (own_ne RW.out HR.out (by decide)))
                      replace BL := Lib.hid (BL.out.grown hgrow BL.out.size (fun j e => (RW.out.lt j e).1))
                      replace RW := Lib.hid hown
                      obtain ⟨pA1, kA1, rfl⟩ := own_val hown
                      clear hown hgrow LT
                      refine hK.out _ _ (SO.out _ BL.out) (fun _ => ?_)
                      clear hK K
                      refine wpAnyH_take (i := 10) (v := .agg #[.string nm, .slice pA1 (i + 1) kA1]) rfl (by kernel_rfl) (by kernel_rfl) (by kernel_rfl) (fun _ _ _ h => h) (Or.inl ⟨by kernel_rfl, fun _ _ => by go_simp⟩) (SO.out _ BL.out) ?_
                      refine wpAnyH_ready (rs := [12]) (by kernel_rfl) (by simp) ?_
                      refine AllReadyH.cons rfl (fun K hK => ?_) (AllReadyH.nil)
                      have x0 := HR.out.cell (j := 0) rfl
                      have x1 := HR.out.cell (j := 1) rfl
                      have ff := HR.out.frozen
                      rw [if_pos (by kernel_rfl)]
                      go_simp
                      replace BL := Lib.hid (w_put (w_put BL.out RL.out 0 (.string nm)) RL.out 1 (.slice pA1 (i + 1) kA1))
                      replace RW := Lib.hid (own_put (own_put RW.out (own_ne RW.out HR.out (by decide)) 0 (.string nm)) (own_ne (own_put RW.out (own_ne RW.out HR.out (by decide)) 0 (.string nm)) (HR.out.set 0 (.string nm)) (by decide)) 1 (.slice pA1 (i + 1) kA1))
                      replace HR := Lib.hid ((HR.out.set 0 (.string nm)).set 1 (.slice pA1 (i + 1) kA1))
                      refine hK.out _ _ (SO.out _ BL.out) (fun _ => ?_)
                      clear hK K x0 x1 ff
                      generalize (v4.setCell ⟨br, 0, none⟩ (.string nm)).setCell ⟨br, 1, none⟩ (.slice pA1 (i + 1) kA1) = v5 at *
                      refine wpAnyH_done (by kernel_rfl) ?_ _
                      rw [FL.out] at RW
                      have hsz := BY.out.size
                      go_wp2_with fail
                      go_meet
                      exact ⟨br, pA1, kA1, rfl, HR, Lib.hid (own_base RW.out hsz), Lib.hid (w_below BY.out BL.out), Lib.hid (Nat.le_trans hsz RL.out)⟩
                  · rw [if_pos (by kernel_rfl)]
                    go_simp
                    replace RW := Lib.hid (own_keep RW.out (w_alloc (w_refl _) (ptO ⟨#[]⟩ none 0 0)) (Nat.le_refl _))
                    have HR := Lib.hid (pt_new v1 ⟨#[]⟩ none 0 0)
                    have RS := BL.out.size
                    replace BL := Lib.hid (w_alloc BL.out (ptO ⟨#[]⟩ none 0 0))
                    refine hK.out _ _ (SO.out _ BL.out) (fun _ => ?_)
                    clear hK K
                    obtain ⟨br, hbr⟩ : ∃ x, v1.heap.size = x := ⟨_, rfl⟩
                    have RL := Lib.hid (show y0.heap.size ≤ br by rw [← hbr]; exact RS)
                    clear RS
                    rw [hbr] at HR ⊢
                    generalize v1.alloc (ptO ⟨#[]⟩ none 0 0) = v2 at *
                    clear hbr
                    refine wpAnyH_ready (rs := [8]) (by kernel_rfl) (by simp) ?_
                    refine AllReadyH.cons rfl (fun K hK => ?_) (AllReadyH.nil)
                    refine step_lit rfl (.tmp 72) rfl s (by kernel_rfl) ?_
                    replace RW := Lib.hid (own_keep RW.out (w_alloc (w_refl _) (sgO s)) (Nat.le_refl _))
                    replace HR := Lib.hid (HR.out.later (w_alloc (w_refl _) (sgO s)))
                    have LT := Lib.hid (one_sg v2 s)
                    replace BL := Lib.hid (w_alloc BL.out (sgO s))
                    refine hK.out _ _ (SO.out _ BL.out) (fun _ => ?_)
                    clear hK K
                    obtain ⟨bt, hbt⟩ : ∃ x, v2.heap.size = x := ⟨_, rfl⟩
                    rw [hbt] at LT ⊢
                    generalize v2.alloc (sgO s) = v3 at *
                    clear hbt
                    refine wpAnyH_ready (rs := [9]) (by kernel_rfl) (by simp) ?_
                    refine AllReadyH.cons rfl (fun K hK => ?_) (AllReadyH.nil)
                    refine step_append_sl rfl (.tmp 71) (.tmp 73) 38 rfl y0.heap.size 27 i0 (sgv zS) 17 128 Tryd.underlying38 hi0 hz0 hz1 hz2 rfl (by decide) (.slice p1 i k1) (i) (flatG (l.take i)) (by kernel_rfl) RW.out (some ⟨bt, 0, none⟩) (1) (1) (flatG [s]) (by kernel_rfl) LT.out (by unfold maxLen; omega) (by omega) BL.out.size ?_
                    intro u v4 hown hgrow
                    replace HR := Lib.hid (HR.out.kept hgrow (own_ne RW.out HR.out (by decide)))
                    replace BL := Lib.hid (BL.out.grown hgrow BL.out.size (fun j e => (RW.out.lt j e).1))
                    replace RW := Lib.hid hown
                    obtain ⟨pA1, kA1, rfl⟩ := own_val hown
                    clear hown hgrow LT
                    refine hK.out _ _ (SO.out _ BL.out) (fun _ => ?_)
                    clear hK K
                    refine wpAnyH_take (i := 10) (v := .agg #[.string nm, .slice pA1 (i + 1) kA1]) rfl (by kernel_rfl) (by kernel_rfl) (by kernel_rfl) (fun _ _ _ h => h) (Or.inl ⟨by kernel_rfl, fun _ _ => by go_simp⟩) (SO.out _ BL.out) ?_
                    refine wpAnyH_ready (rs := [12]) (by kernel_rfl) (by simp) ?_
                    refine AllReadyH.cons rfl (fun K hK => ?_) (AllReadyH.nil)
                    have x0 := HR.out.cell (j := 0) rfl
                    have x1 := HR.out.cell (j := 1) rfl
                    have ff := HR.out.frozen
                    rw [if_pos (by kernel_rfl)]
                    go_simp
                    replace BL := Lib.hid (w_put (w_put BL.out RL.out 0 (.string nm)) RL.out 1 (.slice pA1 (i + 1) kA1))
                    replace RW := Lib.hid (own_put (own_put RW.out (own_ne RW.out HR.out (by decide)) 0 (.string nm)) (own_ne (own_put RW.out (own_ne RW.out HR.out (by decide)) 0 (.string nm)) (HR.out.set 0 (.string nm)) (by decide)) 1 (.slice pA1 (i + 1) kA1))
                    replace HR := Lib.hid ((HR.out.set 0 (.string nm)).set 1 (.slice pA1 (i + 1) kA1))
                    refine hK.out _ _ (SO.out _ BL.out) (fun _ => ?_)
                    clear hK K x0 x1 ff
                    generalize (v4.setCell ⟨br, 0, none⟩ (.string nm)).setCell ⟨br, 1, none⟩ (.slice pA1 (i + 1) kA1) = v5 at *
                    refine wpAnyH_done (by kernel_rfl) ?_ _
                    rw [FL.out] at RW
                    have hsz := BY.out.size
                    go_wp2_with fail
                    go_meet
                    exact ⟨br, pA1, kA1, rfl, HR, Lib.hid (own_base RW.out hsz), Lib.hid (w_below BY.out BL.out), Lib.hid (Nat.le_trans hsz RL.out)⟩
              · as_aux_lemma =>
                  refine step_lit rfl (.tmp 72) rfl s (by kernel_rfl) ?_
                  have LT := Lib.hid (one_sg y0 s)
                  replace BL := Lib.hid (w_alloc BL.out (sgO s))
                  refine hK.out _ _ (SO.out _ BL.out) (fun _ => ?_)
                  clear hK K
                  obtain ⟨bt, hbt⟩ : ∃ x, y0.heap.size = x := ⟨_, rfl⟩
                  rw [hbt] at LT ⊢
                  generalize y0.alloc (sgO s) = v1 at *
                  clear hbt
                  refine wpAnyH_ready (rs := [6, 11]) (by kernel_rfl) (by simp) ?_
                  refine AllReadyH.cons rfl (fun K hK => ?_) (AllReadyH.cons rfl (fun K hK => ?_) (AllReadyH.nil))
                  · rw [if_pos (by kernel_rfl)]
                    go_simp
                    refine (OS.out _ (FT.out.later BL.out)).mono ?_
                    rintro e v2 ⟨v, rfl, ho⟩
                    obtain ⟨p1, k1, rfl⟩ := ho.val
                    have RW := Lib.hid (own_base ho.row BL.out.size)
                    replace LT := Lib.hid (LT.out.later ho.bel)
                    replace BL := Lib.hid (w_below BL.out ho.bel)
                    clear ho
                    go_simp
                    refine hK.out _ _ (SO.out _ BL.out) (fun _ => ?_)
                    clear hK K
                    refine wpAnyH_ready (rs := [9, 11]) (by kernel_rfl) (by simp) ?_
                    refine AllReadyH.cons rfl (fun K hK => ?_) (AllReadyH.cons rfl (fun K hK => ?_) (AllReadyH.nil))
                    · refine step_append_sl rfl (.tmp 71) (.tmp 73) 38 rfl y0.heap.size 27 i0 (sgv zS) 17 128 Tryd.underlying38 hi0 hz0 hz1 hz2 rfl (by decide) (.slice p1 i k1) (i) (flatG (l.take i)) (by kernel_rfl) RW.out (some ⟨bt, 0, none⟩) (1) (1) (flatG [s]) (by kernel_rfl) LT.out (by unfold maxLen; omega) (by omega) BL.out.size ?_
                      intro u v3 hown hgrow
                      replace BL := Lib.hid (BL.out.grown hgrow BL.out.size (fun j e => (RW.out.lt j e).1))
                      replace RW := Lib.hid hown
                      obtain ⟨pA1, kA1, rfl⟩ := own_val hown
                      clear hown hgrow LT
                      refine hK.out _ _ (SO.out _ BL.out) (fun _ => ?_)
                      clear hK K
                      refine wpAnyH_take (i := 10) (v := .agg #[.string nm, .slice pA1 (i + 1) kA1]) rfl (by kernel_rfl) (by kernel_rfl) (by kernel_rfl) (fun _ _ _ h => h) (Or.inl ⟨by kernel_rfl, fun _ _ => by go_simp⟩) (SO.out _ BL.out) ?_
                      refine wpAnyH_ready (rs := [11]) (by kernel_rfl) (by simp) ?_
                      refine AllReadyH.cons rfl (fun K hK => ?_) (AllReadyH.nil)
                      rw [if_pos (by kernel_rfl)]
                      go_simp
                      replace RW := Lib.hid (own_keep RW.out (w_alloc (w_refl _) (ptO ⟨#[]⟩ none 0 0)) (Nat.le_refl _))
                      have HR := Lib.hid (pt_new v3 ⟨#[]⟩ none 0 0)
                      have RS := BL.out.size
                      replace BL := Lib.hid (w_alloc BL.out (ptO ⟨#[]⟩ none 0 0))
                      refine hK.out _ _ (SO.out _ BL.out) (fun _ => ?_)
                      clear hK K
                      obtain ⟨br, hbr⟩ : ∃ x, v3.heap.size = x := ⟨_, rfl⟩
                      have RL := Lib.hid (show y0.heap.size ≤ br by rw [← hbr]; exact RS)
                      clear RS
                      rw [hbr] at HR ⊢
                      generalize v3.alloc (ptO ⟨#[]⟩ none 0 0) = v4 at *
                      clear hbr
                      refine wpAnyH_ready (rs := [12]) (by kernel_rfl) (by simp) ?_
                      refine AllReadyH.cons rfl (fun K hK => ?_) (AllReadyH.nil)
                      have x0 := HR.out.cell (j := 0) rfl
                      have x1 := HR.out.cell (j := 1) rfl
                      have ff := HR.out.frozen
                      rw [if_pos (by kernel_rfl)]
                      go_simp
                      replace BL := Lib.hid (w_put (w_put BL.out RL.out 0 (.string nm)) RL.out 1 (.slice pA1 (i + 1) kA1))
                      replace RW := Lib.hid (own_put (own_put RW.out (own_ne RW.out HR.out (by decide)) 0 (.string nm)) (own_ne (own_put RW.out (own_ne RW.out HR.out (by decide)) 0 (.string nm)) (HR.out.set 0 (.string nm)) (by decide)) 1 (.slice pA1 (i + 1) kA1))
                      replace HR := Lib.hid ((HR.out.set 0 (.string nm)).set 1 (.slice pA1 (i + 1) kA1))
                      refine hK.out _ _ (SO.out _ BL.out) (fun _ => ?_)
                      clear hK K x0 x1 ff
                      generalize (v4.setCell ⟨br, 0, none⟩ (.string nm)).setCell ⟨br, 1, none⟩ (.slice pA1 (i + 1) kA1) = v5 at *
                      refine wpAnyH_done (by kernel_rfl) ?_ _
                      rw [FL.out] at RW
                      have hsz := BY.out.size
                      go_wp2_with fail
                      go_meet
                      exact ⟨br, pA1, kA1, rfl, HR, Lib.hid (own_base RW.out hsz), Lib.hid (w_below BY.out BL.out), Lib.hid (Nat.le_trans hsz RL.out)⟩
                    · rw [if_pos (by kernel_rfl)]
                      go_simp
                      replace RW := Lib.hid (own_keep RW.out (w_alloc (w_refl _) (ptO ⟨#[]⟩ none 0 0)) (Nat.le_refl _))
                      replace LT := Lib.hid (LT.out.later (w_alloc (w_refl _) (ptO ⟨#[]⟩ none 0 0)))
                      have HR := Lib.hid (pt_new v2 ⟨#[]⟩ none 0 0)
                      have RS := BL.out.size
                      replace BL := Lib.hid (w_alloc BL.out (ptO ⟨#[]⟩ none 0 0))
                      refine hK.out _ _ (SO.out _ BL.out) (fun _ => ?_)
                      clear hK K
                      obtain ⟨br, hbr⟩ : ∃ x, v2.heap.size = x := ⟨_, rfl⟩
                      have RL := Lib.hid (show y0.heap.size ≤ br by rw [← hbr]; exact RS)
                      clear RS
                      rw [hbr] at HR ⊢
                      generalize v2.alloc (ptO ⟨#[]⟩ none 0 0) = v3 at *
                      clear hbr
                      refine wpAnyH_ready (rs := [9]) (by kernel_rfl) (by simp) ?_
                      refine AllReadyH.cons rfl (fun K hK => ?_) (AllReadyH.nil)
                      refine step_append_sl rfl (.tmp 71) (.tmp 73) 38 rfl y0.heap.size 27 i0 (sgv zS) 17 128 Tryd.underlying38 hi0 hz0 hz1 hz2 rfl (by decide) (.slice p1 i k1) (i) (flatG (l.take i)) (by kernel_rfl) RW.out (some ⟨bt, 0, none⟩) (1) (1) (flatG [s]) (by kernel_rfl) LT.out (by unfold maxLen; omega) (by omega) BL.out.size ?_
                      intro u v4 hown hgrow
                      replace HR := Lib.hid (HR.out.kept hgrow (own_ne RW.out HR.out (by decide)))
                      replace BL := Lib.hid (BL.out.grown hgrow BL.out.size (fun j e => (RW.out.lt j e).1))
                      replace RW := Lib.hid hown
                      obtain ⟨pA1, kA1, rfl⟩ := own_val hown
                      clear hown hgrow LT
                      refine hK.out _ _ (SO.out _ BL.out) (fun _ => ?_)
                      clear hK K
                      refine wpAnyH_take (i := 10) (v := .agg #[.string nm, .slice pA1 (i + 1) kA1]) rfl (by kernel_rfl) (by kernel_rfl) (by kernel_rfl) (fun _ _ _ h => h) (Or.inl ⟨by kernel_rfl, fun _ _ => by go_simp⟩) (SO.out _ BL.out) ?_
                      refine wpAnyH_ready (rs := [12]) (by kernel_rfl) (by simp) ?_
                      refine AllReadyH.cons rfl (fun K hK => ?_) (AllReadyH.nil)
                      have x0 := HR.out.cell (j := 0) rfl
                      have x1 := HR.out.cell (j := 1) rfl
                      have ff := HR.out.frozen
                      rw [if_pos (by kernel_rfl)]
                      go_simp
                      replace BL := Lib.hid (w_put (w_put BL.out RL.out 0 (.string nm)) RL.out 1 (.slice pA1 (i + 1) kA1))
                      replace RW := Lib.hid (own_put (own_put RW.out (own_ne RW.out HR.out (by decide)) 0 (.string nm)) (own_ne (own_put RW.out (own_ne RW.out HR.out (by decide)) 0 (.string nm)) (HR.out.set 0 (.string nm)) (by decide)) 1 (.slice pA1 (i + 1) kA1))
                      replace HR := Lib.hid ((HR.out.set 0 (.string nm)).set 1 (.slice pA1 (i + 1) kA1))
                      refine hK.out _ _ (SO.out _ BL.out) (fun _ => ?_)
                      clear hK K x0 x1 ff
                      generalize (v4.setCell ⟨br, 0, none⟩ (.string nm)).setCell ⟨br, 1, none⟩ (.slice pA1 (i + 1) kA1) = v5 at *
                      refine wpAnyH_done (by kernel_rfl) ?_ _
                      rw [FL.out] at RW
                      have hsz := BY.out.size
                      go_wp2_with fail
                      go_meet
                      exact ⟨br, pA1, kA1, rfl, HR, Lib.hid (own_base RW.out hsz), Lib.hid (w_below BY.out BL.out), Lib.hid (Nat.le_trans hsz RL.out)⟩
                  · rw [if_pos (by kernel_rfl)]
                    go_simp
                    replace LT := Lib.hid (LT.out.later (w_alloc (w_refl _) (ptO ⟨#[]⟩ none 0 0)))
                    have HR := Lib.hid (pt_new v1 ⟨#[]⟩ none 0 0)
                    have RS := BL.out.size
                    replace BL := Lib.hid (w_alloc BL.out (ptO ⟨#[]⟩ none 0 0))
                    refine hK.out _ _ (SO.out _ BL.out) (fun _ => ?_)
                    clear hK K
                    obtain ⟨br, hbr⟩ : ∃ x, v1.heap.size = x := ⟨_, rfl⟩
                    have RL := Lib.hid (show y0.heap.size ≤ br by rw [← hbr]; exact RS)
                    clear RS
                    rw [hbr] at HR ⊢
                    generalize v1.alloc (ptO ⟨#[]⟩ none 0 0) = v2 at *
                    clear hbr
                    refine wpAnyH_ready (rs := [6]) (by kernel_rfl) (by simp) ?_
                    refine AllReadyH.cons rfl (fun K hK => ?_) (AllReadyH.nil)
                    rw [if_pos (by kernel_rfl)]
                    go_simp
                    refine (OS.out _ (FT.out.later BL.out)).mono ?_
                    rintro e v3 ⟨v, rfl, ho⟩
                    obtain ⟨p1, k1, rfl⟩ := ho.val
                    have RW := Lib.hid (own_base ho.row BL.out.size)
                    replace HR := Lib.hid (HR.out.later ho.bel)
                    replace LT := Lib.hid (LT.out.later ho.bel)
                    replace BL := Lib.hid (w_below BL.out ho.bel)
                    clear ho
                    go_simp
                    refine hK.out _ _ (SO.out _ BL.out) (fun _ => ?_)
                    clear hK K
                    refine wpAnyH_ready (rs := [9]) (by kernel_rfl) (by simp) ?_
                    refine AllReadyH.cons rfl (fun K hK => ?_) (AllReadyH.nil)
                    refine step_append_sl rfl (.tmp 71) (.tmp 73) 38 rfl y0.heap.size 27 i0 (sgv zS) 17 128 Tryd.underlying38 hi0 hz0 hz1 hz2 rfl (by decide) (.slice p1 i k1) (i) (flatG (l.take i)) (by kernel_rfl) RW.out (some ⟨bt, 0, none⟩) (1) (1) (flatG [s]) (by kernel_rfl) LT.out (by unfold maxLen; omega) (by omega) BL.out.size ?_
                    intro u v4 hown hgrow
                    replace HR := Lib.hid (HR.out.kept hgrow (own_ne RW.out HR.out (by decide)))
                    replace BL := Lib.hid (BL.out.grown hgrow BL.out.size (fun j e => (RW.out.lt j e).1))
                    replace RW := Lib.hid hown
                    obtain ⟨pA1, kA1, rfl⟩ := own_val hown
                    clear hown hgrow LT
                    refine hK.out _ _ (SO.out _ BL.out) (fun _ => ?_)
                    clear hK K
                    refine wpAnyH_take (i := 10) (v := .agg #[.string nm, .slice pA1 (i + 1) kA1]) rfl (by kernel_rfl) (by kernel_rfl) (by kernel_rfl) (fun _ _ _ h => h) (Or.inl ⟨by kernel_rfl, fun _ _ => by go_simp⟩) (SO.out _ BL.out) ?_
                    refine wpAnyH_ready (rs := [12]) (by kernel_rfl) (by simp) ?_
                    refine AllReadyH.cons rfl (fun K hK => ?_) (AllReadyH.nil)
                    have x0 := HR.out.cell (j := 0) rfl
                    have x1 := HR.out.cell (j := 1) rfl
                    have ff := HR.out.frozen
                    rw [if_pos (by kernel_rfl)]
                    go_simp
                    replace BL := Lib.hid (w_put (w_put BL.out RL.out 0 (.string nm)) RL.out 1 (.slice pA1 (i + 1) kA1))
                    replace RW := Lib.hid (own_put (own_put RW.out (own_ne RW.out HR.out (by decide)) 0 (.string nm)) (own_ne (own_put RW.out (own_ne RW.out HR.out (by decide)) 0 (.string nm)) (HR.out.set 0 (.string nm)) (by decide)) 1 (.slice pA1 (i + 1) kA1))
                    replace HR := Lib.hid ((HR.out.set 0 (.string nm)).set 1 (.slice pA1 (i + 1) kA1))
                    refine hK.out _ _ (SO.out _ BL.out) (fun _ => ?_)
                    clear hK K x0 x1 ff
                    generalize (v4.setCell ⟨br, 0, none⟩ (.string nm)).setCell ⟨br, 1, none⟩ (.slice pA1 (i + 1) kA1) = v5 at *
                    refine wpAnyH_done (by kernel_rfl) ?_ _
                    rw [FL.out] at RW
                    have hsz := BY.out.size
                    go_wp2_with fail
                    go_meet
                    exact ⟨br, pA1, kA1, rfl, HR, Lib.hid (own_base RW.out hsz), Lib.hid (w_below BY.out BL.out), Lib.hid (Nat.le_trans hsz RL.out)⟩
              · as_aux_lemma =>
                  rw [if_pos (by kernel_rfl)]
                  go_simp
                  have HR := Lib.hid (pt_new y0 ⟨#[]⟩ none 0 0)
                  have RS := BL.out.size
                  replace BL := Lib.hid (w_alloc BL.out (ptO ⟨#[]⟩ none 0 0))
                  refine hK.out _ _ (SO.out _ BL.out) (fun _ => ?_)
                  clear hK K
                  obtain ⟨br, hbr⟩ : ∃ x, y0.heap.size = x := ⟨_, rfl⟩
                  have RL := Lib.hid (show y0.heap.size ≤ br by rw [← hbr]; exact RS)
                  clear RS
                  rw [hbr] at HR ⊢
                  generalize y0.alloc (ptO ⟨#[]⟩ none 0 0) = v1 at *
                  clear hbr
                  refine wpAnyH_ready (rs := [6, 8]) (by kernel_rfl) (by simp) ?_
                  refine AllReadyH.cons rfl (fun K hK => ?_) (AllReadyH.cons rfl (fun K hK => ?_) (AllReadyH.nil))
                  · rw [if_pos (by kernel_rfl)]
                    go_simp
                    refine (OS.out _ (FT.out.later BL.out)).mono ?_
                    rintro e v2 ⟨v, rfl, ho⟩
                    obtain ⟨p1, k1, rfl⟩ := ho.val
                    have RW := Lib.hid (own_base ho.row BL.out.size)
                    replace HR := Lib.hid (HR.out.later ho.bel)
                    replace BL := Lib.hid (w_below BL.out ho.bel)
                    clear ho
                    go_simp
                    refine hK.out _ _ (SO.out _ BL.out) (fun _ => ?_)
                    clear hK K
                    refine wpAnyH_ready (rs := [8]) (by kernel_rfl) (by simp) ?_
                    refine AllReadyH.cons rfl (fun K hK => ?_) (AllReadyH.nil)
                    refine step_lit rfl (.tmp 72) rfl s (by kernel_rfl) ?_
                    replace RW := Lib.hid (own_keep RW.out (w_alloc (w_refl _) (sgO s)) (Nat.le_refl _))
                    replace HR := Lib.hid (HR.out.later (w_alloc (w_refl _) (sgO s)))
                    have LT := Lib.hid (one_sg v2 s)
                    replace BL := Lib.hid (w_alloc BL.out (sgO s))
                    refine hK.out _ _ (SO.out _ BL.out) (fun _ => ?_)
                    clear hK K
                    obtain ⟨bt, hbt⟩ : ∃ x, v2.heap.size = x := ⟨_, rfl⟩
                    rw [hbt] at LT ⊢
                    generalize v2.alloc (sgO s) = v3 at *
                    clear hbt
                    refine wpAnyH_ready (rs := [9]) (by kernel_rfl) (by simp) ?_
                    refine AllReadyH.cons rfl (fun K hK => ?_) (AllReadyH.nil)
                    refine step_append_sl rfl (.tmp 71) (.tmp 73) 38 rfl y0.heap.size 27 i0 (sgv zS) 17 128 Tryd.underlying38 hi0 hz0 hz1 hz2 rfl (by decide) (.slice p1 i k1) (i) (flatG (l.take i)) (by kernel_rfl) RW.out (some ⟨bt, 0, none⟩) (1) (1) (flatG [s]) (by kernel_rfl) LT.out (by unfold maxLen; omega) (by omega) BL.out.size ?_
                    intro u v4 hown hgrow
                    replace HR := Lib.hid (HR.out.kept hgrow (own_ne RW.out HR.out (by decide)))
                    replace BL := Lib.hid (BL.out.grown hgrow BL.out.size (fun j e => (RW.out.lt j e).1))
                    replace RW := Lib.hid hown
                    obtain ⟨pA1, kA1, rfl⟩ := own_val hown
                    clear hown hgrow LT
                    refine hK.out _ _ (SO.out _ BL.out) (fun _ => ?_)
                    clear hK K
                    refine wpAnyH_take (i := 10) (v := .agg #[.string nm, .slice pA1 (i + 1) kA1]) rfl (by kernel_rfl) (by kernel_rfl) (by kernel_rfl) (fun _ _ _ h => h) (Or.inl ⟨by kernel_rfl, fun _ _ => by go_simp⟩) (SO.out _ BL.out) ?_
                    refine wpAnyH_ready (rs := [12]) (by kernel_rfl) (by simp) ?_
                    refine AllReadyH.cons rfl (fun K hK => ?_) (AllReadyH.nil)
                    have x0 := HR.out.cell (j := 0) rfl
                    have x1 := HR.out.cell (j := 1) rfl
                    have ff := HR.out.frozen
                    rw [if_pos (by kernel_rfl)]
                    go_simp
                    replace BL := Lib.hid (w_put (w_put BL.out RL.out 0 (.string nm)) RL.out 1 (.slice pA1 (i + 1) kA1))
                    replace RW := Lib.hid (own_put (own_put RW.out (own_ne RW.out HR.out (by decide)) 0 (.string nm)) (own_ne (own_put RW.out (own_ne RW.out HR.out (by decide)) 0 (.string nm)) (HR.out.set 0 (.string nm)) (by decide)) 1 (.slice pA1 (i + 1) kA1))
                    replace HR := Lib.hid ((HR.out.set 0 (.string nm)).set 1 (.slice pA1 (i + 1) kA1))
                    refine hK.out _ _ (SO.out _ BL.out) (fun _ => ?_)
                    clear hK K x0 x1 ff
                    generalize (v4.setCell ⟨br, 0, none⟩ (.string nm)).setCell ⟨br, 1, none⟩ (.slice pA1 (i + 1) kA1) = v5 at *
                    refine wpAnyH_done (by kernel_rfl) ?_ _
                    rw [FL.out] at RW
                    have hsz := BY.out.size
                    go_wp2_with fail
                    go_meet
                    exact ⟨br, pA1, kA1, rfl, HR, Lib.hid (own_base RW.out hsz), Lib.hid (w_below BY.out BL.out), Lib.hid (Nat.le_trans hsz RL.out)⟩
                  · refine step_lit rfl (.tmp 72) rfl s (by kernel_rfl) ?_
                    replace HR := Lib.hid (HR.out.later (w_alloc (w_refl _) (sgO s)))
                    have LT := Lib.hid (one_sg v1 s)
                    replace BL := Lib.hid (w_alloc BL.out (sgO s))
                    refine hK.out _ _ (SO.out _ BL.out) (fun _ => ?_)
                    clear hK K
                    obtain ⟨bt, hbt⟩ : ∃ x, v1.heap.size = x := ⟨_, rfl⟩
                    rw [hbt] at LT ⊢
                    generalize v1.alloc (sgO s) = v2 at *
                    clear hbt
                    refine wpAnyH_ready (rs := [6]) (by kernel_rfl) (by simp) ?_
                    refine AllReadyH.cons rfl (fun K hK => ?_) (AllReadyH.nil)
                    rw [if_pos (by kernel_rfl)]
                    go_simp
                    refine (OS.out _ (FT.out.later BL.out)).mono ?_
                    rintro e v3 ⟨v, rfl, ho⟩
                    obtain ⟨p1, k1, rfl⟩ := ho.val
                    have RW := Lib.hid (own_base ho.row BL.out.size)
                    replace HR := Lib.hid (HR.out.later ho.bel)
                    replace LT := Lib.hid (LT.out.later ho.bel)
                    replace BL := Lib.hid (w_below BL.out ho.bel)
                    clear ho
                    go_simp
                    refine hK.out _ _ (SO.out _ BL.out) (fun _ => ?_)
                    clear hK K
                    refine wpAnyH_ready (rs := [9]) (by kernel_rfl) (by simp) ?_
                    refine AllReadyH.cons rfl (fun K hK => ?_) (AllReadyH.nil)
                    refine step_append_sl rfl (.tmp 71) (.tmp 73) 38 rfl y0.heap.size 27 i0 (sgv zS) 17 128 Tryd.underlying38 hi0 hz0 hz1 hz2 rfl (by decide) (.slice p1 i k1) (i) (flatG (l.take i)) (by kernel_rfl) RW.out (some ⟨bt, 0, none⟩) (1) (1) (flatG [s]) (by kernel_rfl) LT.out (by unfold maxLen; omega) (by omega) BL.out.size ?_
                    intro u v4 hown hgrow
                    replace HR := Lib.hid (HR.out.kept hgrow (own_ne RW.out HR.out (by decide)))
                    replace BL := Lib.hid (BL.out.grown hgrow BL.out.size (fun j e => (RW.out.lt j e).1))
                    replace RW := Lib.hid hown
                    obtain ⟨pA1, kA1, rfl⟩ := own_val hown
                    clear hown hgrow LT
                    refine hK.out _ _ (SO.out _ BL.out) (fun _ => ?_)
                    clear hK K
                    refine wpAnyH_take (i := 10) (v := .agg #[.string nm, .slice pA1 (i + 1) kA1]) rfl (by kernel_rfl) (by kernel_rfl) (by kernel_rfl) (fun _ _ _ h => h) (Or.inl ⟨by kernel_rfl, fun _ _ => by go_simp⟩) (SO.out _ BL.out) ?_
                    refine wpAnyH_ready (rs := [12]) (by kernel_rfl) (by simp) ?_
                    refine AllReadyH.cons rfl (fun K hK => ?_) (AllReadyH.nil)
                    have x0 := HR.out.cell (j := 0) rfl
                    have x1 := HR.out.cell (j := 1) rfl
                    have ff := HR.out.frozen
                    rw [if_pos (by kernel_rfl)]
                    go_simp
                    replace BL := Lib.hid (w_put (w_put BL.out RL.out 0 (.string nm)) RL.out 1 (.slice pA1 (i + 1) kA1))
                    replace RW := Lib.hid (own_put (own_put RW.out (own_ne RW.out HR.out (by decide)) 0 (.string nm)) (own_ne (own_put RW.out (own_ne RW.out HR.out (by decide)) 0 (.string nm)) (HR.out.set 0 (.string nm)) (by decide)) 1 (.slice pA1 (i + 1) kA1))
                    replace HR := Lib.hid ((HR.out.set 0 (.string nm)).set 1 (.slice pA1 (i + 1) kA1))
                    refine hK.out _ _ (SO.out _ BL.out) (fun _ => ?_)
                    clear hK K x0 x1 ff
                    generalize (v4.setCell ⟨br, 0, none⟩ (.string nm)).setCell ⟨br, 1, none⟩ (.slice pA1 (i + 1) kA1) = v5 at *
                    refine wpAnyH_done (by kernel_rfl) ?_ _
                    rw [FL.out] at RW
                    have hsz := BY.out.size
                    go_wp2_with fail
                    go_meet
                    exact ⟨br, pA1, kA1, rfl, HR, Lib.hid (own_base RW.out hsz), Lib.hid (w_below BY.out BL.out), Lib.hid (Nat.le_trans hsz RL.out)⟩
            case rest =>
              have HW5 := Lib.hid FX.out.b.size
              obtain ⟨b13, p5, k5, rfl, HB, HO, HBl, H13⟩ := hcut
              rename World => y6
              replace FX := Lib.hid (FX.out.later HBl.out)
              replace HM := Lib.hid (HM.out.later HBl.out)
              clear FL HS
              have d0 := HB.out.cell (j := 0) rfl
              have d1 := HB.out.cell (j := 1) rfl
              have LN := Lib.hid (show (l.take i ++ [s]).length = i + 1 by rw [List.length_append, LT1.out]; rfl)
              have V1 := Lib.hid (show chkV true (l.take i ++ [s]) = (E, i) by have e := st_first (y := []) SX.out EN.out (by rw [List.length_append, LT1.out]; simp; omega); rw [LT1.out, ON.out] at e; exact e)
              have V2 := Lib.hid (show chkV true (l.take i ++ s :: more) = (E, i) by have e := st_first (y := more) SX.out EN.out (by rw [List.length_append, LT1.out, List.length_cons]; omega); rw [LT1.out, ON.out] at e; exact e)
              have LN2 := Lib.hid (show (l.take i ++ s :: more).length = i + 1 + more.length by rw [List.length_append, LT1.out, List.length_cons]; omega)
              have PC := Lib.hid (fun q c W g t => pchk_own nm NS.out NA.out (l.take i ++ [s]) _ LN.out (E, i) V1.out q c W g t)
              have PD := Lib.hid (fun q c W g t => pchk_own nm NS.out NA.out (l.take i ++ s :: more) _ LN2.out (E, i) V2.out q c W g t)
              have FL2 := Lib.hid (show flatG (l.take i ++ [s]) ++ flatG more = flatG (l.take i ++ s :: more) by rw [← flatG_app, List.append_assoc]; rfl)
              have hmi : i + 1 + more.length ≤ 400 := by omega
              clear V1 V2 SX
              go_wp2_with fail
              refine (PC.out p5 k5 _ (own_sl HO.out LN.out) (TT.out _ FX.out.b)).mono ?_
              rintro e w7 ⟨rfl, hb⟩
              replace FX := Lib.hid (FX.out.later hb)
              replace HM := Lib.hid (HM.out.later hb)
              replace HO := Lib.hid (own_keep HO.out hb (Nat.le_refl _))
              replace HB := Lib.hid (HB.out.later hb)
              replace HBl := Lib.hid (w_below HBl.out hb)
              clear hb PC d0 d1
              have d1 := HB.out.cell (j := 1) rfl
              go_wp2_with (first | (at_builtin; refine wpList_append_sl rfl _ _ 38 rfl y5.heap.size 27 i0 (sgv zS) 17 128 Tryd.underlying38 hi0 hz0 hz1 hz2 rfl (by decide) _ (i + 1) (flatG (l.take i ++ [s])) rfl HO.out pm more.length cm (flatG more) rfl HM.out (by unfold maxLen; omega) (by omega) HBl.out.size ?_) | fail)
              intro v8 w8 hown hgrow
              have BW := Lib.hid ((w_below FX.out.b (w_refl _)).grown hgrow FX.out.b.size (fun j e => Nat.le_trans HW5.out (HO.out.lt j e).1))
              replace HB := Lib.hid (HB.out.kept hgrow (own_ne HO.out HB.out (by decide)))
              replace HO := Lib.hid hown
              obtain ⟨p8, k8, rfl⟩ := own_val hown
              clear hown hgrow FX HM d1 HBl
              rw [FL2.out] at HO
              have f1 := HB.out.frozen 1
              have e1 := HB.out.cell (j := 1) rfl
              go_upto_region 12 with (fail)
              replace HO := Lib.hid (own_put HO.out (own_ne HO.out HB.out (by decide)) 1 (.slice p8 (i + 1 + more.length) k8))
              replace BW := Lib.hid (w_put BW.out (Nat.le_trans HW5.out H13.out) 1 (.slice p8 (i + 1 + more.length) k8))
              replace HB := Lib.hid (HB.out.set 1 (.slice p8 (i + 1 + more.length) k8))
              clear f1 e1
              generalize w8.setCell ⟨b13, 1, none⟩ (.slice p8 (i + 1 + more.length) k8) = y9 at *
              have d0 := HB.out.cell (j := 0) rfl
              have d1 := HB.out.cell (j := 1) rfl
              generalize hn5 : i + 1 + more.length = n5 at *
              clear hn5
              go_wp2_with fail
              refine (PD.out p8 k8 _ (own_sl HO.out LN2.out) (TT.out _ BW.out)).mono ?_
              rintro e w9 ⟨rfl, hb⟩
              replace BW := Lib.hid (w_below BW.out hb)
              clear hb PD d0 d1
              go_wp2_with fail
              go_ret
              exact ⟨rfl, BW.out⟩

end Go.Proofs.YtcomjcflllfobaaDoor
