/- The statements' own ligatures: drawn, and what its values read as. -/
import Derived.Test.YtedkcnphplpacaaLgKit
import Derived.Test.YtedkcnphplpacaaLgLit
import Derived.Test.YtedkcnphplpacaaLgRefG
import Derived.Test.YtedkcnphplpacaaLgProgD
namespace Go.Proofs.Ytedkcnphplpacaa
open Go.RowKit

def drS (p : Int) (last obl : Bool) : Sg := ⟨4, 0, p, 0, false, 0, obl, last, 0, 0, 0, 0, false, 0, 0, 0, 0⟩
def drL (ps sl : List Int) : List Sg := (List.range ps.length).map fun i => drS (ps.getD i 0) (decide (i + 1 = ps.length)) (decide ((i : Int) ∈ sl))
def drawG (ps : List Int) (stem : Int) (sl : List Int) : List Sg := (drL ps sl).set 0 (setSt ((drL ps sl).getD 0 zS) stem)
theorem drL_len (ps sl : List Int) : (drL ps sl).length = ps.length := by unfold drL; simp
theorem drawG_len (ps : List Int) (stem : Int) (sl : List Int) : (drawG ps stem sl).length = ps.length := by unfold drawG; rw [List.length_set, drL_len]
theorem drL_take (ps sl : List Int) {k : Nat} (hk : k < ps.length) : (drL ps sl).take (k + 1) = (drL ps sl).take k ++ [drS (ps.getD k 0) (decide (k + 1 = ps.length)) (decide ((k : Int) ∈ sl))] := by
  rw [List.take_add_one]
  unfold drL
  rw [List.getElem?_map, List.getElem?_range hk]; rfl

set_option maxRecDepth 100000 in
set_option maxHeartbeats 1000000 in
theorem drawn_any (ps : List Int) (stem : Int) (sl : List Int) (hn : ps.length ≤ 1000) (p : Option Addr) (cp : Nat) (qs : Option Addr) (cs : Nat) (w : World) (hp : SlP w 1 p ps.length cp (ints ps)) (hq : SlP w 1 qs sl.length cs (ints sl)) :
    Calls Try.prog 10 #[.slice p ps.length cp, .int .i64 stem, .slice qs sl.length cs] w fun e w' => ∃ v, e = .returned v ∧ OwnL w w' 30 17 v ps.length (flatG (drawG ps stem sl)) := by
  obtain ⟨i0, hi0, hz0, hz1, hz2⟩ := info_parts info_sign
  have f1 := hp.fit
  have f2 := hp.max
  have f3 := hq.fit
  have f4 := hq.max
  have HP := Lib.hid hp
  have HQ := Lib.hid hq
  have HT := Lib.hid (fun k hk => drL_take ps sl (k := k) hk)
  have hb0 : (drL ps sl).take 0 = [] := rfl
  have hln := drL_len ps sl
  have hbn : (drL ps sl).take ps.length = drL ps sl := List.take_of_length_le (by omega)
  have HB := Lib.hid hbn
  have HD := Lib.hid (show drawG ps stem sl = (drL ps sl).set 0 (setSt ((drL ps sl).getD 0 zS) stem) from rfl)
  have HA0 := Lib.hid (fun (k : Nat) W h => has_any qs cs sl (k : Int) W h)
  have HLN := Lib.hid hln
  clear hp hq hbn hln
  generalize drawG ps stem sl = DG at *
  generalize drL ps sl = dl at *
  go_enter Try.func10, Try.ntmps10
  go_wp2_with fail
  go_loopw [7, 8] (fun v i wr => ∃ k : Nat, k ≤ ps.length ∧ i = .int .i64 k ∧ (∃ q c, v = .slice q k c) ∧ Hid (OwnL w wr 30 17 v k (flatG (dl.take k)))) (fun _ i _ => ps.length - (intOf i).toNat)
  case atStart => exact ⟨0, by omega, rfl, ⟨none, 0, rfl⟩, Lib.hid (by rw [hb0]; exact OwnL.start _ _ _)⟩
  case round =>
    rename World => wr
    clear hb0
    obtain ⟨k, hk, rfl, ⟨q, c, rfl⟩, ho⟩ := hrel
    by_cases hlt : k < ps.length
    · have hlt' : (k : Int) < ps.length := by omega
      have hk0 : (0 : Int) ≤ k := by omega
      obtain ⟨b, off, rfl, _, _⟩ := HP.out.at_ (by omega)
      have hE := Lib.hid (show flatG (dl.take (k + 1)) = flatG (dl.take k) ++ sgL (drS (ps.getD k 0) (decide (k + 1 = ps.length)) (decide ((k : Int) ∈ sl))) by
        rw [HT.out k hlt, flatG_app]; simp [flatG])
      have hlb : ((k : Int) == (ps.length : Int) - 1) = decide (k + 1 = ps.length) := by
        by_cases e : k + 1 = ps.length
        · rw [decide_eq_true e]; simp; omega
        · rw [decide_eq_false e]; simp; omega
      have x1 : IntKind.i64.wrap ((ps.length : Int) - 1) = (ps.length : Int) - 1 := IntWalk.i64_in _ (by omega)
      have HA := Lib.hid (HA0.out k)
      generalize decide (k + 1 = ps.length) = lb at *
      generalize decide ((k : Int) ∈ sl) = hb at *
      have FX0 := Lib.hid (show OwnL w wr 30 17 (.slice q k c) k (flatG (dl.take k)) ∧ SlP wr 1 (some ⟨b, off, none⟩) ps.length cp (ints ps) ∧ SlP wr 1 qs sl.length cs (ints sl) from ⟨ho.out, HP.out.later ho.out.bel, HQ.out.later ho.out.bel⟩)
      clear ho HT HB HD HA0 HLN
      go_wp2_with fail
      refine wp_region_held (S := (fun W => W.cell? ⟨b, off + k, none⟩ = some (.int .i64 (ps.getD k 0)))) (by kernel_rfl) ?_
      change wpAnyH _ _ _ _ _ _ _ _ (World.drew _)
      have FX := Lib.hid (show OwnL w (World.drew wr) 30 17 (.slice q k c) k (flatG (dl.take k)) ∧ SlP (World.drew wr) 1 (some ⟨b, off, none⟩) ps.length cp (ints ps) ∧ SlP (World.drew wr) 1 qs sl.length cs (ints sl) from ⟨FX0.out.1.later (w_refl _).drew, FX0.out.2.1.later (w_refl _).drew, FX0.out.2.2.later (w_refl _).drew⟩)
      clear FX0
      generalize World.drew wr = y at *
      refine wpAnyH_take (i := 0) (v := .slice q k c) rfl (by kernel_rfl) (by kernel_rfl) (by kernel_rfl) (fun _ _ _ h => h) (Or.inl ⟨by kernel_rfl, fun _ _ => by go_simp⟩) (int_at FX.out.2.1 hlt) ?_
      refine wpAnyH_take (i := 1) (v := .slice (some ⟨b, off, none⟩) ps.length cp) rfl (by kernel_rfl) (by kernel_rfl) (by kernel_rfl) (fun _ _ _ h => h) (Or.inl ⟨by kernel_rfl, fun _ _ => by go_simp⟩) (int_at FX.out.2.1 hlt) ?_
      refine wpAnyH_take (i := 2) (v := .int .i64 (k : Int)) rfl (by kernel_rfl) (by kernel_rfl) (by kernel_rfl) (fun _ _ _ h => h) (Or.inl ⟨by kernel_rfl, fun _ _ => by go_simp⟩) (int_at FX.out.2.1 hlt) ?_
      refine wpAnyH_take (i := 3) (v := .pointer (some ⟨b, off + k, none⟩)) rfl (by kernel_rfl) (by kernel_rfl) (by kernel_rfl) (fun _ _ _ h => h) (Or.inl ⟨by kernel_rfl, fun _ _ => by go_simp⟩) (int_at FX.out.2.1 hlt) ?_
      refine wpAnyH_take (i := 4) (v := .int .i64 (ps.getD k 0)) rfl (by kernel_rfl) (by kernel_rfl) (by kernel_rfl) (fun _ _ _ h => h) (Or.inl ⟨by kernel_rfl, fun W hW => by go_simp⟩) (int_at FX.out.2.1 hlt) ?_
      refine wpAnyH_take (i := 5) (v := .int .i64 (k : Int)) rfl (by kernel_rfl) (by kernel_rfl) (by kernel_rfl) (fun _ _ _ h => h) (Or.inl ⟨by kernel_rfl, fun _ _ => by go_simp⟩) (int_at FX.out.2.1 hlt) ?_
      refine wpAnyH_take (i := 6) (v := .slice (some ⟨b, off, none⟩) ps.length cp) rfl (by kernel_rfl) (by kernel_rfl) (by kernel_rfl) (fun _ _ _ h => h) (Or.inl ⟨by kernel_rfl, fun _ _ => by go_simp⟩) (int_at FX.out.2.1 hlt) ?_
      refine wpAnyH_take (i := 7) (v := .int .i64 (ps.length : Int)) rfl (by kernel_rfl) (by kernel_rfl) (by kernel_rfl) (fun _ _ _ h => h) (Or.inl ⟨by kernel_rfl, fun _ _ => by go_simp⟩) (int_at FX.out.2.1 hlt) ?_
      refine wpAnyH_take (i := 8) (v := .int .i64 ((ps.length : Int) - 1)) rfl (by kernel_rfl) (by kernel_rfl) (by kernel_rfl) (fun _ _ _ h => h) (Or.inl ⟨by kernel_rfl, fun _ _ => by go_simp⟩) (int_at FX.out.2.1 hlt) ?_
      refine wpAnyH_take (i := 9) (v := .bool lb) rfl (by kernel_rfl) (by kernel_rfl) (by kernel_rfl) (fun _ _ _ h => h) (Or.inl ⟨by kernel_rfl, fun _ _ => by go_simp⟩) (int_at FX.out.2.1 hlt) ?_
      refine wpAnyH_take (i := 10) (v := .slice qs sl.length cs) rfl (by kernel_rfl) (by kernel_rfl) (by kernel_rfl) (fun _ _ _ h => h) (Or.inl ⟨by kernel_rfl, fun _ _ => by go_simp⟩) (int_at FX.out.2.1 hlt) ?_
      refine wpAnyH_take (i := 11) (v := .int .i64 (k : Int)) rfl (by kernel_rfl) (by kernel_rfl) (by kernel_rfl) (fun _ _ _ h => h) (Or.inl ⟨by kernel_rfl, fun _ _ => by go_simp⟩) (int_at FX.out.2.1 hlt) ?_
      refine wpAnyH_ready (rs := [12]) (by kernel_rfl) (by simp) ?_
      refine AllReadyH.cons rfl (fun K hK => ?_) AllReadyH.nil
      rw [if_pos (by kernel_rfl)]
      go_simp
      go_at_call 37
      refine (HA.out _ FX.out.2.2).mono ?_
      rintro e wn ⟨rfl, rfl⟩
      clear HA
      go_simp
      refine hK.out _ _ (int_at FX.out.2.1 hlt) (fun _ => ?_)
      clear hK K
      refine wpAnyH_take (i := 13) (v := sgv (drS (ps.getD k 0) lb hb)) rfl (by kernel_rfl) (by kernel_rfl) (by kernel_rfl) (fun _ _ _ h => h) (Or.inl ⟨by kernel_rfl, fun _ _ => by (first | (go_simp; done) | (go_simp; rfl))⟩) (int_at FX.out.2.1 hlt) ?_
      refine wpAnyH_ready (rs := [14]) (by kernel_rfl) (by simp) ?_
      refine AllReadyH.cons rfl (fun K hK => ?_) AllReadyH.nil
      refine step_lit rfl (.tmp 28) rfl (drS (ps.getD k 0) lb hb) (by kernel_rfl) ?_
      have hLt := lit_new y (sgA (drS (ps.getD k 0) lb hb)) 30
      have hFx := (show _ ∧ _ ∧ _ from ⟨FX.out.1.later (w_alloc (w_refl y) (sgO (drS (ps.getD k 0) lb hb))), FX.out.2.1.later (w_alloc (w_refl y) (sgO (drS (ps.getD k 0) lb hb))), FX.out.2.2.later (w_alloc (w_refl y) (sgO (drS (ps.getD k 0) lb hb)))⟩)
      change K _ (World.alloc y (.cells (sgA (drS (ps.getD k 0) lb hb)) 30))
      have LT := Lib.hid hLt
      replace FX := Lib.hid hFx
      clear hLt hFx
      refine hK.out _ _ (int_at FX.out.2.1 hlt) (fun _ => ?_)
      clear hK K
      unfold sgO at FX
      generalize hy : World.alloc y (.cells (sgA (drS (ps.getD k 0) lb hb)) 30) = y2 at *
      clear hy
      refine wpAnyH_ready (rs := [15]) (by kernel_rfl) (by simp) ?_
      refine AllReadyH.cons rfl (fun K hK => ?_) AllReadyH.nil
      refine step_append_lies _ rfl (.tmp 15) (.tmp 29) 23 rfl w.heap.size 30 i0 (sgv zS) 17 128 Try.underlying23 hi0 hz0 hz1 hz2 rfl (by decide) (.slice q k c) k (flatG (dl.take k)) (by kernel_rfl) FX.out.1.row ⟨y.heap.size, 0, none⟩ 1 1 (sgL (drS (ps.getD k 0) lb hb)) (by kernel_rfl) rfl LT.out (sgL_one _) (by decide) (by unfold maxLen; omega) (by omega) FX.out.1.bel.size _ rfl ?_
      intro g9 c9 y5 hown hgrow hat hgl
      have hFx := (show OwnL w y5 30 17 (.slice (some ⟨g9, 0, none⟩) (k + 1) c9) (k + 1) (flatG (dl.take k) ++ sgL (drS (ps.getD k 0) lb hb)) ∧ SlP y5 1 (some ⟨b, off, none⟩) ps.length cp (ints ps) from ⟨FX.out.1.app (w_refl y2) hown hgrow, HP.out.later (FX.out.1.app (w_refl y2) hown hgrow).bel⟩)
      replace FX := Lib.hid (show _ ∧ _ ∧ True from ⟨hFx.1, hFx.2, trivial⟩)
      clear hFx hown hgrow hat hgl LT
      refine hK.out _ _ (int_at FX.out.2.1 hlt) (fun _ => ?_)
      clear hK K
      refine wpAnyH_take (i := 16) (v := .slice (some ⟨g9, 0, none⟩) (k + 1) c9) rfl (by kernel_rfl) (by kernel_rfl) (by kernel_rfl) (fun _ _ _ h => h) (Or.inl ⟨by kernel_rfl, fun _ _ => by go_simp⟩) (int_at FX.out.2.1 hlt) ?_
      refine wpAnyH_done (by kernel_rfl) ?_ _
      go_wp2_with fail
      try simp only [Act.put, List.getElem_toArray, List.getElem_cons_succ, List.getElem_cons_zero, List.setIfInBounds_toArray, List.set_cons_succ, List.set_cons_zero]
      have HN := Lib.hid (show OwnL w y5 30 17 (.slice (some ⟨g9, 0, none⟩) (k + 1) c9) (k + 1) (flatG (dl.take (k + 1))) by rw [hE.out]; exact FX.out.1)
      clear FX hE hlb
      go_roundw
      case rel => exact ⟨k + 1, by omega, by go_num, ⟨some ⟨g9, 0, none⟩, c9, rfl⟩, HN⟩
      case measure => simp [intOf]; omega
    · obtain rfl : k = ps.length := by omega
      have hlt' : ¬ ((ps.length : Int) < ps.length) := by omega
      rw [HB.out] at ho
      clear HT HB HA0
      by_cases h0 : 0 < ps.length
      · have h0' : (0 : Int) < ps.length := by omega
        obtain ⟨g, rfl, hgb, hgl⟩ := own_some ho.out.row h0
        have hs0 := sg_some (l := dl) (i := 0) (by rw [HLN.out]; exact h0)
        have hs5 := flatG_at dl 0 _ hs0 5 (by decide)
        have d5 : wr.cell? ⟨g, 5, none⟩ = some (.int .i64 (dl.getD 0 zS).stem) := by
          have := ho.out.row.cellAt 5 (by omega)
          rw [this]
          simp only [Nat.zero_mul, Nat.zero_add] at hs5
          rw [hs5]; rfl
        have fr5 := ho.out.row.frozenAt 5
        have R2 := own_set ho.out.row 5 (.int .i64 stem)
        have hst := flatG_stem dl 0 _ stem hs0
        simp only [Nat.zero_mul, Nat.zero_add] at hst
        rw [hst, ← HD.out] at R2
        have HR := Lib.hid (show OwnL w (wr.setCell ⟨g, 5, none⟩ (.int .i64 stem)) 30 17 (.slice (some ⟨g, 0, none⟩) ps.length c) ps.length (flatG DG) from ⟨w_put ho.out.bel hgb _ _, R2⟩)
        clear ho HD HLN hs0 hs5 R2 hst
        go_wp2_with fail
        go_ret
        exact ⟨_, rfl, HR.out⟩
      · have h0' : ¬ (0 : Int) < ps.length := by omega
        have hd : dl = [] := List.eq_nil_of_length_eq_zero (by rw [HLN.out]; omega)
        have hdg : DG = dl := by rw [HD.out, hd]; rfl
        rw [← hdg] at ho
        clear HD hd hdg HLN
        go_wp2_with fail
        go_ret
        exact ⟨_, rfl, ho.out⟩

/-- What the values of a ligature read as. -/
theorem reads_any (l : List Sg) (hm : l.length ≤ 1000) (want : List Int) (h0 : (chkG l).1 = 0) (hv : valsG l = want) (p : Option Addr) (cap : Nat) (q : Option Addr) (cq : Nat) (w : World) (h : SlP w 17 p l.length cap (flatG l)) (hq : SlP w 1 q want.length cq (ints want)) :
    Calls Try.prog 11 #[.slice p l.length cap, .slice q want.length cq] w fun e w' => e = .returned (.bool true) ∧ Below w.heap.size w w' := by
  have PV := Lib.hid (plvals_any l hm p cap w h)
  unfold ValPost at PV
  rw [if_pos h0, h0, hv] at PV
  have HQ := Lib.hid hq
  have SI := Lib.hid (fun m p q cp cq W hp hq => samei_any p q cp cq m W hp hq)
  clear h hq h0 hv
  go_enter Try.func11, Try.ntmps11
  go_wp2_with fail
  refine PV.out.mono ?_
  rintro e w1 ⟨v, rfl, ⟨q1, c1, rfl, hs1⟩, hb⟩
  have H1 := Lib.hid hs1
  have H2 := Lib.hid (HQ.out.later hb)
  have B := Lib.hid hb
  clear hs1 hb PV HQ
  go_wp2_with fail
  refine (SI.out want q1 q c1 cq _ H1.out H2.out).mono ?_
  rintro e w2 ⟨rfl, hb⟩
  replace B := Lib.hid (w_below B.out hb)
  clear hb SI H1 H2
  go_wp2_with fail
  go_ret
  exact ⟨rfl, B.out⟩

end Go.Proofs.Ytedkcnphplpacaa
