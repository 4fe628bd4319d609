/- The reference's Rule. -/
import Derived.Test.YthokapebcplmkaaDRefC
import Derived.Test.YthokapebcplmkaaDByr
namespace Go.Proofs.Ythokapebcplmkaa
open Go.RowKit

theorem next_lt {l : List Sg} {k : Nat} {v : Int} (h : nextV l k = none ∨ ∃ y, nextV l k = some y ∧ v < y) : k + 1 ≥ l.length ∨ (k + 1 < l.length ∧ v < (l.getD (k + 1) zS).val) := by
  by_cases c : k + 1 < l.length
  · refine .inr ⟨c, ?_⟩
    have e : nextV l k = some (l.getD (k + 1) zS).val := by unfold nextV; rw [List.getElem?_eq_getElem c, List.getD_eq_getElem?_getD, List.getElem?_eq_getElem c]; rfl
    rcases h with h | ⟨y, h, hy⟩
    · rw [e] at h; cases h
    · rw [e] at h; cases h; exact hy
  · exact .inl (by omega)
theorem next_ge {l : List Sg} {k : Nat} {v : Int} (h : ¬ (nextV l k = none ∨ ∃ y, nextV l k = some y ∧ v < y)) : k + 1 < l.length ∧ ¬ v < (l.getD (k + 1) zS).val := by
  by_cases c : k + 1 < l.length
  · refine ⟨c, fun hv => h (.inr ⟨_, ?_, hv⟩)⟩
    unfold nextV; rw [List.getElem?_eq_getElem c, List.getD_eq_getElem?_getD, List.getElem?_eq_getElem c]; rfl
  · exact absurd (.inl (by unfold nextV; rw [List.getElem?_eq_none (by omega)]; rfl)) h
theorem sl_same {w : World} {cap : Nat} {l : List Sg} {b off : Nat} (h : SlP w 17 (some ⟨b, off, none⟩) l.length cap (flatG l)) {i : Nat} (hi : i < l.length) : SgAt w b (off + i * 17) (l.getD i zS) := by
  obtain ⟨bb', off', eb, _, hsg2⟩ := h.sg (sg_some hi)
  injection eb with eb
  injection eb with eb1 eb2 _
  subst eb1 eb2
  exact hsg2

set_option maxRecDepth 100000 in
set_option maxHeartbeats 8000000 in
theorem rrul_any (q : Q4) (l : List Sg) (hl : l.length ≤ 1000) (p : Option Addr) (cap : Nat) (w : World) (h : SlP w 17 p l.length cap (flatG l)) :
    Calls Try.prog 16 #[mv q, .slice p l.length cap] w (RuPost q l w) := by
  obtain ⟨i0, hi0, hz0, hz1, hz2⟩ := info_parts info_int
  have f1 := h.fit
  have f2 := h.max
  have K0 := Lib.hid (Cell4.made w q 23)
  have B0 := Lib.hid (w_alloc (w_refl w) (mO q))
  have HP := Lib.hid h
  have CK := Lib.hid (fun W hh => rchk_any q l hl p cap W hh)
  clear h
  unfold RuPost
  by_cases hc : chkD q l = 0
  · rw [ruD_ok hc, hc]
    rw [hc] at CK
    obtain ⟨hm, hv⟩ := chkD_zero hc
    have DP := Lib.hid (fun k hk hd => dot_prev hv (k := k) hk hd)
    have RM0 := Lib.hid (fun s hs hv hn W => rmean_any q hm s hs hv hn W)
    have HLEN := Lib.hid (fun k => (show (ruP q l k).length ≤ k by rw [ruP_len]; exact mnP_len q l k))
    have RO := Lib.hid (fun p cap zs v W hh => rown_any p cap zs v W hh)
    have AB0 := Lib.hid (fun v W => rabove_any q v W)
    clear hc hm hv
    obtain ⟨q1, q2, q3, q4⟩ := q
    go_enter Try.func16, Try.ntmps16
    obtain ⟨_, k0, k1, k2, k3, _⟩ := K0.out
    simp only at k0 k1 k2 k3
    go_wp2_with fail
    refine (CK.out _ (HP.out.later B0.out)).mono ?_
    rintro e w1 ⟨rfl, hb⟩
    have B1 := Lib.hid (w_below B0.out hb)
    have KM0 := Lib.hid (K0.out.later hb)
    clear hb k0 k1 k2 k3 K0 B0 CK
    obtain ⟨bm, hbm⟩ : ∃ bm, w.heap.size = bm := ⟨_, rfl⟩
    rw [hbm] at KM0 ⊢
    clear hbm
    go_wp2_with fail
    go_loopw [7, 8, 9, 10, 11] (fun s7 s8 _ _ _ wr => ∃ k : Nat, k ≤ l.length ∧ s8 = .int .i64 k ∧ Hid (OwnL w1 wr 3 1 s7 (ruP (q1, q2, q3, q4) l k).length (ints (ruP (q1, q2, q3, q4) l k)))) (fun _ s8 _ _ _ _ => l.length - (intOf s8).toNat)
    case atStart => exact ⟨0, by omega, rfl, Lib.hid (OwnL.start _ _ _)⟩
    case round =>
      rename World => wr
      obtain ⟨k, hk, rfl, GV⟩ := hrel
      obtain ⟨q5, c5, hv⟩ := GV.out.val
      subst hv
      by_cases hlt : k < l.length
      · have hlt' : (k : Int) < l.length := by omega
        have hk0 : (0 : Int) ≤ k := by omega
        have hs := sg_some hlt
        have HPr := Lib.hid (HP.out.later (w_below B1.out GV.out.bel))
        obtain ⟨bb, off, rfl, _, hsg⟩ := HPr.out.sg hs
        have e0 := hsg.e0
        have hll := HLEN.out k
        clear hsg hs
        by_cases h3 : (l.getD k zS).kind = 3
        · have e3 := e0
          rw [h3] at e3
          have hE := Lib.hid (ruP_dot (q := (q1, q2, q3, q4)) h3)
          obtain ⟨j, hj, _, hkd, hbf, hne, hv1, hv2⟩ := DP.out k hlt h3
          have hjl : j < l.length := by omega
          have hjl2 : (j : Int) < l.length := by omega
          have hj0 : (0 : Int) ≤ j := by omega
          have hsg2 := sl_same HPr.out hjl
          have x1 : IntKind.i64.wrap ((k : Int) - 1) = (j : Int) := by rw [IntWalk.i64_in _ (by omega)]; omega
          have x2 : IntKind.i64.wrap ((k : Int) + 1) = (k : Int) + 1 := IntWalk.i64_in _ (by omega)
          have RM := Lib.hid (fun W => RM0.out _ hkd ⟨hv1, hv2⟩ hne W)
          have HR1 := Lib.hid (fun h => rul_one (q := (q1, q2, q3, q4)) (s := l.getD j zS) (x := nextV l k) h)
          have HR2 := Lib.hid (fun h h2 => rul_own (q := (q1, q2, q3, q4)) (s := l.getD j zS) (x := nextV l k) h h2)
          have HR3 := Lib.hid (fun h h2 => rul_abv (q := (q1, q2, q3, q4)) (s := l.getD j zS) (x := nextV l k) h h2)
          have HFO := Lib.hid (fun h => fO_mns (q := (q1, q2, q3, q4)) (s := l.getD j zS) hne h)
          have AB := Lib.hid (fun W => AB0.out (l.getD j zS).val W)
          have NXT := Lib.hid (fun (hn : k + 1 < l.length) W (b : Below w.heap.size w W) => (sl_same (HP.out.later b) hn).e1)
          rw [hbf] at hE
          have FX0 := Lib.hid (show Cell4 wr bm (q1, q2, q3, q4) ∧ SgAt wr bb (off + j * 17) (l.getD j zS) ∧ OwnL w1 wr 3 1 (.slice q5 (ruP (q1, q2, q3, q4) l k).length c5) (ruP (q1, q2, q3, q4) l k).length (ints (ruP (q1, q2, q3, q4) l k)) from ⟨KM0.out.later GV.out.bel, hsg2, GV.out⟩)
          clear DP RM0 HLEN e0 h3 hj hkd hbf hne hv1 hv2 hsg2 HPr GV AB0
          generalize ruP (q1, q2, q3, q4) l k = LL at *
          generalize mns (q1, q2, q3, q4) (l.getD j zS) = X at *
          generalize rul (q1, q2, q3, q4) (l.getD j zS) (nextV l k) = RR at *
          generalize l.getD j zS = sj at *
          go_wp2_with fail
          clear e3
          refine wp_region_held (S := (fun W => W.cell? ⟨bm, 0, none⟩ = some (.int .i64 q1) ∧ W.cell? ⟨bm, 1, none⟩ = some (.int .i64 q2) ∧ W.cell? ⟨bm, 2, none⟩ = some (.int .i64 q3) ∧ W.cell? ⟨bm, 3, none⟩ = some (.int .i64 q4) ∧ SgAt W bb (off + j * 17) sj)) (by kernel_rfl) ?_
          change wpAnyH _ _ _ _ _ _ _ _ (World.drew _)
          have FX := Lib.hid (show Cell4 (World.drew wr) bm (q1, q2, q3, q4) ∧ SgAt (World.drew wr) bb (off + j * 17) sj ∧ OwnL w1 (World.drew wr) 3 1 (.slice q5 LL.length c5) LL.length (ints LL) from ⟨FX0.out.1.later (w_refl _).drew, FX0.out.2.1.later (w_refl _).drew, FX0.out.2.2.later (w_refl _).drew⟩)
          clear FX0
          generalize World.drew wr = y at *
          refine wpAnyH_take (i := 0) (v := mv (q1, q2, q3, q4)) rfl (by kernel_rfl) (by kernel_rfl) (by kernel_rfl) (fun _ _ _ h => h) (Or.inl ⟨by kernel_rfl, fun W hW => by (obtain ⟨c0, c1, c2, c3, _⟩ := hW; go_simp)⟩) ⟨FX.out.1.c0, FX.out.1.c1, FX.out.1.c2, FX.out.1.c3, FX.out.2.1⟩ ?_
          refine wpAnyH_take (i := 1) (v := .slice (some ⟨bb, off, none⟩) l.length cap) rfl (by kernel_rfl) (by kernel_rfl) (by kernel_rfl) (fun _ _ _ h => h) (Or.inl ⟨by kernel_rfl, fun _ _ => by go_simp⟩) ⟨FX.out.1.c0, FX.out.1.c1, FX.out.1.c2, FX.out.1.c3, FX.out.2.1⟩ ?_
          refine wpAnyH_take (i := 2) (v := .int .i64 (k : Int)) rfl (by kernel_rfl) (by kernel_rfl) (by kernel_rfl) (fun _ _ _ h => h) (Or.inl ⟨by kernel_rfl, fun _ _ => by go_simp⟩) ⟨FX.out.1.c0, FX.out.1.c1, FX.out.1.c2, FX.out.1.c3, FX.out.2.1⟩ ?_
          refine wpAnyH_take (i := 3) (v := .int .i64 (j : Int)) rfl (by kernel_rfl) (by kernel_rfl) (by kernel_rfl) (fun _ _ _ h => h) (Or.inl ⟨by kernel_rfl, fun _ _ => by go_simp⟩) ⟨FX.out.1.c0, FX.out.1.c1, FX.out.1.c2, FX.out.1.c3, FX.out.2.1⟩ ?_
          refine wpAnyH_take (i := 4) (v := .pointer (some ⟨bb, off + j * 17, none⟩)) rfl (by kernel_rfl) (by kernel_rfl) (by kernel_rfl) (fun _ _ _ h => h) (Or.inl ⟨by kernel_rfl, fun _ _ => by go_simp⟩) ⟨FX.out.1.c0, FX.out.1.c1, FX.out.1.c2, FX.out.1.c3, FX.out.2.1⟩ ?_
          refine wpAnyH_take (i := 5) (v := sgv sj) rfl (by kernel_rfl) (by kernel_rfl) (by kernel_rfl) (fun _ _ _ h => h) (sg_yields (.tmp 34) bb (off + j * 17) sj (by kernel_rfl) rfl (by kernel_rfl) (fun _ h => h.2.2.2.2)) ⟨FX.out.1.c0, FX.out.1.c1, FX.out.1.c2, FX.out.1.c3, FX.out.2.1⟩ ?_
          refine wpAnyH_ready (rs := [6]) (by kernel_rfl) (by simp) ?_
          refine AllReadyH.cons rfl (fun K hK => ?_) AllReadyH.nil
          rw [if_pos (by kernel_rfl)]
          go_simp
          go_at_call 46
          refine (RM.out _).mono ?_
          rintro e y1 ⟨u, rfl, ho⟩
          obtain ⟨pu, cu, rfl⟩ := ho.val
          have HU := Lib.hid (show y1.ownsRow w1.heap.size 3 1 (.slice pu X.length cu) X.length (ints X) from own_base ho.row FX.out.2.2.bel.size)
          replace FX := Lib.hid (show Cell4 y1 bm (q1, q2, q3, q4) ∧ SgAt y1 bb (off + j * 17) sj ∧ OwnL w1 y1 3 1 (.slice q5 LL.length c5) LL.length (ints LL) from ⟨FX.out.1.later ho.bel, FX.out.2.1.later ho.bel, FX.out.2.2.later ho.bel⟩)
          clear ho RM
          go_simp
          refine hK.out _ _ ⟨FX.out.1.c0, FX.out.1.c1, FX.out.1.c2, FX.out.1.c3, FX.out.2.1⟩ (fun _ => ?_)
          clear hK K
          refine wpAnyH_take (i := 7) (v := .slice pu X.length cu) rfl (by kernel_rfl) (by kernel_rfl) (by kernel_rfl) (fun _ _ _ h => h) (Or.inl ⟨by kernel_rfl, fun _ _ => by go_simp⟩) ⟨FX.out.1.c0, FX.out.1.c1, FX.out.1.c2, FX.out.1.c3, FX.out.2.1⟩ ?_
          refine wpAnyH_done (by kernel_rfl) ?_ _
          have FX0 := Lib.hid (show Cell4 y1 bm (q1, q2, q3, q4) ∧ SgAt y1 bb (off + j * 17) sj ∧ OwnL w1 y1 3 1 (.slice q5 LL.length c5) LL.length (ints LL) ∧ IntV y1 (.slice pu X.length cu) X from ⟨FX.out.1, FX.out.2.1, FX.out.2.2, IntV.of_own HU.out⟩)
          clear FX HU
          generalize aboV (q1, q2, q3, q4) sj.val = ab at *
          generalize valE (q1, q2, q3, q4) sj.val = er at *
          generalize ownM (q1, q2, q3, q4) sj.val = ow at *
          go_wp2_with fail
          refine wp_region_held (S := (fun W => W.cell? ⟨bm, 0, none⟩ = some (.int .i64 q1) ∧ W.cell? ⟨bm, 1, none⟩ = some (.int .i64 q2) ∧ W.cell? ⟨bm, 2, none⟩ = some (.int .i64 q3) ∧ W.cell? ⟨bm, 3, none⟩ = some (.int .i64 q4) ∧ W.cell? ⟨bb, off + j * 17 + 1, none⟩ = some (.int .i64 sj.val))) (by kernel_rfl) ?_
          change wpAnyH _ _ _ _ _ _ _ _ (World.drew _)
          have FX := Lib.hid (show Cell4 (World.drew y1) bm (q1, q2, q3, q4) ∧ SgAt (World.drew y1) bb (off + j * 17) sj ∧ OwnL w1 (World.drew y1) 3 1 (.slice q5 LL.length c5) LL.length (ints LL) ∧ IntV (World.drew y1) (.slice pu X.length cu) X from ⟨FX0.out.1.later (w_refl _).drew, FX0.out.2.1.later (w_refl _).drew, FX0.out.2.2.1.later (w_refl _).drew, FX0.out.2.2.2.later (w_refl _).drew⟩)
          clear FX0
          generalize World.drew y1 = z at *
          refine wpAnyH_take (i := 0) (v := mv (q1, q2, q3, q4)) rfl (by kernel_rfl) (by kernel_rfl) (by kernel_rfl) (fun _ _ _ h => h) (Or.inl ⟨by kernel_rfl, fun W hW => by (obtain ⟨c0, c1, c2, c3, _⟩ := hW; go_simp)⟩) ⟨FX.out.1.c0, FX.out.1.c1, FX.out.1.c2, FX.out.1.c3, FX.out.2.1.e1⟩ ?_
          refine wpAnyH_take (i := 1) (v := .slice (some ⟨bb, off, none⟩) l.length cap) rfl (by kernel_rfl) (by kernel_rfl) (by kernel_rfl) (fun _ _ _ h => h) (Or.inl ⟨by kernel_rfl, fun _ _ => by go_simp⟩) ⟨FX.out.1.c0, FX.out.1.c1, FX.out.1.c2, FX.out.1.c3, FX.out.2.1.e1⟩ ?_
          refine wpAnyH_take (i := 2) (v := .int .i64 (k : Int)) rfl (by kernel_rfl) (by kernel_rfl) (by kernel_rfl) (fun _ _ _ h => h) (Or.inl ⟨by kernel_rfl, fun _ _ => by go_simp⟩) ⟨FX.out.1.c0, FX.out.1.c1, FX.out.1.c2, FX.out.1.c3, FX.out.2.1.e1⟩ ?_
          refine wpAnyH_take (i := 3) (v := .int .i64 (j : Int)) rfl (by kernel_rfl) (by kernel_rfl) (by kernel_rfl) (fun _ _ _ h => h) (Or.inl ⟨by kernel_rfl, fun _ _ => by go_simp⟩) ⟨FX.out.1.c0, FX.out.1.c1, FX.out.1.c2, FX.out.1.c3, FX.out.2.1.e1⟩ ?_
          refine wpAnyH_take (i := 4) (v := .pointer (some ⟨bb, off + j * 17, none⟩)) rfl (by kernel_rfl) (by kernel_rfl) (by kernel_rfl) (fun _ _ _ h => h) (Or.inl ⟨by kernel_rfl, fun _ _ => by go_simp⟩) ⟨FX.out.1.c0, FX.out.1.c1, FX.out.1.c2, FX.out.1.c3, FX.out.2.1.e1⟩ ?_
          refine wpAnyH_take (i := 5) (v := .pointer (some ⟨bb, off + j * 17 + 1, none⟩)) rfl (by kernel_rfl) (by kernel_rfl) (by kernel_rfl) (fun _ _ _ h => h) (Or.inl ⟨by kernel_rfl, fun _ _ => by go_simp⟩) ⟨FX.out.1.c0, FX.out.1.c1, FX.out.1.c2, FX.out.1.c3, FX.out.2.1.e1⟩ ?_
          refine wpAnyH_take (i := 6) (v := .int .i64 sj.val) rfl (by kernel_rfl) (by kernel_rfl) (by kernel_rfl) (fun _ _ _ h => h) (Or.inl ⟨by kernel_rfl, fun W hW => by (obtain ⟨_, _, _, _, c4⟩ := hW; go_simp)⟩) ⟨FX.out.1.c0, FX.out.1.c1, FX.out.1.c2, FX.out.1.c3, FX.out.2.1.e1⟩ ?_
          refine wpAnyH_ready (rs := [7]) (by kernel_rfl) (by simp) ?_
          refine AllReadyH.cons rfl (fun K hK => ?_) AllReadyH.nil
          rw [if_pos (by kernel_rfl)]
          go_simp
          go_at_call 42
          refine (AB.out _).mono ?_
          rintro e y2 ⟨rfl, hb⟩
          replace FX := Lib.hid (show Cell4 y2 bm (q1, q2, q3, q4) ∧ SgAt y2 bb (off + j * 17) sj ∧ OwnL w1 y2 3 1 (.slice q5 LL.length c5) LL.length (ints LL) ∧ IntV y2 (.slice pu X.length cu) X from ⟨FX.out.1.later hb, FX.out.2.1.later hb, FX.out.2.2.1.later hb, FX.out.2.2.2.later hb⟩)
          clear hb AB
          go_simp
          refine hK.out _ _ ⟨FX.out.1.c0, FX.out.1.c1, FX.out.1.c2, FX.out.1.c3, FX.out.2.1.e1⟩ (fun _ => ?_)
          clear hK K
          refine wpAnyH_take (i := 8) (v := .tuple #[.int .i64 ab, .int .i64 er]) rfl (by kernel_rfl) (by kernel_rfl) (by kernel_rfl) (fun _ _ _ h => h) (Or.inl ⟨by kernel_rfl, fun _ _ => by go_simp⟩) ⟨FX.out.1.c0, FX.out.1.c1, FX.out.1.c2, FX.out.1.c3, FX.out.2.1.e1⟩ ?_
          refine wpAnyH_take (i := 9) (v := .int .i64 ab) rfl (by kernel_rfl) (by kernel_rfl) (by kernel_rfl) (fun _ _ _ h => h) (Or.inl ⟨by kernel_rfl, fun _ _ => by go_simp⟩) ⟨FX.out.1.c0, FX.out.1.c1, FX.out.1.c2, FX.out.1.c3, FX.out.2.1.e1⟩ ?_
          refine wpAnyH_take (i := 10) (v := .int .i64 er) rfl (by kernel_rfl) (by kernel_rfl) (by kernel_rfl) (fun _ _ _ h => h) (Or.inl ⟨by kernel_rfl, fun _ _ => by go_simp⟩) ⟨FX.out.1.c0, FX.out.1.c1, FX.out.1.c2, FX.out.1.c3, FX.out.2.1.e1⟩ ?_
          refine wpAnyH_take (i := 11) (v := .int .i64 ab) rfl (by kernel_rfl) (by kernel_rfl) (by kernel_rfl) (fun _ _ _ h => h) (Or.inl ⟨by kernel_rfl, fun _ _ => by go_simp⟩) ⟨FX.out.1.c0, FX.out.1.c1, FX.out.1.c2, FX.out.1.c3, FX.out.2.1.e1⟩ ?_
          refine wpAnyH_take (i := 12) (v := .int .i64 er) rfl (by kernel_rfl) (by kernel_rfl) (by kernel_rfl) (fun _ _ _ h => h) (Or.inl ⟨by kernel_rfl, fun _ _ => by go_simp⟩) ⟨FX.out.1.c0, FX.out.1.c1, FX.out.1.c2, FX.out.1.c3, FX.out.2.1.e1⟩ ?_
          refine wpAnyH_done (by kernel_rfl) ?_ _
          have ACC := Lib.hid FX.out.2.2.1
          have sjv := FX.out.2.1.e1
          have hX := FX.out.2.2.2
          obtain ⟨p9, c9, e9, hXs⟩ := hX
          injection e9 with e91 _ e92
          subst e91 e92
          have HX := Lib.hid hXs
          clear hXs
          by_cases hX1 : X.length = 1
          · have hX2 : ((X.length : Int) == 1) = true := by simp; omega
            have hr := HR1.out hX1
            obtain ⟨x0, rfl⟩ := List.length_eq_one_iff.1 hX1
            rw [hr] at hE
            have hE := Lib.hid (show ruP (q1, q2, q3, q4) l (k + 1) = LL ++ [x0] from hE.out)
            obtain ⟨b9, o9, rfl, _, hc9⟩ := HX.out.at_ (by simp)
            have c9 := hc9 0 (.int .i64 x0) rfl
            simp only [Nat.add_zero] at c9
            clear hc9 HX HR1 HR2 HR3 HFO NXT hX1 hr hX2 RO
            simp only [List.length_cons, List.length_nil, Nat.zero_add]
            have HA0 := ACC
            have HA := Lib.hid (show OwnL w1 (World.alloc y2 (.cells #[.int .i64 x0] 3)) 3 1 (.slice q5 LL.length c5) LL.length (ints LL) from ACC.out.later (w_alloc (w_refl y2) _))
            clear FX sjv
            go_wp2_with (at_builtin; refine wpList_append_own_at _ rfl _ _ 32 rfl w1.heap.size 3 i0 (.int .i64 0) 1 8 Try.underlying32 hi0 hz0 hz1 hz2 rfl (by decide) _ LL.length (ints LL) rfl HA.out.row ⟨y2.heap.size, 0, none⟩ 1 1 (ints [x0]) rfl rfl (lit_new _ _ _) (ints_one _) (by unfold maxLen; omega) (by omega) HA.out.bel.size ?_)
            intro v' w3 hown hgrow _ _
            have HN := Lib.hid (show OwnL w1 w3 3 1 v' (LL.length + 1) (ints LL ++ ints [x0]) from HA.out.app (w_refl _) hown hgrow)
            clear hown hgrow HA
            go_wp2_with fail
            try simp only [Act.put, List.getElem_toArray, List.getElem_cons_succ, List.getElem_cons_zero, List.setIfInBounds_toArray, List.set_cons_succ, List.set_cons_zero]
            exact ⟨⟨k + 1, by omega, by go_num, Lib.hid (by rw [hE.out, List.length_append, show ints (LL ++ [x0]) = ints LL ++ ints [x0] from List.map_append ..]; exact HN.out)⟩, by simp [intOf]; omega⟩
          · have hX2 : ((X.length : Int) == 1) = false := by simp; omega
            by_cases hnx : nextV l k = none ∨ ∃ y, nextV l k = some y ∧ sj.val < y
            · have hr := HR2.out hX1 hnx
              rw [hr, ← HFO.out hX1] at hE
              rcases next_lt hnx with hend | ⟨hin, hgt⟩
              · have hq1 : ((k : Int) + 1 == (l.length : Int)) = true := by simp; omega
                clear HR1 HR2 HR3 HFO NXT hX1 hr hnx hend
                go_wp2_with fail
                go_quiet (fail)
                obtain ⟨y3, hy3⟩ : ∃ y3, y2.drewN nq = y3 := ⟨_, rfl⟩
                have hby := Lib.hid (show Below y2.heap.size y2 y3 from by rw [← hy3]; exact below_drewN (w_refl y2) _)
                have ACC3 := Lib.hid (ACC.out.later hby.out)
                have HX3 := Lib.hid (HX.out.later hby.out)
                have sj3 := cell_later hby.out sjv
                rw [hy3]
                clear hy3 ACC HX sjv hby FX
                go_wp2_with fail
                refine (RO.out pu cu X sj.val _ HX3.out).mono ?_
                rintro e w9 ⟨rfl, rfl⟩
                clear RO HX3
                generalize fO X sj.val = xv at *
                have HA := Lib.hid (show OwnL w1 (World.alloc y3 (.cells #[.int .i64 xv] 3)) 3 1 (.slice q5 LL.length c5) LL.length (ints LL) from ACC3.out.later (w_alloc (w_refl y3) _))
                go_wp2_with (at_builtin; refine wpList_append_own_at _ rfl _ _ 32 rfl w1.heap.size 3 i0 (.int .i64 0) 1 8 Try.underlying32 hi0 hz0 hz1 hz2 rfl (by decide) _ LL.length (ints LL) rfl HA.out.row ⟨y3.heap.size, 0, none⟩ 1 1 (ints [xv]) rfl rfl (lit_new _ _ _) (ints_one _) (by unfold maxLen; omega) (by omega) HA.out.bel.size ?_)
                intro v' w3 hown hgrow _ _
                have HN := Lib.hid (show OwnL w1 w3 3 1 v' (LL.length + 1) (ints LL ++ ints [xv]) from HA.out.app (w_refl _) hown hgrow)
                clear hown hgrow HA
                go_wp2_with fail
                try simp only [Act.put, List.getElem_toArray, List.getElem_cons_succ, List.getElem_cons_zero, List.setIfInBounds_toArray, List.set_cons_succ, List.set_cons_zero]
                exact ⟨⟨k + 1, by omega, by go_num, Lib.hid (by rw [hE.out, List.length_append, show ints (LL ++ [xv]) = ints LL ++ ints [xv] from List.map_append ..]; exact HN.out)⟩, by simp [intOf]; omega⟩
              · have hq1 : ((k : Int) + 1 == (l.length : Int)) = false := by simp; omega
                have cn := NXT.out hin _ (w_below B1.out ACC.out.bel)
                have hin2 : (k : Int) + 1 < l.length := by omega
                have hin0 : (0 : Int) ≤ (k : Int) + 1 := by omega
                clear HR1 HR2 HR3 HFO NXT hX1 hr hnx
                generalize (l.getD (k + 1) zS).val = vn at *
                go_wp2_with fail
                go_quiet (fail)
                obtain ⟨y3, hy3⟩ : ∃ y3, y2.drewN nq = y3 := ⟨_, rfl⟩
                have hby := Lib.hid (show Below y2.heap.size y2 y3 from by rw [← hy3]; exact below_drewN (w_refl y2) _)
                have ACC3 := Lib.hid (ACC.out.later hby.out)
                have HX3 := Lib.hid (HX.out.later hby.out)
                have sj3 := cell_later hby.out sjv
                rw [hy3]
                clear hy3 ACC HX sjv hby FX
                go_wp2_with fail
                refine (RO.out pu cu X sj.val _ HX3.out).mono ?_
                rintro e w9 ⟨rfl, rfl⟩
                clear RO HX3
                generalize fO X sj.val = xv at *
                have HA := Lib.hid (show OwnL w1 (World.alloc y3 (.cells #[.int .i64 xv] 3)) 3 1 (.slice q5 LL.length c5) LL.length (ints LL) from ACC3.out.later (w_alloc (w_refl y3) _))
                go_wp2_with (at_builtin; refine wpList_append_own_at _ rfl _ _ 32 rfl w1.heap.size 3 i0 (.int .i64 0) 1 8 Try.underlying32 hi0 hz0 hz1 hz2 rfl (by decide) _ LL.length (ints LL) rfl HA.out.row ⟨y3.heap.size, 0, none⟩ 1 1 (ints [xv]) rfl rfl (lit_new _ _ _) (ints_one _) (by unfold maxLen; omega) (by omega) HA.out.bel.size ?_)
                intro v' w3 hown hgrow _ _
                have HN := Lib.hid (show OwnL w1 w3 3 1 v' (LL.length + 1) (ints LL ++ ints [xv]) from HA.out.app (w_refl _) hown hgrow)
                clear hown hgrow HA
                go_wp2_with fail
                try simp only [Act.put, List.getElem_toArray, List.getElem_cons_succ, List.getElem_cons_zero, List.setIfInBounds_toArray, List.set_cons_succ, List.set_cons_zero]
                exact ⟨⟨k + 1, by omega, by go_num, Lib.hid (by rw [hE.out, List.length_append, show ints (LL ++ [xv]) = ints LL ++ ints [xv] from List.map_append ..]; exact HN.out)⟩, by simp [intOf]; omega⟩
            · have hr := HR3.out hX1 hnx
              rw [hr] at hE
              obtain ⟨hin, hgt⟩ := next_ge hnx
              have hq1 : ((k : Int) + 1 == (l.length : Int)) = false := by simp; omega
              have cn := NXT.out hin _ (w_below B1.out ACC.out.bel)
              have hin2 : (k : Int) + 1 < l.length := by omega
              have hin0 : (0 : Int) ≤ (k : Int) + 1 := by omega
              clear HR1 HR2 HR3 HFO NXT hX1 hr hnx
              generalize (l.getD (k + 1) zS).val = vn at *
              go_wp2_with fail
              go_quiet (fail)
              obtain ⟨y3, hy3⟩ : ∃ y3, y2.drewN nq = y3 := ⟨_, rfl⟩
              have hby := Lib.hid (show Below y2.heap.size y2 y3 from by rw [← hy3]; exact below_drewN (w_refl y2) _)
              have ACC3 := Lib.hid (ACC.out.later hby.out)
              have HX3 := Lib.hid (HX.out.later hby.out)
              have sj3 := cell_later hby.out sjv
              rw [hy3]
              clear hy3 ACC HX sjv hby FX
              clear RO HX3
              have HA := Lib.hid (show OwnL w1 (World.alloc y3 (.cells #[.int .i64 ab] 3)) 3 1 (.slice q5 LL.length c5) LL.length (ints LL) from ACC3.out.later (w_alloc (w_refl y3) _))
              go_wp2_with (at_builtin; refine wpList_append_own_at _ rfl _ _ 32 rfl w1.heap.size 3 i0 (.int .i64 0) 1 8 Try.underlying32 hi0 hz0 hz1 hz2 rfl (by decide) _ LL.length (ints LL) rfl HA.out.row ⟨y3.heap.size, 0, none⟩ 1 1 (ints [ab]) rfl rfl (lit_new _ _ _) (ints_one _) (by unfold maxLen; omega) (by omega) HA.out.bel.size ?_)
              intro v' w3 hown hgrow _ _
              have HN := Lib.hid (show OwnL w1 w3 3 1 v' (LL.length + 1) (ints LL ++ ints [ab]) from HA.out.app (w_refl _) hown hgrow)
              clear hown hgrow HA
              go_wp2_with fail
              try simp only [Act.put, List.getElem_toArray, List.getElem_cons_succ, List.getElem_cons_zero, List.setIfInBounds_toArray, List.set_cons_succ, List.set_cons_zero]
              exact ⟨⟨k + 1, by omega, by go_num, Lib.hid (by rw [hE.out, List.length_append, show ints (LL ++ [ab]) = ints LL ++ ints [ab] from List.map_append ..]; exact HN.out)⟩, by simp [intOf]; omega⟩
        · have h31 : ((l.getD k zS).kind != 3) = true := by simpa using h3
          have hE := Lib.hid (ruP_not (q := (q1, q2, q3, q4)) h3)
          clear DP RM0 HLEN h3 HPr hll
          generalize (l.getD k zS).kind = kk at *
          go_wp2_with fail
          exact ⟨⟨k + 1, by omega, by go_num, Lib.hid (by (rw [hE.out]; exact GV.out))⟩, by simp [intOf]; omega⟩
      · obtain rfl : k = l.length := by omega
        have hlt' : ¬ ((l.length : Int) < l.length) := by omega
        have HF := Lib.hid (show IntV wr (.slice q5 (ruP (q1, q2, q3, q4) l l.length).length c5) (ruP (q1, q2, q3, q4) l l.length) ∧ Below w.heap.size w wr from ⟨IntV.of_own GV.out.row, w_below B1.out GV.out.bel⟩)
        clear GV HLEN DP RM0
        go_wp2_with fail
        go_ret2
        exact ⟨_, rfl, HF.out.1, HF.out.2⟩
  · rw [ruD_no hc]
    have h1 : (chkD q l != 0) = true := by simp [hc]
    have h2 : (chkD q l == 0) = false := by simp [hc]
    clear hc
    generalize chkD q l = E at *
    obtain ⟨q1, q2, q3, q4⟩ := q
    go_enter Try.func16, Try.ntmps16
    obtain ⟨_, k0, k1, k2, k3, _⟩ := K0.out
    simp only at k0 k1 k2 k3
    go_wp2_with fail
    refine (CK.out _ (HP.out.later B0.out)).mono ?_
    rintro e w1 ⟨rfl, hb⟩
    have B1 := Lib.hid (w_below B0.out hb)
    have KM0 := Lib.hid (K0.out.later hb)
    clear hb k0 k1 k2 k3 K0 B0 CK
    obtain ⟨bm, hbm⟩ : ∃ bm, w.heap.size = bm := ⟨_, rfl⟩
    rw [hbm] at KM0 ⊢
    clear hbm
    go_wp2_with fail
    go_ret2
    exact ⟨_, rfl, IntV.none _, B1.out⟩


end Go.Proofs.Ythokapebcplmkaa
