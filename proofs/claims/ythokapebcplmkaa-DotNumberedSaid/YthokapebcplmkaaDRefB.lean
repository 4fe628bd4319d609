/- The reference's Check. -/
import Derived.Test.YthokapebcplmkaaDRefA
namespace Go.Proofs.Ythokapebcplmkaa
open Go.RowKit

/-- The number of the note or rest that sign k directly follows. -/
def lastI (l : List Sg) (k : Nat) : Int := if k = 0 then -1 else if (l.getD (k - 1) zS).kind = 3 then -1 else (k : Int) - 1

set_option maxHeartbeats 1000000 in
theorem rlast_any (l : List Sg) (k : Nat) (hk : k < l.length) (p : Option Addr) (cap : Nat) (w : World) (h : SlP w 17 p l.length cap (flatG l)) :
    Calls Try.prog 55 #[.slice p l.length cap, .int .i64 (k : Int)] w fun e w' => e = .returned (.int .i64 (lastI l k)) ∧ w = w' := by
  have f1 := h.fit
  have f2 := h.max
  by_cases h0 : k = 0
  · subst h0
    clear h
    go_enter Try.func55, Try.ntmps55
    go_wp2_with fail
    go_ret
    exact ⟨rfl, rfl⟩
  · obtain ⟨j, hj⟩ : ∃ j, k = j + 1 := ⟨k - 1, by omega⟩
    have hjl : j < l.length := by omega
    have hjl2 : (j : Int) < l.length := by omega
    have hj0 : (0 : Int) ≤ j := by omega
    have hkp : (0 : Int) < k := by omega
    have x1 : IntKind.i64.wrap ((k : Int) - 1) = (j : Int) := by rw [IntWalk.i64_in _ (by omega)]; omega
    have hs := sg_some hjl
    obtain ⟨bb, off, rfl, _, hsg⟩ := h.sg hs
    have e0 := hsg.1
    have HI := Lib.hid (show lastI l k = if (l.getD j zS).kind = 3 then -1 else (j : Int) from by
      unfold lastI; rw [if_neg h0, show k - 1 = j by omega, show (k : Int) - 1 = (j : Int) by omega])
    clear h hsg hs h0 hj
    generalize l.getD j zS = s at *
    generalize lastI l k = R at *
    by_cases h3 : s.kind = 3
    · have h31 : (s.kind != 3) = false := by simp [h3]
      rw [if_pos h3] at HI
      clear h3
      go_enter Try.func55, Try.ntmps55
      go_wp2_with fail
      go_ret
      exact ⟨by rw [HI.out]; rfl, rfl⟩
    · have h31 : (s.kind != 3) = true := by simp [h3]
      rw [if_neg h3] at HI
      clear h3
      go_enter Try.func55, Try.ntmps55
      go_wp2_with fail
      go_ret
      exact ⟨by rw [HI.out]; rfl, rfl⟩

theorem abo_z (q : Q4) : aboV q 0 = 0 := by
  unfold aboV
  rw [if_neg (fun e => by have := (valE_zero e).2; omega)]
theorem mns_z (q : Q4) : (mns q zS).length = 0 := by
  unfold mns
  rw [if_neg (by decide), if_pos (abo_z q)]; rfl
/-- The error of a dot, as the reference finds it. -/
theorem err_ref (q : Q4) (l : List Sg) (k : Nat) (h3 : (l.getD k zS).kind = 3) (hb : ∀ j, j < k → errD q l j = 0) :
    (lastI l k = -1 ∧ errD q l k = 13) ∨ ∃ j, k = j + 1 ∧ lastI l k = (j : Int) ∧ errD q l k = if (l.getD j zS).kind = 2 ∧ aboV q (l.getD j zS).val = 0 then 13 else 0 := by
  have he : errD q l k = if (mns q (bef l k)).length = 0 then 13 else 0 := (if_neg (by rw [h3]; decide)).trans (if_pos h3)
  cases k with
  | zero => exact .inl ⟨rfl, he.trans (if_pos (mns_z q))⟩
  | succ j =>
    by_cases c : (l.getD j zS).kind = 3
    · refine .inl ⟨?_, ?_⟩
      · unfold lastI; rw [if_neg (by omega), Nat.add_sub_cancel, if_pos c]
      · have : bef l (j + 1) = zS := if_pos c
        rw [he, this, if_pos (mns_z q)]
    · refine .inr ⟨j, rfl, ?_, ?_⟩
      · unfold lastI; rw [if_neg (by omega), Nat.add_sub_cancel, if_neg c]; omega
      · have hbf : bef l (j + 1) = l.getD j zS := if_neg c
        rw [he, hbf]
        have hj := hb j (by omega)
        unfold errD sgnE at hj
        by_cases c2 : (l.getD j zS).kind = 1 ∨ (l.getD j zS).kind = 2
        · rcases c2 with c2 | c2
          · have hn : ¬ (mns q (l.getD j zS)).length = 0 := by
              unfold mns
              rw [if_pos c2]
              repeat' split
              all_goals simp
            rw [if_neg hn, if_neg (fun e => by rw [c2] at e; exact absurd e.1 (by decide))]
          · have hm : mns q (l.getD j zS) = if aboV q (l.getD j zS).val = 0 then [] else [aboV q (l.getD j zS).val] := if_neg (by rw [c2]; decide)
            rw [hm]
            by_cases ca : aboV q (l.getD j zS).val = 0
            · rw [if_pos ca, if_pos (show ([] : List Int).length = 0 from rfl), if_pos ⟨c2, ca⟩]
            · rw [if_neg ca, if_neg (by simp), if_neg (fun e => ca e.2)]
        · rw [if_neg c2, if_neg c] at hj; cases hj

set_option maxRecDepth 100000 in
set_option maxHeartbeats 4000000 in
theorem rchk_any (q : Q4) (l : List Sg) (hl : l.length ≤ 1000) (p : Option Addr) (cap : Nat) (w : World) (h : SlP w 17 p l.length cap (flatG l)) :
    Calls Try.prog 21 #[mv q, .slice p l.length cap] w fun e w' => e = .returned (.int .i64 (chkD q l)) ∧ Below w.heap.size w w' := by
  have f1 := h.fit
  have f2 := h.max
  have K0 := Lib.hid (Cell4.made w q 23)
  have B0 := Lib.hid (w_alloc (w_refl w) (mO q))
  have MC := Lib.hid (fun W => rmcheck_any q W)
  have HP := Lib.hid h
  have LA := Lib.hid (fun k hk p W hh => rlast_any l k hk p cap W hh)
  clear h
  by_cases hq : okM q
  · have HH := Lib.hid (fun j hj he hb => chkD_hit (q := q) (l := l) hq (j := j) hj he hb)
    have HO := Lib.hid (fun hb => chkD_ok (q := q) (l := l) hq hb)
    have ER := Lib.hid (fun k h3 hb => err_ref q l k h3 hb)
    rw [chkM_ok hq] at MC
    clear hq
    generalize chkD q l = R at *
    obtain ⟨q1, q2, q3, q4⟩ := q
    go_enter Try.func21, Try.ntmps21
    obtain ⟨_, k0, k1, k2, k3, _⟩ := K0.out
    simp only at k0 k1 k2 k3
    go_wp2_with fail
    refine (MC.out _).mono ?_
    rintro e w1 ⟨rfl, hb⟩
    have B1 := Lib.hid (w_below B0.out hb)
    have KM0 := Lib.hid (K0.out.later hb)
    clear hb K0 k0 k1 k2 k3 B0 MC
    obtain ⟨bm, hbm⟩ : ∃ bm, w.heap.size = bm := ⟨_, rfl⟩
    rw [hbm] at KM0 ⊢
    have KM := Lib.hid (fun W (hb : Below w1.heap.size w1 W) => KM0.out.later hb)
    clear hbm KM0
    go_wp2_with fail
    go_loopw [6, 7, 8, 9] (fun s6 _ _ _ wr => ∃ k : Nat, k ≤ l.length ∧ s6 = .int .i64 k ∧ Hid (∀ j, j < k → errD (q1, q2, q3, q4) l j = 0) ∧ Hid (Below w1.heap.size w1 wr)) (fun s6 _ _ _ _ => l.length - (intOf s6).toNat)
    case atStart => exact ⟨0, by omega, rfl, Lib.hid (fun j hj => by omega), Lib.hid (w_refl _)⟩
    case round =>
      rename World => wr
      obtain ⟨k, hk, rfl, hall, hB⟩ := hrel
      by_cases hlt : k < l.length
      · have hlt' : (k : Int) < l.length := by omega
        have hk0 : (0 : Int) ≤ k := by omega
        have hs := sg_some hlt
        have HPr := Lib.hid (HP.out.later (w_below B1.out hB.out))
        obtain ⟨bb, off, rfl, _, hsg⟩ := HPr.out.sg hs
        obtain ⟨e0, e1, _⟩ := hsg
        have HF := Lib.hid (w_below B1.out hB.out)
        have HR := Lib.hid (fun (he : errD (q1, q2, q3, q4) l k ≠ 0) => HH.out k hlt he hall.out)
        have HA2 := Lib.hid (fun (he : errD (q1, q2, q3, q4) l k = 0) => show ∀ j, j < k + 1 → errD (q1, q2, q3, q4) l j = 0 from fun j hj => by
          by_cases e : j = k
          · rw [e]; exact he
          · exact hall.out j (by omega))
        have hE : errD (q1, q2, q3, q4) l k = sgnE (q1, q2, q3, q4) (bef l k) (l.getD k zS) := rfl
        by_cases hs12 : (l.getD k zS).kind = 1 ∨ (l.getD k zS).kind = 2
        · unfold sgnE at hE
          rw [if_pos hs12] at hE
          have ways : (l.getD k zS).val < 1 ∨ (¬ (l.getD k zS).val < 1 ∧ 8 < (l.getD k zS).val) ∨ (¬ (l.getD k zS).val < 1 ∧ ¬ 8 < (l.getD k zS).val) := by omega
          rcases ways with g1 | ⟨g1, g2⟩ | ⟨g1, g2⟩
          · rw [if_neg (by omega)] at hE
            have hfin := Lib.hid (show R = 2 by rw [HR.out (by rw [hE]; decide), hE])
            clear HH HO ER LA HR HA2 hE hall hs
            generalize l.getD k zS = s at *
            rcases hs12 with hk1 | hk1
            all_goals
              rw [hk1] at e0
              go_wp2_with fail
              go_ret
              exact ⟨by rw [hfin.out]; rfl, HF.out⟩
          · rw [if_neg (by omega)] at hE
            have hfin := Lib.hid (show R = 2 by rw [HR.out (by rw [hE]; decide), hE])
            clear HH HO ER LA HR HA2 hE hall hs
            generalize l.getD k zS = s at *
            rcases hs12 with hk1 | hk1
            all_goals
              rw [hk1] at e0
              go_wp2_with fail
              go_ret
              exact ⟨by rw [hfin.out]; rfl, HF.out⟩
          · rw [if_pos (by omega)] at hE
            have hall2 := Lib.hid (HA2.out hE)
            have HB2 := hB
            clear HH HO ER LA HR HA2 hE hall hs
            generalize l.getD k zS = s at *
            rcases hs12 with hk1 | hk1
            all_goals
              rw [hk1] at e0
              go_wp2_with fail
              exact ⟨⟨k + 1, by omega, by go_num, hall2, HB2⟩, by simp [intOf]; omega⟩
        · have hn1 : ((l.getD k zS).kind == 1) = false := beq_eq_false_iff_ne.2 (fun e => hs12 (.inl e))
          have hn2 : ((l.getD k zS).kind == 2) = false := beq_eq_false_iff_ne.2 (fun e => hs12 (.inr e))
          by_cases h3 : (l.getD k zS).kind = 3
          · have e3 := e0
            rw [h3] at e3
            have LK := Lib.hid (fun W hh => LA.out k hlt (some ⟨bb, off, none⟩) W hh)
            rcases ER.out k h3 hall.out with ⟨hla, hE2⟩ | ⟨j, hj, hla, hE2⟩
            · have hfin := Lib.hid (show R = 13 by rw [HR.out (by rw [hE2]; decide), hE2])
              rw [hla] at LK
              clear HH HO ER LA HR HA2 hE hE2 hall hs e0 e1 hs12 hn1 hn2 h3
              go_wp2_with fail
              refine (LK.out _ HPr.out).mono ?_
              rintro e w2 ⟨rfl, rfl⟩
              clear LK HPr
              go_wp2_with fail
              go_ret
              exact ⟨by rw [hfin.out]; rfl, HF.out⟩
            · rw [hla] at LK
              have hjl : j < l.length := by omega
              have hjl2 : (j : Int) < l.length := by omega
              have hj0 : (0 : Int) ≤ j := by omega
              have hjn : ¬ (j : Int) < 0 := by omega
              have hs2 := sg_some hjl
              obtain ⟨bb', off', eb, _, hsg2⟩ := HPr.out.sg hs2
              injection eb with eb
              injection eb with eb1 eb2 _
              subst eb1 eb2
              obtain ⟨j0, j1, _⟩ := hsg2
              have AB := Lib.hid (fun W => rabove_any (q1, q2, q3, q4) (l.getD j zS).val W)
              have J0 := Lib.hid (fun W (hb : Below wr.heap.size wr W) => cell_later hb j0)
              have FX0 := Lib.hid (show (wr.cell? ⟨bb, off + j * 17 + 1, none⟩ = some (.int .i64 (l.getD j zS).val) ∧ Below wr.heap.size wr wr) ∧ Cell4 wr bm (q1, q2, q3, q4) from ⟨⟨j1, w_refl _⟩, KM.out _ hB.out⟩)
              clear HH HO ER LA hE hall hs e0 e1 hs12 hn1 hn2 h3 j0 j1 hs2 hj
              generalize hab : aboV (q1, q2, q3, q4) (l.getD j zS).val = ab at *
              generalize valE (q1, q2, q3, q4) (l.getD j zS).val = er at *
              generalize (l.getD j zS).val = vj at *
              generalize hkj : (l.getD j zS).kind = kj at *
              go_wp2_with fail
              refine (LK.out _ HPr.out).mono ?_
              rintro e w2 ⟨rfl, rfl⟩
              clear LK HPr hab hkj
              go_wp2_with fail
              refine wp_region_held (S := (fun W => W.cell? ⟨bm, 0, none⟩ = some (.int .i64 q1) ∧ W.cell? ⟨bm, 1, none⟩ = some (.int .i64 q2) ∧ W.cell? ⟨bm, 2, none⟩ = some (.int .i64 q3) ∧ W.cell? ⟨bm, 3, none⟩ = some (.int .i64 q4) ∧ W.cell? ⟨bb, off + j * 17 + 1, none⟩ = some (.int .i64 vj))) (by kernel_rfl) ?_
              change wpAnyH _ _ _ _ _ _ _ _ (World.drew _)
              have FX := Lib.hid (show ((World.drew wr).cell? ⟨bb, off + j * 17 + 1, none⟩ = some (.int .i64 vj) ∧ Below wr.heap.size wr (World.drew wr)) ∧ Cell4 (World.drew wr) bm (q1, q2, q3, q4) from ⟨⟨cell_later (w_refl _).drew FX0.out.1.1, w_below FX0.out.1.2 (w_refl _).drew⟩, FX0.out.2.later (w_refl _).drew⟩)
              clear FX0
              generalize World.drew wr = y at *
              refine wpAnyH_take (i := 0) (v := mv (q1, q2, q3, q4)) rfl (by kernel_rfl) (by kernel_rfl) (by kernel_rfl) (fun _ _ _ h => h) (Or.inl ⟨by kernel_rfl, fun W hW => by (obtain ⟨c0, c1, c2, c3, _⟩ := hW; go_simp)⟩) ⟨FX.out.2.c0, FX.out.2.c1, FX.out.2.c2, FX.out.2.c3, FX.out.1.1⟩ ?_
              refine wpAnyH_take (i := 1) (v := .slice (some ⟨bb, off, none⟩) l.length cap) rfl (by kernel_rfl) (by kernel_rfl) (by kernel_rfl) (fun _ _ _ h => h) (Or.inl ⟨by kernel_rfl, fun _ _ => by go_simp⟩) ⟨FX.out.2.c0, FX.out.2.c1, FX.out.2.c2, FX.out.2.c3, FX.out.1.1⟩ ?_
              refine wpAnyH_take (i := 2) (v := .int .i64 (j : Int)) rfl (by kernel_rfl) (by kernel_rfl) (by kernel_rfl) (fun _ _ _ h => h) (Or.inl ⟨by kernel_rfl, fun _ _ => by go_simp⟩) ⟨FX.out.2.c0, FX.out.2.c1, FX.out.2.c2, FX.out.2.c3, FX.out.1.1⟩ ?_
              refine wpAnyH_take (i := 3) (v := .pointer (some ⟨bb, off + j * 17, none⟩)) rfl (by kernel_rfl) (by kernel_rfl) (by kernel_rfl) (fun _ _ _ h => h) (Or.inl ⟨by kernel_rfl, fun _ _ => by go_simp⟩) ⟨FX.out.2.c0, FX.out.2.c1, FX.out.2.c2, FX.out.2.c3, FX.out.1.1⟩ ?_
              refine wpAnyH_take (i := 4) (v := .pointer (some ⟨bb, off + j * 17 + 1, none⟩)) rfl (by kernel_rfl) (by kernel_rfl) (by kernel_rfl) (fun _ _ _ h => h) (Or.inl ⟨by kernel_rfl, fun _ _ => by go_simp⟩) ⟨FX.out.2.c0, FX.out.2.c1, FX.out.2.c2, FX.out.2.c3, FX.out.1.1⟩ ?_
              refine wpAnyH_take (i := 5) (v := .int .i64 vj) rfl (by kernel_rfl) (by kernel_rfl) (by kernel_rfl) (fun _ _ _ h => h) (Or.inl ⟨by kernel_rfl, fun W hW => by (obtain ⟨_, _, _, _, c4⟩ := hW; go_simp)⟩) ⟨FX.out.2.c0, FX.out.2.c1, FX.out.2.c2, FX.out.2.c3, FX.out.1.1⟩ ?_
              refine wpAnyH_ready (rs := [6]) (by kernel_rfl) (by simp) ?_
              refine AllReadyH.cons rfl (fun K hK => ?_) AllReadyH.nil
              rw [if_pos (by kernel_rfl)]
              go_simp
              go_at_call 42
              refine (AB.out _).mono ?_
              rintro e y1 ⟨rfl, hb⟩
              replace FX := Lib.hid (show (y1.cell? ⟨bb, off + j * 17 + 1, none⟩ = some (.int .i64 vj) ∧ Below wr.heap.size wr y1) ∧ Cell4 y1 bm (q1, q2, q3, q4) from ⟨⟨cell_later hb FX.out.1.1, w_below FX.out.1.2 hb⟩, FX.out.2.later hb⟩)
              clear hb AB
              go_simp
              refine hK.out _ _ ⟨FX.out.2.c0, FX.out.2.c1, FX.out.2.c2, FX.out.2.c3, FX.out.1.1⟩ (fun _ => ?_)
              clear hK K
              refine wpAnyH_take (i := 7) (v := .tuple #[.int .i64 ab, .int .i64 er]) rfl (by kernel_rfl) (by kernel_rfl) (by kernel_rfl) (fun _ _ _ h => h) (Or.inl ⟨by kernel_rfl, fun _ _ => by go_simp⟩) ⟨FX.out.2.c0, FX.out.2.c1, FX.out.2.c2, FX.out.2.c3, FX.out.1.1⟩ ?_
              refine wpAnyH_take (i := 8) (v := .int .i64 ab) rfl (by kernel_rfl) (by kernel_rfl) (by kernel_rfl) (fun _ _ _ h => h) (Or.inl ⟨by kernel_rfl, fun _ _ => by go_simp⟩) ⟨FX.out.2.c0, FX.out.2.c1, FX.out.2.c2, FX.out.2.c3, FX.out.1.1⟩ ?_
              refine wpAnyH_take (i := 9) (v := .int .i64 er) rfl (by kernel_rfl) (by kernel_rfl) (by kernel_rfl) (fun _ _ _ h => h) (Or.inl ⟨by kernel_rfl, fun _ _ => by go_simp⟩) ⟨FX.out.2.c0, FX.out.2.c1, FX.out.2.c2, FX.out.2.c3, FX.out.1.1⟩ ?_
              refine wpAnyH_take (i := 10) (v := .int .i64 ab) rfl (by kernel_rfl) (by kernel_rfl) (by kernel_rfl) (fun _ _ _ h => h) (Or.inl ⟨by kernel_rfl, fun _ _ => by go_simp⟩) ⟨FX.out.2.c0, FX.out.2.c1, FX.out.2.c2, FX.out.2.c3, FX.out.1.1⟩ ?_
              refine wpAnyH_take (i := 11) (v := .int .i64 er) rfl (by kernel_rfl) (by kernel_rfl) (by kernel_rfl) (fun _ _ _ h => h) (Or.inl ⟨by kernel_rfl, fun _ _ => by go_simp⟩) ⟨FX.out.2.c0, FX.out.2.c1, FX.out.2.c2, FX.out.2.c3, FX.out.1.1⟩ ?_
              refine wpAnyH_done (by kernel_rfl) ?_ _
              have c0 := J0.out _ FX.out.1.2
              have HF2 := Lib.hid (w_below HF.out FX.out.1.2)
              have HB2 := Lib.hid (w_below hB.out FX.out.1.2)
              clear J0 FX
              by_cases c2 : kj = 2
              · have c21 : (kj == 2) = true := by simp [c2]
                by_cases ca : ab = 0
                · have ca1 : (ab == 0) = true := by simp [ca]
                  rw [if_pos ⟨c2, ca⟩] at hE2
                  have hfin := Lib.hid (show R = 13 by rw [HR.out (by rw [hE2]; decide), hE2])
                  have HF := HF2
                  clear HR HA2 hE2 c2 ca
                  go_wp2_with fail
                  go_ret
                  exact ⟨by rw [hfin.out]; rfl, HF.out⟩
                · have ca1 : (ab == 0) = false := by simp [ca]
                  rw [if_neg (fun e => ca e.2)] at hE2
                  have hall2 := Lib.hid (HA2.out hE2)
                  clear HR HA2 hE2 c2 ca
                  go_wp2_with fail
                  exact ⟨⟨k + 1, by omega, by go_num, hall2, HB2⟩, by simp [intOf]; omega⟩
              · have c21 : (kj == 2) = false := by simp [c2]
                rw [if_neg (fun e => c2 e.1)] at hE2
                have hall2 := Lib.hid (HA2.out hE2)
                clear HR HA2 hE2 c2
                go_wp2_with fail
                exact ⟨⟨k + 1, by omega, by go_num, hall2, HB2⟩, by simp [intOf]; omega⟩
          · have hn3 : ((l.getD k zS).kind == 3) = false := beq_eq_false_iff_ne.2 h3
            unfold sgnE at hE
            rw [if_neg hs12, if_neg h3] at hE
            have hfin := Lib.hid (show R = 8 by rw [HR.out (by rw [hE]; decide), hE])
            clear HH HO ER LA HR HA2 hE hall hs hs12 h3
            generalize l.getD k zS = s at *
            go_wp2_with fail
            go_ret
            exact ⟨by rw [hfin.out]; rfl, HF.out⟩
      · have hlt' : ¬ (k : Int) < l.length := by omega
        have hf := HO.out (fun j hj => hall.out j (by omega))
        have hfin := Lib.hid hf
        have HF := Lib.hid (w_below B1.out hB.out)
        clear HH HO hall hf ER LA
        go_wp2_with fail
        go_ret
        exact ⟨by rw [hfin.out]; rfl, HF.out⟩
  · rw [chkD_no hq]
    rw [chkM_no hq] at MC
    clear hq LA
    obtain ⟨q1, q2, q3, q4⟩ := q
    go_enter Try.func21, Try.ntmps21
    obtain ⟨_, k0, k1, k2, k3, _⟩ := K0.out
    simp only at k0 k1 k2 k3
    go_wp2_with fail
    refine (MC.out _).mono ?_
    rintro e w1 ⟨rfl, hb⟩
    have B1 := Lib.hid (w_below B0.out hb)
    clear hb K0 k0 k1 k2 k3 B0 MC
    go_wp2_with fail
    go_ret
    exact ⟨rfl, B1.out⟩

end Go.Proofs.Ythokapebcplmkaa
