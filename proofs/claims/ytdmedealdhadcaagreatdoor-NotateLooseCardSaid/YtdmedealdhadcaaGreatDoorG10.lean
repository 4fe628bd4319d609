/- Pieces that a cursor takes: mensurations with their brackets, the walk. The pieces of a sign, one after the other. -/
import Derived.Test.YtdmedealdhadcaaGreatDoorG09

namespace Go.Proofs.YtdmedealdhadcaaGreatDoor
open Go.RowKit
theorem mv_drewN (b : Nat) (W : World) (n : Nat) : Mv b W (W.drewN n) := ⟨rfl, rfl, rfl, Nat.le_refl _, fun _ _ _ => rfl⟩
theorem holds_drewN {W : World} {b : Nat} {t : TypeId} {cs : Array Value} (h : HoldsB W b t cs) (n : Nat) : HoldsB (W.drewN n) b t cs := h
theorem mv_set (b j : Nat) (W : World) (v : Value) : Mv b W (W.setCell ⟨b, j, none⟩ v) := grown_set W b j v
set_option maxRecDepth 100000 in
set_option maxHeartbeats 4000000 in
theorem pmens_any : Pc 133 rdMens := by
  intro W b x hl h
  obtain ⟨l, s⟩ := x
  change l.length ≤ 1000000 at hl
  have HX := Lib.hid h
  clear h
  cases e : tk 40 l with
  | none =>
    have T := Lib.hid (take_no (x := (l, s)) e b W HX.out)
    have fin := Lib.hid (show rdMens (l, s) = none by unfold rdMens; rw [e]; rfl)
    clear e hl HX
    go_enter Tryz.func133, Tryz.ntmps133
    go_wp2_with fail
    refine T.out.mono ?_
    rintro e w1 ⟨rfl, hc, hm⟩
    have HM := Lib.hid hm
    clear hc hm T
    go_wp2_with fail
    go_ret
    exact ⟨HM.out, fun y hy => (by rw [fin.out] at hy; cases hy), fun _ => rfl⟩
  | some t =>
    have T := Lib.hid (take_yes (x := (l, s)) e b W HX.out)
    have ht : t.length ≤ 1000000 := by have := congrArg List.length (tk_some e); rw [List.length_cons] at this; omega
    have CT := Lib.hid (fun V => pcut_any (bytes t) V (by rw [bytes_size]; omega))
    rw [bytes_data] at CT
    have hlt := HX.out.lt
    clear HX
    unfold cutRes at CT
    cases e2 : (upto 41 t).2 with
    | some r =>
      have hp : (upto 41 t).1.length ≤ 1000000 := by have := congrArg List.length (upto_split 41 t e2); rw [List.length_append, List.length_cons] at this; omega
      have PA := Lib.hid (fun V => parse_any (bytes (upto 41 t).1) (by rw [bytes_size]; unfold maxLen; omega) V)
      unfold ParPost at PA
      have fin := Lib.hid (show rdMens (l, s) = if parE (bytes (upto 41 t).1) = 0 then some (r, putM (parQ (bytes (upto 41 t).1)) s) else none by unfold rdMens; rw [e]; show (upto 41 t).2.bind _ = _; rw [e2]; rfl)
      rw [e2] at CT
      have C2 := Lib.hid (fun V => show Calls Tryz.prog 170 #[.string (bytes t), .string ⟨#[41]⟩] V fun e w' => e = .returned (.tuple #[.string (bytes (upto 41 t).1), .string (bytes r), .bool true]) ∧ ∃ n, w' = V.drewN n from CT.out V)
      clear CT e e2 ht hl hp
      generalize (upto 41 t).1 = p at *
      generalize parQ (bytes p) = q at *
      generalize parE (bytes p) = pe at *
      generalize rdMens (l, s) = R at *
      obtain ⟨qa, qb, qc, qd⟩ := q
      go_enter Tryz.func133, Tryz.ntmps133
      go_wp2_with fail
      refine T.out.mono ?_
      rintro e w1 ⟨rfl, hc, hm⟩
      have HX := Lib.hid hc
      have HM := Lib.hid hm
      have c0 := hc.left
      change w1.cell? _ = some (.string (bytes t)) at c0
      clear hc hm T
      go_wp2_with fail
      refine (C2.out _).mono ?_
      rintro e w2 ⟨rfl, n, rfl⟩
      clear C2
      go_wp2_with fail
      refine (PA.out _).mono ?_
      rintro e w3 ⟨rfl, hb⟩
      have hlt3 := Lib.hid ((holds_drewN (show HoldsB w1 b 123 _ from HX.out) n).later hb).lt
      have KM := Lib.hid (HoldsB.new w3 23 #[.int .i64 qa, .int .i64 qb, .int .i64 qc, .int .i64 qd])
      have HX3 := Lib.hid (show HoldsB (w3.alloc (.cells #[.int .i64 qa, .int .i64 qb, .int .i64 qc, .int .i64 qd] 23)) b 123 (cuA t s) from ((holds_drewN (show HoldsB w1 b 123 _ from HX.out) n).later hb).al _)
      have HM3 := Lib.hid (show Mv b W (w3.alloc (.cells #[.int .i64 qa, .int .i64 qb, .int .i64 qc, .int .i64 qd] 23)) from ((HM.out.trans (mv_drewN b w1 n)).trans (Mv.of hb)).trans (Mv.of (w_alloc (w_refl w3) _)))
      clear HX PA c0 HM
      go_wp2_with fail
      have m0 := KM.out.cell (j := 0) (v := .int .i64 qa) rfl
      have m1 := KM.out.cell (j := 1) (v := .int .i64 qb) rfl
      have m2 := KM.out.cell (j := 2) (v := .int .i64 qc) rfl
      have m3 := KM.out.cell (j := 3) (v := .int .i64 qd) rfl
      have c0 := HX3.out.cell (j := 0) (v := .string (bytes t)) rfl
      have d9 := HX3.out.cell (j := 9) (v := .int .i64 s.m0) rfl
      have d10 := HX3.out.cell (j := 10) (v := .int .i64 s.m1) rfl
      have d11 := HX3.out.cell (j := 11) (v := .int .i64 s.m2) rfl
      have d12 := HX3.out.cell (j := 12) (v := .int .i64 s.m3) rfl
      have f0 := HX3.out.frozen 0
      have f9 := HX3.out.frozen 9
      have f10 := HX3.out.frozen 10
      have f11 := HX3.out.frozen 11
      have f12 := HX3.out.frozen 12
      have hb3 : b ≠ w3.heap.size := Nat.ne_of_lt hlt3.out
      go_region
      clear m0 m1 m2 m3 c0 d9 d10 d11 d12 f0 f9 f10 f11 f12 hb
      have H2 := Lib.hid (show CuX _ b (r, putM (qa, qb, qc, qd) s) from ((((HX3.out.set 0 (.string (bytes r))).set 9 (.int .i64 qa)).set 10 (.int .i64 qb)).set 11 (.int .i64 qc)).set 12 (.int .i64 qd))
      have H3 := Lib.hid (((((HM3.out.trans (mv_set b 0 _ (.string (bytes r)))).trans (mv_set b 9 _ (.int .i64 qa))).trans (mv_set b 10 _ (.int .i64 qb))).trans (mv_set b 11 _ (.int .i64 qc))).trans (mv_set b 12 _ (.int .i64 qd)))
      clear HX3 HM3 KM
      generalize World.setCell _ ⟨b, 12, none⟩ _ = wz at *
      have H4 := Lib.hid (show CuX wz.drew b (r, putM (qa, qb, qc, qd) s) from H2.out)
      have H5 := Lib.hid (H3.out.trans (Mv.of (w_refl wz).drew))
      clear H2 H3
      by_cases hpe : pe = 0
      · have fin2 := Lib.hid (show R = some (r, putM (qa, qb, qc, qd) s) by rw [fin.out, if_pos hpe])
        clear fin
        subst hpe
        go_wp2_with fail
        go_ret
        refine ⟨H5.out, ?_, fun hn => ?_⟩
        · first
            | (intro y hy
               obtain rfl := Option.some.inj (hy.symm.trans fin2.out)
               exact ⟨rfl, H4.out⟩)
            | (intro y z hy
               obtain ⟨rfl, rfl⟩ := Prod.mk.inj (Option.some.inj (hy.symm.trans fin2.out))
               exact ⟨rfl, H4.out⟩)
        · rw [fin2.out] at hn; cases hn
      · have hpf : (pe == 0) = false := by simpa using hpe
        go_wp2_with fail
        go_ret
        refine ⟨H5.out, fun y hy => ?_, fun hn => rfl⟩
        rw [fin.out, if_neg hpe] at hy; cases hy
    | none =>
      have hp : t.length ≤ 1000000 := ht
      have PA := Lib.hid (fun V => parse_any (bytes t) (by rw [bytes_size]; unfold maxLen; omega) V)
      unfold ParPost at PA
      have fin := Lib.hid (show rdMens (l, s) = none by unfold rdMens; rw [e]; show (upto 41 t).2.bind _ = _; rw [e2]; rfl)
      rw [e2] at CT
      have C2 := Lib.hid (fun V => show Calls Tryz.prog 170 #[.string (bytes t), .string ⟨#[41]⟩] V fun e w' => e = .returned (.tuple #[.string (bytes t), .string (bytes []), .bool false]) ∧ ∃ n, w' = V.drewN n from CT.out V)
      clear CT e e2 ht hl hp
      generalize parQ (bytes t) = q at *
      generalize parE (bytes t) = pe at *
      generalize rdMens (l, s) = R at *
      obtain ⟨qa, qb, qc, qd⟩ := q
      go_enter Tryz.func133, Tryz.ntmps133
      go_wp2_with fail
      refine T.out.mono ?_
      rintro e w1 ⟨rfl, hc, hm⟩
      have HX := Lib.hid hc
      have HM := Lib.hid hm
      have c0 := hc.left
      change w1.cell? _ = some (.string (bytes t)) at c0
      clear hc hm T
      go_wp2_with fail
      refine (C2.out _).mono ?_
      rintro e w2 ⟨rfl, n, rfl⟩
      clear C2
      go_wp2_with fail
      refine (PA.out _).mono ?_
      rintro e w3 ⟨rfl, hb⟩
      have hlt3 := Lib.hid ((holds_drewN (show HoldsB w1 b 123 _ from HX.out) n).later hb).lt
      have KM := Lib.hid (HoldsB.new w3 23 #[.int .i64 qa, .int .i64 qb, .int .i64 qc, .int .i64 qd])
      have HX3 := Lib.hid (show HoldsB (w3.alloc (.cells #[.int .i64 qa, .int .i64 qb, .int .i64 qc, .int .i64 qd] 23)) b 123 (cuA t s) from ((holds_drewN (show HoldsB w1 b 123 _ from HX.out) n).later hb).al _)
      have HM3 := Lib.hid (show Mv b W (w3.alloc (.cells #[.int .i64 qa, .int .i64 qb, .int .i64 qc, .int .i64 qd] 23)) from ((HM.out.trans (mv_drewN b w1 n)).trans (Mv.of hb)).trans (Mv.of (w_alloc (w_refl w3) _)))
      clear HX PA c0 HM
      go_wp2_with fail
      have m0 := KM.out.cell (j := 0) (v := .int .i64 qa) rfl
      have m1 := KM.out.cell (j := 1) (v := .int .i64 qb) rfl
      have m2 := KM.out.cell (j := 2) (v := .int .i64 qc) rfl
      have m3 := KM.out.cell (j := 3) (v := .int .i64 qd) rfl
      have c0 := HX3.out.cell (j := 0) (v := .string (bytes t)) rfl
      have d9 := HX3.out.cell (j := 9) (v := .int .i64 s.m0) rfl
      have d10 := HX3.out.cell (j := 10) (v := .int .i64 s.m1) rfl
      have d11 := HX3.out.cell (j := 11) (v := .int .i64 s.m2) rfl
      have d12 := HX3.out.cell (j := 12) (v := .int .i64 s.m3) rfl
      have f0 := HX3.out.frozen 0
      have f9 := HX3.out.frozen 9
      have f10 := HX3.out.frozen 10
      have f11 := HX3.out.frozen 11
      have f12 := HX3.out.frozen 12
      have hb3 : b ≠ w3.heap.size := Nat.ne_of_lt hlt3.out
      go_region
      clear m0 m1 m2 m3 c0 d9 d10 d11 d12 f0 f9 f10 f11 f12 hb
      have H2 := Lib.hid (show CuX _ b ([], putM (qa, qb, qc, qd) s) from ((((HX3.out.set 0 (.string (bytes []))).set 9 (.int .i64 qa)).set 10 (.int .i64 qb)).set 11 (.int .i64 qc)).set 12 (.int .i64 qd))
      have H3 := Lib.hid (((((HM3.out.trans (mv_set b 0 _ (.string (bytes [])))).trans (mv_set b 9 _ (.int .i64 qa))).trans (mv_set b 10 _ (.int .i64 qb))).trans (mv_set b 11 _ (.int .i64 qc))).trans (mv_set b 12 _ (.int .i64 qd)))
      clear HX3 HM3 KM
      generalize World.setCell _ ⟨b, 12, none⟩ _ = wz at *
      have H4 := Lib.hid (show CuX wz.drew b ([], putM (qa, qb, qc, qd) s) from H2.out)
      have H5 := Lib.hid (H3.out.trans (Mv.of (w_refl wz).drew))
      clear H2 H3
      go_wp2_with fail
      go_ret
      exact ⟨H5.out, fun y hy => (by rw [fin.out] at hy; cases hy), fun _ => rfl⟩
end Go.Proofs.YtdmedealdhadcaaGreatDoor

namespace Go.Proofs.YtdmedealdhadcaaGreatDoor
open Go.RowKit
def chF : List (Cu → Option Cu) → Cu → Option Cu
  | [], x => some x
  | F :: r, x => (F x).bind (chF r)
theorem ch_none {F : Cu → Option Cu} {r : List (Cu → Option Cu)} {x : Cu} (h : F x = none) : chF (F :: r) x = none := by show (F x).bind _ = none; rw [h]; rfl
theorem ch_some {F : Cu → Option Cu} {r : List (Cu → Option Cu)} {x y : Cu} (h : F x = some y) : chF (F :: r) x = chF r y := by show (F x).bind _ = _; rw [h]; rfl
def fnP (f : FuncId) (b : Nat) : Value := .func (.func f) #[.pointer (some ⟨b, 0, none⟩)] #[]
def PcPost (R : Option Cu) (b : Nat) (W : World) (e : Ending) (W' : World) : Prop := Mv b W W' ∧ (∀ y, R = some y → e = .returned (.bool true) ∧ CuX W' b y) ∧ (R = none → e = .returned (.bool false))
theorem post_none {R : Option Cu} {b : Nat} {W W' : World} (hR : R = none) (h : Mv b W W') : PcPost R b W (.returned (.bool false)) W' := ⟨h, fun y hy => (by rw [hR] at hy; cases hy), fun _ => rfl⟩
theorem post_some {R : Option Cu} {b : Nat} {W W' : World} {y : Cu} (hR : R = some y) (h : Mv b W W') (hc : CuX W' b y) : PcPost R b W (.returned (.bool true)) W' := ⟨h, fun z hz => (by
  obtain rfl := Option.some.inj (hz.symm.trans hR)
  exact ⟨rfl, hc⟩), fun hn => (by rw [hR] at hn; cases hn)⟩
theorem le_val {x y : Cu} (h : rdVal x = some y) : y.1.length ≤ x.1.length ∧ y.2.acc = x.2.acc := by
  obtain ⟨c, e, _, f⟩ := rdVal_some h
  rw [e, f]; exact ⟨by simp, rfl⟩
theorem le_plc {x y : Cu} (h : rdPlc x = some y) : y.1.length ≤ x.1.length ∧ y.2.acc = x.2.acc := by
  obtain ⟨n, _, e, f⟩ := rdPlc_some h
  have := congrArg List.length e
  rw [List.length_append] at this
  rw [f]; exact ⟨by omega, rfl⟩
theorem le_acc {x y : Cu} (h : rdAcc x = some y) : y.1.length ≤ x.1.length := by
  obtain ⟨v, e, _⟩ := rdAcc_some h
  have := congrArg List.length e
  rw [List.length_append] at this
  omega
theorem le_col {x y : Cu} (h : rdCol x = some y) : y.1.length ≤ x.1.length := by
  obtain ⟨v, e, _⟩ := rdCol_some h
  have := congrArg List.length e
  rw [List.length_append] at this
  omega
theorem le_stem {x y : Cu} (h : rdStem x = some y) : y.1.length ≤ x.1.length := by
  obtain ⟨v, e, _⟩ := rdStem_some h
  have := congrArg List.length e
  rw [List.length_append] at this
  omega
theorem le_obl {x y : Cu} (h : rdObl x = some y) : y.1.length ≤ x.1.length := by
  obtain ⟨v, e, _⟩ := rdObl_some h
  have := congrArg List.length e
  rw [List.length_append] at this
  omega
theorem le_last {x y : Cu} (h : rdLast x = some y) : y.1.length ≤ x.1.length := by
  obtain ⟨v, e, _⟩ := rdLast_some h
  have := congrArg List.length e
  rw [List.length_append] at this
  omega
theorem le_stk {x y : Cu} (h : rdStk x = some y) : y.1.length ≤ x.1.length := by
  obtain ⟨v, e, _⟩ := rdStk_some h
  have := congrArg List.length e
  rw [List.length_append] at this
  omega
theorem le_mens {x y : Cu} (h : rdMens x = some y) : y.1.length ≤ x.1.length := by
  obtain ⟨t, _, e, _⟩ := rdMens_some h
  have := congrArg List.length e
  rw [List.length_cons, List.length_append, List.length_cons] at this
  omega
set_option maxRecDepth 100000 in
set_option maxHeartbeats 8000000 in
theorem each_note (b g : Nat) (x : Cu) (W : World) (hl : x.1.length ≤ 1000000) (ha : x.2.acc = 0) (h : CuX W b x) (hg : HoldsB W g 28 #[fnP 120 b, fnP 121 b, fnP 122 b, fnP 123 b]) (hne : g ≠ b) :
    Calls Tryz.prog 119 #[.slice (some ⟨g, 0, none⟩) 4 4] W (PcPost (chF [rdVal, rdPlc, rdAcc, rdCol] x) b W) := by
  obtain ⟨R, hR⟩ : ∃ R, chF [rdVal, rdPlc, rdAcc, rdCol] x = R := ⟨_, rfl⟩
  rw [hR]
  have HR := Lib.hid hR
  have HX := Lib.hid h
  have HG := Lib.hid hg
  have HL := Lib.hid hl
  have HN := Lib.hid hne
  have HA := Lib.hid ha
  have P0 := Lib.hid cval_any
  have P1 := Lib.hid cplc_any
  have P2 := Lib.hid pacc_any
  have P3 := Lib.hid pcol_any
  clear hR h hg hl hne ha
  go_enter Tryz.func119, Tryz.ntmps119
  go_wp2_with fail
  go_loopw [7] (fun s7 W2 => ∃ (k : Nat) (y : Cu), k ≤ 4 ∧ s7 = .int .i64 k ∧ Hid (chF (List.drop k [rdVal, rdPlc, rdAcc, rdCol]) y = R) ∧ Hid (CuX W2 b y) ∧ Hid (HoldsB W2 g 28 #[fnP 120 b, fnP 121 b, fnP 122 b, fnP 123 b]) ∧ Hid (Mv b W W2) ∧ Hid (y.1.length ≤ 1000000) ∧ Hid (k ≤ 2 → y.2.acc = 0)) (fun s7 _ => 4 - (intOf s7).toNat)
  case atStart => exact ⟨0, x, by omega, rfl, HR, HX, HG, Lib.hid (Mv.refl b W), HL, Lib.hid (fun _ => HA.out)⟩
  case round =>
    clear HX HR HG HL HA
    obtain ⟨k, y, hkn, rfl, hk, HX, HG, HM, HL, HA⟩ := hrel
    rename World => W2
    by_cases hlt : k < 4
    · have c : k = 0 ∨ k = 1 ∨ k = 2 ∨ k = 3 := by omega
      clear hkn hlt
      rcases c with rfl | rfl | rfl | rfl
      · have hR := Lib.hid (show chF (rdVal :: [rdPlc, rdAcc, rdCol]) y = R from hk.out)
        have c0 := HG.out.cell (j := 0) (v := fnP 120 b) rfl
        unfold fnP at c0
        have T := Lib.hid (P0.out W2 b y HL.out HX.out)
        clear P0 P1 P2 P3 hk HX
        cases hf : rdVal y with
        | none =>
          have fin := Lib.hid (show R = none by rw [← hR.out, ch_none hf])
          have T2 := Lib.hid (T.out.mono fun e w' h => ((⟨h.1, h.2.2 hf⟩ : Mv b W2 w' ∧ e = .returned (.bool false))))
          clear hf hR T
          go_wp2_with fail
          refine T2.out.mono ?_
          rintro e w3 ⟨hm, rfl⟩
          have H3 := Lib.hid (HM.out.trans hm)
          clear hm T2 HM HG c0
          go_wp2_with fail
          go_ret
          exact post_none fin.out H3.out
        | some z =>
          have hn := Lib.hid (show chF [rdPlc, rdAcc, rdCol] z = R by rw [← hR.out, ch_some hf])
          have HL2 := Lib.hid (show z.1.length ≤ 1000000 from Nat.le_trans (le_val hf).1 HL.out)
          have HA2 := Lib.hid (fun (_ : 1 ≤ 2) => show z.2.acc = 0 from (le_val hf).2.trans (HA.out (by decide)))
          have T2 := Lib.hid (T.out.mono fun e w' h => ((⟨h.1, h.2.1 z hf⟩ : Mv b W2 w' ∧ e = .returned (.bool true) ∧ CuX w' b z)))
          clear hf hR T
          go_wp2_with fail
          refine T2.out.mono ?_
          rintro e w3 ⟨hm, rfl, hc⟩
          have H3 := Lib.hid (HM.out.trans hm)
          have HX := Lib.hid hc
          have HG2 := Lib.hid (HG.out.mv hm HN.out)
          clear hm hc T2 HM HG c0
          go_wp2_with fail
          go_roundw
          case rel => exact ⟨1, z, by decide, rfl, hn, HX, HG2, H3, HL2, HA2⟩
          case measure => decide
      · have hR := Lib.hid (show chF (rdPlc :: [rdAcc, rdCol]) y = R from hk.out)
        have c1 := HG.out.cell (j := 1) (v := fnP 121 b) rfl
        unfold fnP at c1
        have T := Lib.hid (P1.out W2 b y HL.out HX.out)
        clear P0 P1 P2 P3 hk HX
        cases hf : rdPlc y with
        | none =>
          have fin := Lib.hid (show R = none by rw [← hR.out, ch_none hf])
          have T2 := Lib.hid (T.out.mono fun e w' h => ((⟨h.1, h.2.2 hf⟩ : Mv b W2 w' ∧ e = .returned (.bool false))))
          clear hf hR T
          go_wp2_with fail
          refine T2.out.mono ?_
          rintro e w3 ⟨hm, rfl⟩
          have H3 := Lib.hid (HM.out.trans hm)
          clear hm T2 HM HG c1
          go_wp2_with fail
          go_ret
          exact post_none fin.out H3.out
        | some z =>
          have hn := Lib.hid (show chF [rdAcc, rdCol] z = R by rw [← hR.out, ch_some hf])
          have HL2 := Lib.hid (show z.1.length ≤ 1000000 from Nat.le_trans (le_plc hf).1 HL.out)
          have HA2 := Lib.hid (fun (_ : 2 ≤ 2) => show z.2.acc = 0 from (le_plc hf).2.trans (HA.out (by decide)))
          have T2 := Lib.hid (T.out.mono fun e w' h => ((⟨h.1, h.2.1 z hf⟩ : Mv b W2 w' ∧ e = .returned (.bool true) ∧ CuX w' b z)))
          clear hf hR T
          go_wp2_with fail
          refine T2.out.mono ?_
          rintro e w3 ⟨hm, rfl, hc⟩
          have H3 := Lib.hid (HM.out.trans hm)
          have HX := Lib.hid hc
          have HG2 := Lib.hid (HG.out.mv hm HN.out)
          clear hm hc T2 HM HG c1
          go_wp2_with fail
          go_roundw
          case rel => exact ⟨2, z, by decide, rfl, hn, HX, HG2, H3, HL2, HA2⟩
          case measure => decide
      · have hR := Lib.hid (show chF (rdAcc :: [rdCol]) y = R from hk.out)
        have c2 := HG.out.cell (j := 2) (v := fnP 122 b) rfl
        unfold fnP at c2
        have T := Lib.hid (P2.out W2 b y HL.out (HA.out (by decide)) HX.out)
        clear P0 P1 P2 P3 hk HX
        cases hf : rdAcc y with
        | none =>
          have fin := Lib.hid (show R = none by rw [← hR.out, ch_none hf])
          have T2 := Lib.hid (T.out.mono fun e w' h => ((⟨h.1, h.2.2 hf⟩ : Mv b W2 w' ∧ e = .returned (.bool false))))
          clear hf hR T
          go_wp2_with fail
          refine T2.out.mono ?_
          rintro e w3 ⟨hm, rfl⟩
          have H3 := Lib.hid (HM.out.trans hm)
          clear hm T2 HM HG c2
          go_wp2_with fail
          go_ret
          exact post_none fin.out H3.out
        | some z =>
          have hn := Lib.hid (show chF [rdCol] z = R by rw [← hR.out, ch_some hf])
          have HL2 := Lib.hid (show z.1.length ≤ 1000000 from Nat.le_trans (le_acc hf) HL.out)
          have HA2 := Lib.hid (fun (hq : 3 ≤ 2) => show z.2.acc = 0 from absurd hq (by decide))
          have T2 := Lib.hid (T.out.mono fun e w' h => ((⟨h.1, h.2.1 z hf⟩ : Mv b W2 w' ∧ e = .returned (.bool true) ∧ CuX w' b z)))
          clear hf hR T
          go_wp2_with fail
          refine T2.out.mono ?_
          rintro e w3 ⟨hm, rfl, hc⟩
          have H3 := Lib.hid (HM.out.trans hm)
          have HX := Lib.hid hc
          have HG2 := Lib.hid (HG.out.mv hm HN.out)
          clear hm hc T2 HM HG c2
          go_wp2_with fail
          go_roundw
          case rel => exact ⟨3, z, by decide, rfl, hn, HX, HG2, H3, HL2, HA2⟩
          case measure => decide
      · have hR := Lib.hid (show chF (rdCol :: []) y = R from hk.out)
        have c3 := HG.out.cell (j := 3) (v := fnP 123 b) rfl
        unfold fnP at c3
        have T := Lib.hid (P3.out W2 b y HL.out HX.out)
        clear P0 P1 P2 P3 hk HX
        cases hf : rdCol y with
        | none =>
          have fin := Lib.hid (show R = none by rw [← hR.out, ch_none hf])
          have T2 := Lib.hid (T.out.mono fun e w' h => ((⟨h.1, h.2.2 hf⟩ : Mv b W2 w' ∧ e = .returned (.bool false))))
          clear hf hR T
          go_wp2_with fail
          refine T2.out.mono ?_
          rintro e w3 ⟨hm, rfl⟩
          have H3 := Lib.hid (HM.out.trans hm)
          clear hm T2 HM HG c3
          go_wp2_with fail
          go_ret
          exact post_none fin.out H3.out
        | some z =>
          have hn := Lib.hid (show chF [] z = R by rw [← hR.out, ch_some hf])
          have HL2 := Lib.hid (show z.1.length ≤ 1000000 from Nat.le_trans (le_col hf) HL.out)
          have HA2 := Lib.hid (fun (hq : 4 ≤ 2) => show z.2.acc = 0 from absurd hq (by decide))
          have T2 := Lib.hid (T.out.mono fun e w' h => ((⟨h.1, h.2.1 z hf⟩ : Mv b W2 w' ∧ e = .returned (.bool true) ∧ CuX w' b z)))
          clear hf hR T
          go_wp2_with fail
          refine T2.out.mono ?_
          rintro e w3 ⟨hm, rfl, hc⟩
          have H3 := Lib.hid (HM.out.trans hm)
          have HX := Lib.hid hc
          have HG2 := Lib.hid (HG.out.mv hm HN.out)
          clear hm hc T2 HM HG c3
          go_wp2_with fail
          go_roundw
          case rel => exact ⟨4, z, by decide, rfl, hn, HX, HG2, H3, HL2, HA2⟩
          case measure => decide
    · obtain rfl : k = 4 := by omega
      have fin := Lib.hid (show R = some y from hk.out.symm)
      clear P0 P1 P2 P3 hk HG
      go_wp2_with fail
      go_ret
      exact post_some fin.out HM.out HX.out
set_option maxRecDepth 100000 in
set_option maxHeartbeats 8000000 in
theorem each_tied (b g : Nat) (x : Cu) (W : World) (hl : x.1.length ≤ 1000000) (ha : x.2.acc = 0) (h : CuX W b x) (hg : HoldsB W g 28 #[fnP 121 b, fnP 122 b, fnP 123 b, fnP 129 b, fnP 130 b, fnP 131 b]) (hne : g ≠ b) :
    Calls Tryz.prog 119 #[.slice (some ⟨g, 0, none⟩) 6 6] W (PcPost (chF [rdPlc, rdAcc, rdCol, rdStem, rdObl, rdLast] x) b W) := by
  obtain ⟨R, hR⟩ : ∃ R, chF [rdPlc, rdAcc, rdCol, rdStem, rdObl, rdLast] x = R := ⟨_, rfl⟩
  rw [hR]
  have HR := Lib.hid hR
  have HX := Lib.hid h
  have HG := Lib.hid hg
  have HL := Lib.hid hl
  have HN := Lib.hid hne
  have HA := Lib.hid ha
  have P0 := Lib.hid cplc_any
  have P1 := Lib.hid pacc_any
  have P2 := Lib.hid pcol_any
  have P3 := Lib.hid pstem_any
  have P4 := Lib.hid pobl_any
  have P5 := Lib.hid plast_any
  clear hR h hg hl hne ha
  go_enter Tryz.func119, Tryz.ntmps119
  go_wp2_with fail
  go_loopw [7] (fun s7 W2 => ∃ (k : Nat) (y : Cu), k ≤ 6 ∧ s7 = .int .i64 k ∧ Hid (chF (List.drop k [rdPlc, rdAcc, rdCol, rdStem, rdObl, rdLast]) y = R) ∧ Hid (CuX W2 b y) ∧ Hid (HoldsB W2 g 28 #[fnP 121 b, fnP 122 b, fnP 123 b, fnP 129 b, fnP 130 b, fnP 131 b]) ∧ Hid (Mv b W W2) ∧ Hid (y.1.length ≤ 1000000) ∧ Hid (k ≤ 1 → y.2.acc = 0)) (fun s7 _ => 6 - (intOf s7).toNat)
  case atStart => exact ⟨0, x, by omega, rfl, HR, HX, HG, Lib.hid (Mv.refl b W), HL, Lib.hid (fun _ => HA.out)⟩
  case round =>
    clear HX HR HG HL HA
    obtain ⟨k, y, hkn, rfl, hk, HX, HG, HM, HL, HA⟩ := hrel
    rename World => W2
    by_cases hlt : k < 6
    · have c : k = 0 ∨ k = 1 ∨ k = 2 ∨ k = 3 ∨ k = 4 ∨ k = 5 := by omega
      clear hkn hlt
      rcases c with rfl | rfl | rfl | rfl | rfl | rfl
      · have hR := Lib.hid (show chF (rdPlc :: [rdAcc, rdCol, rdStem, rdObl, rdLast]) y = R from hk.out)
        have c0 := HG.out.cell (j := 0) (v := fnP 121 b) rfl
        unfold fnP at c0
        have T := Lib.hid (P0.out W2 b y HL.out HX.out)
        clear P0 P1 P2 P3 P4 P5 hk HX
        cases hf : rdPlc y with
        | none =>
          have fin := Lib.hid (show R = none by rw [← hR.out, ch_none hf])
          have T2 := Lib.hid (T.out.mono fun e w' h => ((⟨h.1, h.2.2 hf⟩ : Mv b W2 w' ∧ e = .returned (.bool false))))
          clear hf hR T
          go_wp2_with fail
          refine T2.out.mono ?_
          rintro e w3 ⟨hm, rfl⟩
          have H3 := Lib.hid (HM.out.trans hm)
          clear hm T2 HM HG c0
          go_wp2_with fail
          go_ret
          exact post_none fin.out H3.out
        | some z =>
          have hn := Lib.hid (show chF [rdAcc, rdCol, rdStem, rdObl, rdLast] z = R by rw [← hR.out, ch_some hf])
          have HL2 := Lib.hid (show z.1.length ≤ 1000000 from Nat.le_trans (le_plc hf).1 HL.out)
          have HA2 := Lib.hid (fun (_ : 1 ≤ 1) => show z.2.acc = 0 from (le_plc hf).2.trans (HA.out (by decide)))
          have T2 := Lib.hid (T.out.mono fun e w' h => ((⟨h.1, h.2.1 z hf⟩ : Mv b W2 w' ∧ e = .returned (.bool true) ∧ CuX w' b z)))
          clear hf hR T
          go_wp2_with fail
          refine T2.out.mono ?_
          rintro e w3 ⟨hm, rfl, hc⟩
          have H3 := Lib.hid (HM.out.trans hm)
          have HX := Lib.hid hc
          have HG2 := Lib.hid (HG.out.mv hm HN.out)
          clear hm hc T2 HM HG c0
          go_wp2_with fail
          go_roundw
          case rel => exact ⟨1, z, by decide, rfl, hn, HX, HG2, H3, HL2, HA2⟩
          case measure => decide
      · have hR := Lib.hid (show chF (rdAcc :: [rdCol, rdStem, rdObl, rdLast]) y = R from hk.out)
        have c1 := HG.out.cell (j := 1) (v := fnP 122 b) rfl
        unfold fnP at c1
        have T := Lib.hid (P1.out W2 b y HL.out (HA.out (by decide)) HX.out)
        clear P0 P1 P2 P3 P4 P5 hk HX
        cases hf : rdAcc y with
        | none =>
          have fin := Lib.hid (show R = none by rw [← hR.out, ch_none hf])
          have T2 := Lib.hid (T.out.mono fun e w' h => ((⟨h.1, h.2.2 hf⟩ : Mv b W2 w' ∧ e = .returned (.bool false))))
          clear hf hR T
          go_wp2_with fail
          refine T2.out.mono ?_
          rintro e w3 ⟨hm, rfl⟩
          have H3 := Lib.hid (HM.out.trans hm)
          clear hm T2 HM HG c1
          go_wp2_with fail
          go_ret
          exact post_none fin.out H3.out
        | some z =>
          have hn := Lib.hid (show chF [rdCol, rdStem, rdObl, rdLast] z = R by rw [← hR.out, ch_some hf])
          have HL2 := Lib.hid (show z.1.length ≤ 1000000 from Nat.le_trans (le_acc hf) HL.out)
          have HA2 := Lib.hid (fun (hq : 2 ≤ 1) => show z.2.acc = 0 from absurd hq (by decide))
          have T2 := Lib.hid (T.out.mono fun e w' h => ((⟨h.1, h.2.1 z hf⟩ : Mv b W2 w' ∧ e = .returned (.bool true) ∧ CuX w' b z)))
          clear hf hR T
          go_wp2_with fail
          refine T2.out.mono ?_
          rintro e w3 ⟨hm, rfl, hc⟩
          have H3 := Lib.hid (HM.out.trans hm)
          have HX := Lib.hid hc
          have HG2 := Lib.hid (HG.out.mv hm HN.out)
          clear hm hc T2 HM HG c1
          go_wp2_with fail
          go_roundw
          case rel => exact ⟨2, z, by decide, rfl, hn, HX, HG2, H3, HL2, HA2⟩
          case measure => decide
      · have hR := Lib.hid (show chF (rdCol :: [rdStem, rdObl, rdLast]) y = R from hk.out)
        have c2 := HG.out.cell (j := 2) (v := fnP 123 b) rfl
        unfold fnP at c2
        have T := Lib.hid (P2.out W2 b y HL.out HX.out)
        clear P0 P1 P2 P3 P4 P5 hk HX
        cases hf : rdCol y with
        | none =>
          have fin := Lib.hid (show R = none by rw [← hR.out, ch_none hf])
          have T2 := Lib.hid (T.out.mono fun e w' h => ((⟨h.1, h.2.2 hf⟩ : Mv b W2 w' ∧ e = .returned (.bool false))))
          clear hf hR T
          go_wp2_with fail
          refine T2.out.mono ?_
          rintro e w3 ⟨hm, rfl⟩
          have H3 := Lib.hid (HM.out.trans hm)
          clear hm T2 HM HG c2
          go_wp2_with fail
          go_ret
          exact post_none fin.out H3.out
        | some z =>
          have hn := Lib.hid (show chF [rdStem, rdObl, rdLast] z = R by rw [← hR.out, ch_some hf])
          have HL2 := Lib.hid (show z.1.length ≤ 1000000 from Nat.le_trans (le_col hf) HL.out)
          have HA2 := Lib.hid (fun (hq : 3 ≤ 1) => show z.2.acc = 0 from absurd hq (by decide))
          have T2 := Lib.hid (T.out.mono fun e w' h => ((⟨h.1, h.2.1 z hf⟩ : Mv b W2 w' ∧ e = .returned (.bool true) ∧ CuX w' b z)))
          clear hf hR T
          go_wp2_with fail
          refine T2.out.mono ?_
          rintro e w3 ⟨hm, rfl, hc⟩
          have H3 := Lib.hid (HM.out.trans hm)
          have HX := Lib.hid hc
          have HG2 := Lib.hid (HG.out.mv hm HN.out)
          clear hm hc T2 HM HG c2
          go_wp2_with fail
          go_roundw
          case rel => exact ⟨3, z, by decide, rfl, hn, HX, HG2, H3, HL2, HA2⟩
          case measure => decide
      · have hR := Lib.hid (show chF (rdStem :: [rdObl, rdLast]) y = R from hk.out)
        have c3 := HG.out.cell (j := 3) (v := fnP 129 b) rfl
        unfold fnP at c3
        have T := Lib.hid (P3.out W2 b y HL.out HX.out)
        clear P0 P1 P2 P3 P4 P5 hk HX
        cases hf : rdStem y with
        | none =>
          have fin := Lib.hid (show R = none by rw [← hR.out, ch_none hf])
          have T2 := Lib.hid (T.out.mono fun e w' h => ((⟨h.1, h.2.2 hf⟩ : Mv b W2 w' ∧ e = .returned (.bool false))))
          clear hf hR T
          go_wp2_with fail
          refine T2.out.mono ?_
          rintro e w3 ⟨hm, rfl⟩
          have H3 := Lib.hid (HM.out.trans hm)
          clear hm T2 HM HG c3
          go_wp2_with fail
          go_ret
          exact post_none fin.out H3.out
        | some z =>
          have hn := Lib.hid (show chF [rdObl, rdLast] z = R by rw [← hR.out, ch_some hf])
          have HL2 := Lib.hid (show z.1.length ≤ 1000000 from Nat.le_trans (le_stem hf) HL.out)
          have HA2 := Lib.hid (fun (hq : 4 ≤ 1) => show z.2.acc = 0 from absurd hq (by decide))
          have T2 := Lib.hid (T.out.mono fun e w' h => ((⟨h.1, h.2.1 z hf⟩ : Mv b W2 w' ∧ e = .returned (.bool true) ∧ CuX w' b z)))
          clear hf hR T
          go_wp2_with fail
          refine T2.out.mono ?_
          rintro e w3 ⟨hm, rfl, hc⟩
          have H3 := Lib.hid (HM.out.trans hm)
          have HX := Lib.hid hc
          have HG2 := Lib.hid (HG.out.mv hm HN.out)
          clear hm hc T2 HM HG c3
          go_wp2_with fail
          go_roundw
          case rel => exact ⟨4, z, by decide, rfl, hn, HX, HG2, H3, HL2, HA2⟩
          case measure => decide
      · have hR := Lib.hid (show chF (rdObl :: [rdLast]) y = R from hk.out)
        have c4 := HG.out.cell (j := 4) (v := fnP 130 b) rfl
        unfold fnP at c4
        have T := Lib.hid (P4.out W2 b y HL.out HX.out)
        clear P0 P1 P2 P3 P4 P5 hk HX
        cases hf : rdObl y with
        | none =>
          have fin := Lib.hid (show R = none by rw [← hR.out, ch_none hf])
          have T2 := Lib.hid (T.out.mono fun e w' h => ((⟨h.1, h.2.2 hf⟩ : Mv b W2 w' ∧ e = .returned (.bool false))))
          clear hf hR T
          go_wp2_with fail
          refine T2.out.mono ?_
          rintro e w3 ⟨hm, rfl⟩
          have H3 := Lib.hid (HM.out.trans hm)
          clear hm T2 HM HG c4
          go_wp2_with fail
          go_ret
          exact post_none fin.out H3.out
        | some z =>
          have hn := Lib.hid (show chF [rdLast] z = R by rw [← hR.out, ch_some hf])
          have HL2 := Lib.hid (show z.1.length ≤ 1000000 from Nat.le_trans (le_obl hf) HL.out)
          have HA2 := Lib.hid (fun (hq : 5 ≤ 1) => show z.2.acc = 0 from absurd hq (by decide))
          have T2 := Lib.hid (T.out.mono fun e w' h => ((⟨h.1, h.2.1 z hf⟩ : Mv b W2 w' ∧ e = .returned (.bool true) ∧ CuX w' b z)))
          clear hf hR T
          go_wp2_with fail
          refine T2.out.mono ?_
          rintro e w3 ⟨hm, rfl, hc⟩
          have H3 := Lib.hid (HM.out.trans hm)
          have HX := Lib.hid hc
          have HG2 := Lib.hid (HG.out.mv hm HN.out)
          clear hm hc T2 HM HG c4
          go_wp2_with fail
          go_roundw
          case rel => exact ⟨5, z, by decide, rfl, hn, HX, HG2, H3, HL2, HA2⟩
          case measure => decide
      · have hR := Lib.hid (show chF (rdLast :: []) y = R from hk.out)
        have c5 := HG.out.cell (j := 5) (v := fnP 131 b) rfl
        unfold fnP at c5
        have T := Lib.hid (P5.out W2 b y HL.out HX.out)
        clear P0 P1 P2 P3 P4 P5 hk HX
        cases hf : rdLast y with
        | none =>
          have fin := Lib.hid (show R = none by rw [← hR.out, ch_none hf])
          have T2 := Lib.hid (T.out.mono fun e w' h => ((⟨h.1, h.2.2 hf⟩ : Mv b W2 w' ∧ e = .returned (.bool false))))
          clear hf hR T
          go_wp2_with fail
          refine T2.out.mono ?_
          rintro e w3 ⟨hm, rfl⟩
          have H3 := Lib.hid (HM.out.trans hm)
          clear hm T2 HM HG c5
          go_wp2_with fail
          go_ret
          exact post_none fin.out H3.out
        | some z =>
          have hn := Lib.hid (show chF [] z = R by rw [← hR.out, ch_some hf])
          have HL2 := Lib.hid (show z.1.length ≤ 1000000 from Nat.le_trans (le_last hf) HL.out)
          have HA2 := Lib.hid (fun (hq : 6 ≤ 1) => show z.2.acc = 0 from absurd hq (by decide))
          have T2 := Lib.hid (T.out.mono fun e w' h => ((⟨h.1, h.2.1 z hf⟩ : Mv b W2 w' ∧ e = .returned (.bool true) ∧ CuX w' b z)))
          clear hf hR T
          go_wp2_with fail
          refine T2.out.mono ?_
          rintro e w3 ⟨hm, rfl, hc⟩
          have H3 := Lib.hid (HM.out.trans hm)
          have HX := Lib.hid hc
          have HG2 := Lib.hid (HG.out.mv hm HN.out)
          clear hm hc T2 HM HG c5
          go_wp2_with fail
          go_roundw
          case rel => exact ⟨6, z, by decide, rfl, hn, HX, HG2, H3, HL2, HA2⟩
          case measure => decide
    · obtain rfl : k = 6 := by omega
      have fin := Lib.hid (show R = some y from hk.out.symm)
      clear P0 P1 P2 P3 P4 P5 hk HG
      go_wp2_with fail
      go_ret
      exact post_some fin.out HM.out HX.out
set_option maxRecDepth 100000 in
set_option maxHeartbeats 8000000 in
theorem each_mens (b g : Nat) (x : Cu) (W : World) (hl : x.1.length ≤ 1000000) (h : CuX W b x) (hg : HoldsB W g 28 #[fnP 133 b, fnP 134 b]) (hne : g ≠ b) :
    Calls Tryz.prog 119 #[.slice (some ⟨g, 0, none⟩) 2 2] W (PcPost (chF [rdMens, rdStk] x) b W) := by
  obtain ⟨R, hR⟩ : ∃ R, chF [rdMens, rdStk] x = R := ⟨_, rfl⟩
  rw [hR]
  have HR := Lib.hid hR
  have HX := Lib.hid h
  have HG := Lib.hid hg
  have HL := Lib.hid hl
  have HN := Lib.hid hne
  have P0 := Lib.hid pmens_any
  have P1 := Lib.hid pstk_any
  clear hR h hg hl hne
  go_enter Tryz.func119, Tryz.ntmps119
  go_wp2_with fail
  go_loopw [7] (fun s7 W2 => ∃ (k : Nat) (y : Cu), k ≤ 2 ∧ s7 = .int .i64 k ∧ Hid (chF (List.drop k [rdMens, rdStk]) y = R) ∧ Hid (CuX W2 b y) ∧ Hid (HoldsB W2 g 28 #[fnP 133 b, fnP 134 b]) ∧ Hid (Mv b W W2) ∧ Hid (y.1.length ≤ 1000000)) (fun s7 _ => 2 - (intOf s7).toNat)
  case atStart => exact ⟨0, x, by omega, rfl, HR, HX, HG, Lib.hid (Mv.refl b W), HL⟩
  case round =>
    clear HX HR HG HL
    obtain ⟨k, y, hkn, rfl, hk, HX, HG, HM, HL⟩ := hrel
    rename World => W2
    by_cases hlt : k < 2
    · have c : k = 0 ∨ k = 1 := by omega
      clear hkn hlt
      rcases c with rfl | rfl
      · have hR := Lib.hid (show chF (rdMens :: [rdStk]) y = R from hk.out)
        have c0 := HG.out.cell (j := 0) (v := fnP 133 b) rfl
        unfold fnP at c0
        have T := Lib.hid (P0.out W2 b y HL.out HX.out)
        clear P0 P1 hk HX
        cases hf : rdMens y with
        | none =>
          have fin := Lib.hid (show R = none by rw [← hR.out, ch_none hf])
          have T2 := Lib.hid (T.out.mono fun e w' h => ((⟨h.1, h.2.2 hf⟩ : Mv b W2 w' ∧ e = .returned (.bool false))))
          clear hf hR T
          go_wp2_with fail
          refine T2.out.mono ?_
          rintro e w3 ⟨hm, rfl⟩
          have H3 := Lib.hid (HM.out.trans hm)
          clear hm T2 HM HG c0
          go_wp2_with fail
          go_ret
          exact post_none fin.out H3.out
        | some z =>
          have hn := Lib.hid (show chF [rdStk] z = R by rw [← hR.out, ch_some hf])
          have HL2 := Lib.hid (show z.1.length ≤ 1000000 from Nat.le_trans (le_mens hf) HL.out)
          have T2 := Lib.hid (T.out.mono fun e w' h => ((⟨h.1, h.2.1 z hf⟩ : Mv b W2 w' ∧ e = .returned (.bool true) ∧ CuX w' b z)))
          clear hf hR T
          go_wp2_with fail
          refine T2.out.mono ?_
          rintro e w3 ⟨hm, rfl, hc⟩
          have H3 := Lib.hid (HM.out.trans hm)
          have HX := Lib.hid hc
          have HG2 := Lib.hid (HG.out.mv hm HN.out)
          clear hm hc T2 HM HG c0
          go_wp2_with fail
          go_roundw
          case rel => exact ⟨1, z, by decide, rfl, hn, HX, HG2, H3, HL2⟩
          case measure => decide
      · have hR := Lib.hid (show chF (rdStk :: []) y = R from hk.out)
        have c1 := HG.out.cell (j := 1) (v := fnP 134 b) rfl
        unfold fnP at c1
        have T := Lib.hid (P1.out W2 b y HL.out HX.out)
        clear P0 P1 hk HX
        cases hf : rdStk y with
        | none =>
          have fin := Lib.hid (show R = none by rw [← hR.out, ch_none hf])
          have T2 := Lib.hid (T.out.mono fun e w' h => ((⟨h.1, h.2.2 hf⟩ : Mv b W2 w' ∧ e = .returned (.bool false))))
          clear hf hR T
          go_wp2_with fail
          refine T2.out.mono ?_
          rintro e w3 ⟨hm, rfl⟩
          have H3 := Lib.hid (HM.out.trans hm)
          clear hm T2 HM HG c1
          go_wp2_with fail
          go_ret
          exact post_none fin.out H3.out
        | some z =>
          have hn := Lib.hid (show chF [] z = R by rw [← hR.out, ch_some hf])
          have HL2 := Lib.hid (show z.1.length ≤ 1000000 from Nat.le_trans (le_stk hf) HL.out)
          have T2 := Lib.hid (T.out.mono fun e w' h => ((⟨h.1, h.2.1 z hf⟩ : Mv b W2 w' ∧ e = .returned (.bool true) ∧ CuX w' b z)))
          clear hf hR T
          go_wp2_with fail
          refine T2.out.mono ?_
          rintro e w3 ⟨hm, rfl, hc⟩
          have H3 := Lib.hid (HM.out.trans hm)
          have HX := Lib.hid hc
          have HG2 := Lib.hid (HG.out.mv hm HN.out)
          clear hm hc T2 HM HG c1
          go_wp2_with fail
          go_roundw
          case rel => exact ⟨2, z, by decide, rfl, hn, HX, HG2, H3, HL2⟩
          case measure => decide
    · obtain rfl : k = 2 := by omega
      have fin := Lib.hid (show R = some y from hk.out.symm)
      clear P0 P1 hk HG
      go_wp2_with fail
      go_ret
      exact post_some fin.out HM.out HX.out
end Go.Proofs.YtdmedealdhadcaaGreatDoor
