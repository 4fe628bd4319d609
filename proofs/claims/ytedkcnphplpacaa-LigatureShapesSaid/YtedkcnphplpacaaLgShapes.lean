/- LigatureShapes returns true. -/
import Derived.Test.YtedkcnphplpacaaLgRefK
import Derived.Test.YtedkcnphplpacaaLgMathD
import Derived.Test.YtedkcnphplpacaaLgAwake
import Derived.Test.YtedkcnphplpacaaLgKit
namespace Go.Proofs.Ytedkcnphplpacaa
open Go.RowKit

theorem psplit_any (ps vs : List Int) (p q : Option Addr) (cp cq : Nat) (w : World) (hp : SlP w 1 p ps.length cp (ints ps)) (hq : SlP w 1 q vs.length cq (ints vs)) :
    Calls Try.prog 30 #[.slice p ps.length cp, .slice q vs.length cq] w fun e w' => ∃ x c, e = .returned (.tuple #[.slice x (splP ps vs).length c, .int .i64 (askE ps vs)]) ∧ SlP w' 1 x (splP ps vs).length c (ints (splP ps vs)) ∧ Below w.heap.size w w' := by
  by_cases h : askE ps vs = 0
  · obtain ⟨⟨a1, a2⟩, a3⟩ := ask_len h
    rw [show splP ps vs = splL ps vs from if_pos h, h, a3]
    have hq' := hq
    rw [a3] at hq'
    refine (psplit0_any ps vs ps.length rfl a1 a2 h p q cp cq w hp hq' a3).mono (fun e w' k => ?_)
    obtain ⟨v, e1, ho⟩ := k
    obtain ⟨x, c, e2, hs⟩ := SlP.of_own ho.row (ints_len _) (ints_one _)
    subst e2
    exact ⟨x, c, e1, hs, ho.bel⟩
  · rw [show splP ps vs = [] from if_neg h]
    have AK := Lib.hid (pask_any ps vs p q cp cq w hp hq)
    have e1 : (askE ps vs == 0) = false := beq_eq_false_iff_ne.2 h
    have e2 : (askE ps vs != 0) = true := by simp [h]
    clear hp hq h
    generalize askE ps vs = E at *
    go_enter Try.func30, Try.ntmps30
    go_wp2_with fail
    refine AK.out.mono ?_
    rintro e w1 ⟨rfl, rfl⟩
    clear AK
    go_wp2_with fail
    go_ret2
    exact ⟨none, 0, rfl, sl_nil _, w_refl _⟩

theorem rsplit_any (ps vs : List Int) (p q : Option Addr) (cp cq : Nat) (w : World) (hp : SlP w 1 p ps.length cp (ints ps)) (hq : SlP w 1 q vs.length cq (ints vs)) :
    Calls Try.prog 31 #[.slice p ps.length cp, .slice q vs.length cq] w fun e w' => ∃ x c, e = .returned (.tuple #[.slice x (splP ps vs).length c, .int .i64 (askE ps vs)]) ∧ SlP w' 1 x (splP ps vs).length c (ints (splP ps vs)) ∧ Below w.heap.size w w' := by
  by_cases h : askE ps vs = 0
  · obtain ⟨⟨a1, a2⟩, a3⟩ := ask_len h
    rw [show splP ps vs = splL ps vs from if_pos h, h, a3]
    have hq' := hq
    rw [a3] at hq'
    exact rsplit0_any ps vs ps.length rfl a1 a2 h p q cp cq w hp hq' a3
  · rw [show splP ps vs = [] from if_neg h]
    have AK := Lib.hid (rask_any ps vs p q cp cq w hp hq)
    have e1 : (askE ps vs == 0) = false := beq_eq_false_iff_ne.2 h
    have e2 : (askE ps vs != 0) = true := by simp [h]
    clear hp hq h
    generalize askE ps vs = E at *
    go_enter Try.func31, Try.ntmps31
    go_wp2_with fail
    refine AK.out.mono ?_
    rintro e w1 ⟨rfl, rfl⟩
    clear AK
    go_wp2_with fail
    go_ret2
    exact ⟨none, 0, rfl, sl_nil _, w_refl _⟩

theorem cnt_eq (ps vs : List Int) : cntG ps vs = cntP ps vs := by
  unfold cntG cntP
  by_cases h : askE ps vs = 0
  · rw [if_pos h, if_pos h, (all_perm (vs := vs) (fun i hi => ((ask_inv h).2.2 i hi).1)).length_eq]
  · rw [if_neg h, if_neg h]
theorem rs_eq (ps vs : List Int) : rshS ps vs = shpS ps vs ∧ rshE ps vs = shpE ps vs := by
  unfold rshS shpS rshE shpE
  by_cases h : askE ps vs = 0
  · rw [if_pos h, if_pos h, if_pos h, if_pos h, shape_eq h]; exact ⟨rfl, rfl⟩
  · rw [if_neg h, if_neg h, if_neg h, if_neg h]; exact ⟨rfl, rfl⟩

set_option maxRecDepth 100000 in
set_option maxHeartbeats 4000000 in
theorem lshapes_any (ps vs : List Int) (p q : Option Addr) (cp cq : Nat) (w : World) (hp : SlP w 1 p ps.length cp (ints ps)) (hq : SlP w 1 q vs.length cq (ints vs)) :
    Calls Try.prog 5 #[.slice p ps.length cp, .slice q vs.length cq] w fun e w' => e = .returned (.bool true) ∧ Below w.heap.size w w' := by
  have f1 := hp.fit
  have f2 := hp.max
  have g1 := hq.fit
  have g2 := hq.max
  have AW := Lib.hid (fun W => lawake_any W)
  by_cases h : ps.length ≤ 30 ∧ vs.length ≤ 30
  · have h1 : ¬ (30 : Int) < ps.length := by omega
    have h2 : ¬ (30 : Int) < vs.length := by omega
    have OI := Lib.hid (fun a b W k => owni_any a b ps (by omega) W k)
    have OJ := Lib.hid (fun a b W k => owni_any a b vs (by omega) W k)
    have PS := Lib.hid (show ∀ a b c d W, SlP W 1 a ps.length c (ints ps) → SlP W 1 b vs.length d (ints vs) → Calls Try.prog 24 #[.slice a ps.length c, .slice b vs.length d] W fun e w' => ∃ x c, e = .returned (.tuple #[.slice x (shpS ps vs).length c, .int .i64 (shpE ps vs)]) ∧ SlP w' 17 x (shpS ps vs).length c (flatG (shpS ps vs)) ∧ Below W.heap.size W w' from fun a b c d W k1 k2 => by
      refine (pshape_any ps vs a b c d W k1 k2).mono (fun e w' k => ?_)
      obtain ⟨v, e1, ho⟩ := k
      obtain ⟨x, c, e2, hs⟩ := SlP.of_own ho.row (flatG_len _) (flatG_one _)
      subst e2
      exact ⟨x, c, e1, hs, ho.bel⟩)
    have RS := Lib.hid (fun a b c d W k1 k2 => rshape_any ps vs a b c d W k1 k2)
    rw [(rs_eq ps vs).1, (rs_eq ps vs).2] at RS
    have PC := Lib.hid (fun a b c d W k1 k2 => pcan_any ps vs a b c d W k1 k2)
    have RC := Lib.hid (fun a b c d W k1 k2 => rcan_any ps vs a b c d W k1 k2)
    have PN := Lib.hid (fun a b c d W k1 k2 => pcount_any ps vs a b c d W k1 k2)
    have RN := Lib.hid (fun a b c d W k1 k2 => rcnt_any ps vs a b c d W k1 k2)
    rw [cnt_eq ps vs] at RC RN
    have PL := Lib.hid (fun a b c d W k1 k2 => psplit_any ps vs a b c d W k1 k2)
    have RL := Lib.hid (fun a b c d W k1 k2 => rsplit_any ps vs a b c d W k1 k2)
    have HP := Lib.hid hp
    have HQ := Lib.hid hq
    have KB := Lib.hid (w_refl w)
    clear hp hq h
    generalize shpS ps vs = SS at *
    generalize shpE ps vs = SE at *
    generalize cntP ps vs = CC at *
    generalize askE ps vs = EE at *
    generalize splP ps vs = LL at *
    go_enter Try.func5, Try.ntmps5
    go_wp2_with fail
    refine (OI.out _ _ _ HP.out).mono ?_
    rintro e v1 ⟨v, rfl, ho⟩
    have hbX := ho.bel
    replace KB := Lib.hid (w_below KB.out hbX)
    replace HP := Lib.hid (HP.out.later hbX)
    replace HQ := Lib.hid (HQ.out.later hbX)
    obtain ⟨p1, c1, rfl, hs⟩ := SlP.of_own ho.row (ints_len _) (ints_one _)
    have P1 := Lib.hid hs
    clear ho hs hbX OI
    go_wp2_with fail
    refine (OJ.out _ _ _ HQ.out).mono ?_
    rintro e v2 ⟨v, rfl, ho⟩
    have hbX := ho.bel
    replace KB := Lib.hid (w_below KB.out hbX)
    replace HP := Lib.hid (HP.out.later hbX)
    replace HQ := Lib.hid (HQ.out.later hbX)
    replace P1 := Lib.hid (P1.out.later hbX)
    obtain ⟨q1, d1, rfl, hs⟩ := SlP.of_own ho.row (ints_len _) (ints_one _)
    have Q1 := Lib.hid hs
    clear ho hs hbX OJ
    go_wp2_with fail
    refine (PS.out _ _ _ _ _ P1.out Q1.out).mono ?_
    rintro e v3 ⟨x3, c3, rfl, hs, hb⟩
    have hbX := hb
    replace KB := Lib.hid (w_below KB.out hbX)
    replace HP := Lib.hid (HP.out.later hbX)
    replace HQ := Lib.hid (HQ.out.later hbX)
    replace P1 := Lib.hid (P1.out.later hbX)
    replace Q1 := Lib.hid (Q1.out.later hbX)
    have A := Lib.hid hs
    clear hs hb hbX PS
    go_wp2_with fail
    refine (RS.out _ _ _ _ _ HP.out HQ.out).mono ?_
    rintro e v4 ⟨x4, c4, rfl, hs, hb⟩
    have hbX := hb
    replace KB := Lib.hid (w_below KB.out hbX)
    replace HP := Lib.hid (HP.out.later hbX)
    replace HQ := Lib.hid (HQ.out.later hbX)
    replace P1 := Lib.hid (P1.out.later hbX)
    replace Q1 := Lib.hid (Q1.out.later hbX)
    replace A := Lib.hid (A.out.later hbX)
    have B := Lib.hid hs
    clear hs hb hbX RS
    go_wp2_with fail
    refine (sames_any _ _ _ _ SS _ A.out B.out).mono ?_
    rintro e v5 ⟨rfl, hb⟩
    have hbX := hb
    replace KB := Lib.hid (w_below KB.out hbX)
    replace HP := Lib.hid (HP.out.later hbX)
    replace HQ := Lib.hid (HQ.out.later hbX)
    replace P1 := Lib.hid (P1.out.later hbX)
    replace Q1 := Lib.hid (Q1.out.later hbX)
    replace A := Lib.hid (A.out.later hbX)
    replace B := Lib.hid (B.out.later hbX)
    clear hb hbX A B
    go_wp2_with fail
    refine (PC.out _ _ _ _ _ P1.out Q1.out).mono ?_
    rintro e v6 ⟨rfl, hb⟩
    have hbX := hb
    replace KB := Lib.hid (w_below KB.out hbX)
    replace HP := Lib.hid (HP.out.later hbX)
    replace HQ := Lib.hid (HQ.out.later hbX)
    replace P1 := Lib.hid (P1.out.later hbX)
    replace Q1 := Lib.hid (Q1.out.later hbX)
    clear hb hbX PC
    go_wp2_with fail
    refine (RC.out _ _ _ _ _ HP.out HQ.out).mono ?_
    rintro e v7 ⟨rfl, hb⟩
    have hbX := hb
    replace KB := Lib.hid (w_below KB.out hbX)
    replace HP := Lib.hid (HP.out.later hbX)
    replace HQ := Lib.hid (HQ.out.later hbX)
    replace P1 := Lib.hid (P1.out.later hbX)
    replace Q1 := Lib.hid (Q1.out.later hbX)
    clear hb hbX RC
    go_wp2_with fail
    refine (PN.out _ _ _ _ _ P1.out Q1.out).mono ?_
    rintro e v8 ⟨rfl, hb⟩
    have hbX := hb
    replace KB := Lib.hid (w_below KB.out hbX)
    replace HP := Lib.hid (HP.out.later hbX)
    replace HQ := Lib.hid (HQ.out.later hbX)
    replace P1 := Lib.hid (P1.out.later hbX)
    replace Q1 := Lib.hid (Q1.out.later hbX)
    clear hb hbX PN
    go_wp2_with fail
    refine (RN.out _ _ _ _ _ HP.out HQ.out).mono ?_
    rintro e v9 ⟨rfl, hb⟩
    have hbX := hb
    replace KB := Lib.hid (w_below KB.out hbX)
    replace HP := Lib.hid (HP.out.later hbX)
    replace HQ := Lib.hid (HQ.out.later hbX)
    replace P1 := Lib.hid (P1.out.later hbX)
    replace Q1 := Lib.hid (Q1.out.later hbX)
    clear hb hbX RN
    go_wp2_with fail
    refine (PL.out _ _ _ _ _ P1.out Q1.out).mono ?_
    rintro e v10 ⟨x5, c5, rfl, hs, hb⟩
    have hbX := hb
    replace KB := Lib.hid (w_below KB.out hbX)
    replace HP := Lib.hid (HP.out.later hbX)
    replace HQ := Lib.hid (HQ.out.later hbX)
    replace P1 := Lib.hid (P1.out.later hbX)
    replace Q1 := Lib.hid (Q1.out.later hbX)
    have C := Lib.hid hs
    clear hs hb hbX PL
    go_wp2_with fail
    refine (RL.out _ _ _ _ _ HP.out HQ.out).mono ?_
    rintro e v11 ⟨x6, c6, rfl, hs, hb⟩
    have hbX := hb
    replace KB := Lib.hid (w_below KB.out hbX)
    replace HP := Lib.hid (HP.out.later hbX)
    replace HQ := Lib.hid (HQ.out.later hbX)
    replace P1 := Lib.hid (P1.out.later hbX)
    replace Q1 := Lib.hid (Q1.out.later hbX)
    replace C := Lib.hid (C.out.later hbX)
    have D := Lib.hid hs
    clear hs hb hbX RL
    go_wp2_with fail
    refine (samei_any _ _ _ _ LL _ C.out D.out).mono ?_
    rintro e v12 ⟨rfl, hb⟩
    have hbX := hb
    replace KB := Lib.hid (w_below KB.out hbX)
    replace HP := Lib.hid (HP.out.later hbX)
    replace HQ := Lib.hid (HQ.out.later hbX)
    replace P1 := Lib.hid (P1.out.later hbX)
    replace Q1 := Lib.hid (Q1.out.later hbX)
    replace C := Lib.hid (C.out.later hbX)
    replace D := Lib.hid (D.out.later hbX)
    clear hb hbX C D
    go_wp2_with fail
    refine (samei_any _ _ _ _ ps _ P1.out HP.out).mono ?_
    rintro e v13 ⟨rfl, hb⟩
    have hbX := hb
    replace KB := Lib.hid (w_below KB.out hbX)
    replace HP := Lib.hid (HP.out.later hbX)
    replace HQ := Lib.hid (HQ.out.later hbX)
    replace P1 := Lib.hid (P1.out.later hbX)
    replace Q1 := Lib.hid (Q1.out.later hbX)
    clear hb hbX P1 HP
    go_wp2_with fail
    refine (samei_any _ _ _ _ vs _ Q1.out HQ.out).mono ?_
    rintro e v14 ⟨rfl, hb⟩
    have hbX := hb
    replace KB := Lib.hid (w_below KB.out hbX)
    replace HQ := Lib.hid (HQ.out.later hbX)
    replace Q1 := Lib.hid (Q1.out.later hbX)
    clear hb hbX Q1 HQ
    go_wp2_with fail
    refine (AW.out _).mono ?_
    rintro e v15 ⟨rfl, hb⟩
    have hbX := hb
    replace KB := Lib.hid (w_below KB.out hbX)
    clear hb hbX AW
    go_wp2_with fail
    go_ret
    exact ⟨rfl, KB.out⟩
  · have KB := Lib.hid (w_refl w)
    clear hp hq
    by_cases h1 : (30 : Int) < ps.length
    · go_enter Try.func5, Try.ntmps5
      go_wp2_with fail
      refine (AW.out _).mono ?_
      rintro e w1 ⟨rfl, hb⟩
      have B := Lib.hid hb
      clear hb AW
      go_wp2_with fail
      go_ret
      exact ⟨rfl, B.out⟩
    · have h2 : (30 : Int) < vs.length := by omega
      go_enter Try.func5, Try.ntmps5
      go_wp2_with fail
      refine (AW.out _).mono ?_
      rintro e w1 ⟨rfl, hb⟩
      have B := Lib.hid hb
      clear hb AW
      go_wp2_with fail
      go_ret
      exact ⟨rfl, B.out⟩

end Go.Proofs.Ytedkcnphplpacaa
