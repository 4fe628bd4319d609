/- The program's Meanings and Rule. -/
import Derived.Test.YthokapebcplmkaaDCols
import Derived.Test.YthokapebcplmkaaDPost
namespace Go.Proofs.Ythokapebcplmkaa
open Go.RowKit

set_option maxHeartbeats 1000000 in
theorem pmns_any (q : Q4) (l : List Sg) (hl : l.length ≤ 1000) (p : Option Addr) (cap : Nat) (w : World) (h : SlP w 17 p l.length cap (flatG l)) :
    Calls Try.prog 12 #[mv q, .slice p l.length cap] w (MnPost q l w) := by
  have K0 := Lib.hid (Cell4.made w q 23)
  have B0 := Lib.hid (w_alloc (w_refl w) (mO q))
  have HP := Lib.hid h
  have CK := Lib.hid (fun W hh => pchk_any q l hl p cap W hh)
  have CO := Lib.hid (fun bm W hh hm => pcolL_any q l hl bm p cap W hh hm)
  clear h
  unfold MnPost
  by_cases hc : chkD q l = 0
  · rw [mnD_ok hc, hc]
    rw [hc] at CK
    clear hc
    generalize mnP q l l.length = R at *
    obtain ⟨q1, q2, q3, q4⟩ := q
    go_enter Try.func12, Try.ntmps12
    obtain ⟨_, k0, k1, k2, k3, _⟩ := K0.out
    simp only at k0 k1 k2 k3
    go_wp2_with fail
    refine (CK.out _ (HP.out.later B0.out)).mono ?_
    rintro e w1 ⟨rfl, hb⟩
    have B1 := Lib.hid (w_below B0.out hb)
    have KM1 := Lib.hid (K0.out.later hb)
    clear hb k0 k1 k2 k3 K0 B0 CK
    go_wp2_with fail
    refine (CO.out _ _ (HP.out.later B1.out) KM1.out).mono ?_
    rintro e w2 ⟨v, rfl, vs, ho⟩
    have HF := Lib.hid (show LstV w2 v (R) ∧ Below w.heap.size w w2 from ⟨ho.val, w_below B1.out ho.own.bel⟩)
    obtain ⟨q9, c9, rfl⟩ := ho.own.val
    clear ho CO HP KM1 B1
    go_wp2_with fail
    go_ret2
    exact ⟨_, rfl, HF.out.1, HF.out.2⟩
  · rw [mnD_no hc]
    have h1 : (chkD q l != 0) = true := by simp [hc]
    have h2 : (chkD q l == 0) = false := by simp [hc]
    clear hc CO
    generalize chkD q l = E at *
    obtain ⟨q1, q2, q3, q4⟩ := q
    go_enter Try.func12, Try.ntmps12
    obtain ⟨_, k0, k1, k2, k3, _⟩ := K0.out
    simp only at k0 k1 k2 k3
    go_wp2_with fail
    refine (CK.out _ (HP.out.later B0.out)).mono ?_
    rintro e w1 ⟨rfl, hb⟩
    have B1 := Lib.hid (w_below B0.out hb)
    clear hb k0 k1 k2 k3 K0 B0 CK
    go_wp2_with fail
    go_ret2
    exact ⟨_, rfl, LstV.none _, B1.out⟩

set_option maxHeartbeats 1000000 in
theorem prul_any (q : Q4) (l : List Sg) (hl : l.length ≤ 1000) (p : Option Addr) (cap : Nat) (w : World) (h : SlP w 17 p l.length cap (flatG l)) :
    Calls Try.prog 15 #[mv q, .slice p l.length cap] w (RuPost q l w) := by
  have K0 := Lib.hid (Cell4.made w q 23)
  have B0 := Lib.hid (w_alloc (w_refl w) (mO q))
  have HP := Lib.hid h
  have CK := Lib.hid (fun W hh => pchk_any q l hl p cap W hh)
  have CO := Lib.hid (fun bm W hh hm => pcolI_any q l hl bm p cap W hh hm)
  clear h
  unfold RuPost
  by_cases hc : chkD q l = 0
  · rw [ruD_ok hc, hc]
    rw [hc] at CK
    clear hc
    generalize ruP q l l.length = R at *
    obtain ⟨q1, q2, q3, q4⟩ := q
    go_enter Try.func15, Try.ntmps15
    obtain ⟨_, k0, k1, k2, k3, _⟩ := K0.out
    simp only at k0 k1 k2 k3
    go_wp2_with fail
    refine (CK.out _ (HP.out.later B0.out)).mono ?_
    rintro e w1 ⟨rfl, hb⟩
    have B1 := Lib.hid (w_below B0.out hb)
    have KM1 := Lib.hid (K0.out.later hb)
    clear hb k0 k1 k2 k3 K0 B0 CK
    go_wp2_with fail
    refine (CO.out _ _ (HP.out.later B1.out) KM1.out).mono ?_
    rintro e w2 ⟨v, rfl, ho⟩
    have HF := Lib.hid (show IntV w2 v (R) ∧ Below w.heap.size w w2 from ⟨IntV.of_own ho.row, w_below B1.out ho.bel⟩)
    obtain ⟨q9, c9, rfl⟩ := ho.val
    clear ho CO HP KM1 B1
    go_wp2_with fail
    go_ret2
    exact ⟨_, rfl, HF.out.1, HF.out.2⟩
  · rw [ruD_no hc]
    have h1 : (chkD q l != 0) = true := by simp [hc]
    have h2 : (chkD q l == 0) = false := by simp [hc]
    clear hc CO
    generalize chkD q l = E at *
    obtain ⟨q1, q2, q3, q4⟩ := q
    go_enter Try.func15, Try.ntmps15
    obtain ⟨_, k0, k1, k2, k3, _⟩ := K0.out
    simp only at k0 k1 k2 k3
    go_wp2_with fail
    refine (CK.out _ (HP.out.later B0.out)).mono ?_
    rintro e w1 ⟨rfl, hb⟩
    have B1 := Lib.hid (w_below B0.out hb)
    clear hb k0 k1 k2 k3 K0 B0 CK
    go_wp2_with fail
    go_ret2
    exact ⟨_, rfl, IntV.none _, B1.out⟩

end Go.Proofs.Ythokapebcplmkaa

/- The program's Count. -/
namespace Go.Proofs.Ythokapebcplmkaa
open Go.RowKit

set_option maxHeartbeats 2000000 in
theorem pcnt_any (q : Q4) (l : List Sg) (hl : l.length ≤ 1000) (p : Option Addr) (cap : Nat) (w : World) (h : SlP w 17 p l.length cap (flatG l)) :
    Calls Try.prog 18 #[mv q, .slice p l.length cap] w fun e w' => e = .returned (.tuple #[.int .i64 (cntD q l).1, .int .i64 (cntD q l).2]) ∧ Below w.heap.size w w' := by
  have K0 := Lib.hid (Cell4.made w q 23)
  have B0 := Lib.hid (w_alloc (w_refl w) (mO q))
  have HP := Lib.hid h
  have MN := Lib.hid (fun W hh => pmns_any q l hl p cap W hh)
  unfold MnPost at MN
  clear h
  by_cases hc : chkD q l = 0
  · have hone : ∀ x ∈ mnD q l, 1 ≤ x.length ∧ x.length ≤ 2 := mnD_one
    have HC := Lib.hid (show cntD q l = if prodL (mnD q l) ≤ 64 then ((prodL (mnD q l) : Int), 0) else (0, 15) from if_pos hc)
    rw [hc] at MN
    have hlen := mnD_len q l
    clear hc
    generalize cntD q l = R at *
    generalize mnD q l = L at *
    obtain ⟨R1, R2⟩ := R
    obtain ⟨q1, q2, q3, q4⟩ := q
    go_enter Try.func18, Try.ntmps18
    obtain ⟨_, k0, k1, k2, k3, _⟩ := K0.out
    simp only at k0 k1 k2 k3
    go_wp2_with fail
    refine (MN.out _ (HP.out.later B0.out)).mono ?_
    rintro e w1 ⟨v, rfl, ⟨pl, cl, vs, rfl, hL⟩, hb⟩
    have B1 := Lib.hid (w_below B0.out hb)
    have HL := Lib.hid hL
    have g1 := hL.sl.fit
    have g2 := hL.sl.max
    have HK := Lib.hid (fun k => prodL_take hone k)
    have HS := Lib.hid (fun k hk => prodL_step L (k := k) hk)
    have HO := Lib.hid (fun k (hk : k < L.length) => hone _ (List.getElem_mem hk))
    clear hb k0 k1 k2 k3 K0 B0 MN hL hone
    go_wp2_with fail
    go_loopw [8, 10, 22] (fun s8 _ s22 wr => ∃ k : Nat, k ≤ L.length ∧ s22 = .int .i64 k ∧ s8 = .int .i64 (prodL (L.take k) : Int) ∧ Hid (prodL (L.take k) ≤ 64) ∧ Hid (Below w1.heap.size w1 wr)) (fun _ _ s22 _ => L.length - (intOf s22).toNat)
    case atStart => exact ⟨0, by omega, rfl, rfl, Lib.hid (by rw [List.take_zero]; decide), Lib.hid (w_refl _)⟩
    case round =>
      rename World => wr
      obtain ⟨k, hk, rfl, rfl, h64, hB⟩ := hrel
      by_cases hlt : k < L.length
      · have hlt' : (k : Int) < L.length := by omega
        have hk0 : (0 : Int) ≤ k := by omega
        have hLr := HL.out.later hB.out
        obtain ⟨b, off, rfl, _, _⟩ := hLr.sl.at_ (by omega)
        obtain ⟨u, hu, hv⟩ := hLr.at_ k _ (List.getElem?_eq_getElem hlt)
        obtain ⟨pu, cu, rfl, hus⟩ := hv
        have c0 := cell_at hLr.sl hu
        have hst := HS.out k hlt
        have ho := HO.out k hlt
        rw [List.getD_eq_getElem?_getD, List.getElem?_eq_getElem hlt, Option.getD_some] at hst
        have hmax := HK.out (k + 1)
        have h64' := h64.out
        clear hLr hu hus h64
        generalize L[k] = X at *
        generalize hp1 : prodL (L.take (k + 1)) = P2 at *
        generalize prodL (L.take k) = P1 at *
        have x1 : IntKind.i64.wrap ((P1 : Int) * (X.length : Int)) = (P2 : Int) := by
          have e1 : (P1 : Int) * (X.length : Int) = (P2 : Int) := by rw [hst]; exact (Int.natCast_mul _ _).symm
          have e2 : P2 ≤ 64 * 2 := by rw [hst]; exact Nat.mul_le_mul h64' ho.2
          rw [e1]; exact IntWalk.i64_in _ (by omega)
        by_cases hle : P2 ≤ 64
        · have hle' : ¬ (64 : Int) < P2 := by omega
          have hle2 := Lib.hid (show prodL (L.take (k + 1)) ≤ 64 by rw [hp1]; exact hle)
          have hp2 := Lib.hid hp1
          clear hst hp1 hmax HL HK HS HO
          go_wp2_with fail
          skip
          exact ⟨⟨k + 1, by omega, by go_num, by rw [hp2.out], hle2, hB⟩, by simp [intOf]; omega⟩
        · have hle' : (64 : Int) < P2 := by omega
          have hfin := Lib.hid (show R1 = 0 ∧ R2 = 15 by
            have e := HC.out
            rw [if_neg (by omega)] at e
            injection e with e1 e2
            exact ⟨e1, e2⟩)
          have HF := Lib.hid (w_below B1.out hB.out)
          clear hst hp1 hmax HL HK HS HO HC hle
          go_wp2_with fail
          go_ret2
          exact ⟨by rw [hfin.out.1, hfin.out.2]; rfl, HF.out⟩
      · obtain rfl : k = L.length := by omega
        have hlt' : ¬ ((L.length : Int) < L.length) := by omega
        have h64' := h64.out
        have hfin := Lib.hid (show R1 = (prodL (L.take L.length) : Int) ∧ R2 = 0 by
          have e := HC.out
          rw [List.take_length] at h64' ⊢
          rw [if_pos h64'] at e
          injection e with e1 e2
          exact ⟨e1, e2⟩)
        have HF := Lib.hid (w_below B1.out hB.out)
        clear HL HK HS HO HC h64 h64'
        generalize prodL (L.take L.length) = P1 at *
        go_wp2_with fail
        go_ret2
        exact ⟨by rw [hfin.out.1, hfin.out.2]; rfl, HF.out⟩
  · have HC := Lib.hid (show cntD q l = (0, chkD q l) from if_neg hc)
    rw [HC.out]
    have h1 : (chkD q l != 0) = true := by simp [hc]
    have h2 : (chkD q l == 0) = false := by simp [hc]
    clear hc HC
    generalize chkD q l = E at *
    generalize mnD q l = L at *
    obtain ⟨q1, q2, q3, q4⟩ := q
    go_enter Try.func18, Try.ntmps18
    obtain ⟨_, k0, k1, k2, k3, _⟩ := K0.out
    simp only at k0 k1 k2 k3
    go_wp2_with fail
    refine (MN.out _ (HP.out.later B0.out)).mono ?_
    rintro e w1 ⟨v, rfl, ⟨pl, cl, vs, rfl, hL⟩, hb⟩
    have B1 := Lib.hid (w_below B0.out hb)
    clear hb k0 k1 k2 k3 K0 B0 MN hL
    go_wp2_with fail
    go_ret2
    exact ⟨rfl, B1.out⟩

end Go.Proofs.Ythokapebcplmkaa
