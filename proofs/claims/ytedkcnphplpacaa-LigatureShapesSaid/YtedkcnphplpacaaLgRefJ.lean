/- The reference's Shape. -/
import Derived.Test.YtedkcnphplpacaaLgRefI
import Derived.Test.YtedkcnphplpacaaLgPieM
namespace Go.Proofs.Ytedkcnphplpacaa
open Go.RowKit

def stepR (n : Nat) (o : Option (List Sg)) (x : List Sg) : Option (List Sg) := match o with
  | none => some x
  | some b => if befG x b n = true then some x else some b
def bstR (n : Nat) (xs : List (List Sg)) : Option (List Sg) := xs.foldl (stepR n) none
theorem bstR_snoc (n : Nat) (xs : List (List Sg)) (x : List Sg) : bstR n (xs ++ [x]) = stepR n (bstR n xs) x := by unfold bstR; rw [List.foldl_append]; rfl
def rshR (ps vs : List Int) : Option (List Sg) := bstR ps.length (allG ps vs)
def rshE (ps vs : List Int) : Int := if askE ps vs = 0 then errO (rshR ps vs) else askE ps vs
def rshS (ps vs : List Int) : List Sg := if askE ps vs = 0 then (rshR ps vs).getD [] else []
theorem sg_nilP (w : World) : SlP w 17 none 0 0 (flatG []) := ⟨rfl, by simp, by omega, fun _ => rfl, by simp [flatG], fun h => by simp at h⟩
theorem e0_head {L : List (List Sg)} {x : List Sg} (h : L[0]? = some x) : L.head? = some x := by rw [List.head?_eq_getElem?]; exact h
theorem ask_inv' {ps vs : List Int} (h : askE ps vs = 0) : (2 ≤ ps.length ∧ ps.length ≤ 12) ∧ vs.length = ps.length ∧ ∀ j, j < ps.length → okPV (ps.getD j 0) (vs.getD j 0) := ask_inv h
theorem grp_at {w : World} {base gb go m c n : Nat} {us : List Value} {L : List (List Sg)} (h : SlP w 1 (some ⟨gb, go, none⟩) m c us) (hi : Inn w base us L) (hl : ∀ x ∈ L, x.length = n) (hm : L.length = m) {k : Nat} (hk : k < m) :
    ∃ x q cap, L[k]? = some x ∧ x.length = n ∧ w.cell? ⟨gb, go + k, none⟩ = some (.slice q n cap) ∧ SlP w 17 q n cap (flatG x) := by
  have hx : L[k]? = some L[k] := List.getElem?_eq_getElem (by omega)
  obtain ⟨u, e, ho⟩ := hi.2 k _ hx
  have hxl := hl L[k] (List.getElem_mem (by omega))
  obtain ⟨q, cap, e2, hs⟩ := SlP.of_own ho (flatG_len _) (flatG_one _)
  obtain ⟨_, _, e3, _, hc⟩ := h.at_ (by omega)
  injection e3 with e3
  injection e3 with e3 e4 _
  subst e3 e4
  rw [hxl] at hs e2
  exact ⟨L[k], q, cap, hx, hxl, by rw [hc k u e, e2], hs⟩

set_option maxRecDepth 100000 in
set_option maxHeartbeats 4000000 in
theorem rshape_any (ps vs : List Int) (p q : Option Addr) (cp cq : Nat) (w : World) (hp : SlP w 1 p ps.length cp (ints ps)) (hq : SlP w 1 q vs.length cq (ints vs)) :
    Calls Try.prog 25 #[.slice p ps.length cp, .slice q vs.length cq] w fun e w' => ∃ x c, e = .returned (.tuple #[.slice x (rshS ps vs).length c, .int .i64 (rshE ps vs)]) ∧ SlP w' 17 x (rshS ps vs).length c (flatG (rshS ps vs)) ∧ Below w.heap.size w w' := by
  have AK := Lib.hid (rask_any ps vs p q cp cq w hp hq)
  by_cases h : askE ps vs = 0
  · obtain ⟨hh1, hh2, hh3⟩ := ask_inv' h
    rw [show rshE ps vs = errO (rshR ps vs) from if_pos h, show rshS ps vs = (rshR ps vs).getD [] from if_pos h]
    rw [h] at AK
    rw [hh2] at AK hq ⊢
    have AL := Lib.hid (rall_any ps vs hh1.1 hh1.2 p q cp cq w hp hq)
    unfold AllPost at AL
    have HL := Lib.hid (show ∀ x ∈ allG ps vs, x.length = ps.length from fun x hx => by
      obtain ⟨c, hc, _, hL, _⟩ := (mem_allG (fun j hj => (hh3 j hj).1) x).1 hx
      rw [hL, bldP_len, hc])
    unfold rshR
    have hn2 := hh1.1
    have hn12 := hh1.2
    clear hp hq h hh1 hh2 hh3
    generalize allG ps vs = L at *
    generalize ps.length = n at *
    go_enter Try.func25, Try.ntmps25
    go_wp2_with fail
    refine AK.out.mono ?_
    rintro e w1 ⟨rfl, rfl⟩
    clear AK
    go_wp2_with fail
    refine AL.out.mono ?_
    rintro e w2 ⟨v, us, rfl, hg⟩
    obtain ⟨x, c, rfl⟩ := hg.own.val
    have HW := Lib.hid hg.own.bel
    obtain ⟨m, hm⟩ : ∃ m, L.length = m := ⟨_, rfl⟩
    have HM := Lib.hid hm
    have HG := Lib.hid hg
    rw [hm]
    by_cases hm0 : m = 0
    · subst hm0
      have : L = [] := List.length_eq_zero_iff.1 hm
      subst this
      clear hg AL hm HM HG
      go_wp2_with fail
      go_ret2
      exact ⟨none, 0, rfl, sg_nilP _, HW.out⟩
    · obtain ⟨_, _, e9, hs⟩ := SlP.of_own hg.own.row (by rw [hg.inn.1, Nat.mul_one]) hg.inn.ones
      injection e9 with e9 _ e10
      subst e9 e10
      obtain ⟨gb, go, rfl, -, -⟩ := hs.at_ (by omega)
      have HS := Lib.hid (show SlP w2 1 (some ⟨gb, go, none⟩) m c us by rw [← hm]; exact hs)
      have HI := Lib.hid hg.inn
      have f3 := HS.out.fit
      have f4 := HS.out.max
      obtain ⟨x0, q0, c0, e0, l0, k0, s0⟩ := grp_at HS.out HI.out HL.out hm (show 0 < m by omega)
      rw [Nat.add_zero] at k0
      have hm1 : (0 : Int) < m := by omega
      have hmz : ((m : Int) == 0) = false := by simp; omega
      have S0 := Lib.hid s0
      have E0 := Lib.hid (show bstR n (L.take 1) = some x0 ∧ x0.length = n from ⟨by rw [List.take_one, e0_head e0]; rfl, l0⟩)
      clear hg AL hm HG hs e0 s0 l0 hm0
      go_wp2_with fail
      clear k0
      go_loopw [8, 9] (fun s8 s9 wr => ∃ (k : Nat) (bx : List Sg) (bq : Option Addr) (bc : Nat), 1 ≤ k ∧ k ≤ m ∧ s9 = .int .i64 (k : Int) ∧ s8 = .slice bq n bc ∧ Hid (bstR n (L.take k) = some bx ∧ bx.length = n) ∧ Hid (SlP wr 17 bq n bc (flatG bx)) ∧ Hid (Below w2.heap.size w2 wr)) (fun _ s9 _ => m - (intOf s9).toNat)
      case atStart => exact ⟨1, x0, q0, c0, by omega, by omega, rfl, rfl, E0, S0, Lib.hid (w_refl w2)⟩
      case round =>
        clear E0 S0
        rename World => wr
        obtain ⟨k, bx, bq, bc, hk1, hk, rfl, rfl, hE, hS, hB⟩ := hrel
        by_cases hlt : k < m
        · have hlt' : (k : Int) < m := by omega
          have hk0 : (0 : Int) ≤ k := by omega
          obtain ⟨x1, q1, c1, e1, l1, k1, s1⟩ := grp_at (HS.out.later hB.out) (HI.out.later hB.out) HL.out HM.out hlt
          have BF := Lib.hid (before_any x1 bx n (by omega) (by omega) l1 hE.out.2 q1 bq c1 bc wr s1 hS.out)
          have hst : bstR n (L.take (k + 1)) = if befG x1 bx n = true then some x1 else some bx := by
            rw [List.take_add_one, e1]
            show bstR n (L.take k ++ [x1]) = _
            rw [bstR_snoc, hE.out.1]; rfl
          have S1 := Lib.hid s1
          have L1 := Lib.hid l1
          have KC := Lib.hid (show ∀ wz, Below wr.heap.size wr wz → wz.cell? ⟨gb, go + k, none⟩ = some (.slice q1 n c1) from fun wz b => cell_later b k1)
          have HST := Lib.hid hst
          clear hst s1 l1 e1
          generalize befG x1 bx n = bo at *
          go_wp2_with fail
          refine BF.out.mono ?_
          rintro e wz ⟨rfl, hb⟩
          have kz := KC.out wz hb
          have B2 := Lib.hid (w_below hB.out hb)
          have S2 := Lib.hid (S1.out.later hb)
          have S3 := Lib.hid (hS.out.later hb)
          clear hb KC k1 hB S1 hS BF
          cases bo with
          | true =>
            rw [if_pos rfl] at HST
            go_wp2_with fail
            go_roundw
            case rel => exact ⟨k + 1, x1, q1, c1, by omega, by omega, by go_num, rfl, Lib.hid ⟨HST.out, L1.out⟩, S2, B2⟩
            case measure => simp [intOf]; omega
          | false =>
            rw [if_neg (by decide)] at HST
            go_wp2_with fail
            go_roundw
            case rel => exact ⟨k + 1, bx, bq, bc, by omega, by omega, by go_num, rfl, Lib.hid ⟨HST.out, hE.out.2⟩, S3, B2⟩
            case measure => simp [intOf]; omega
        · obtain rfl : m = k := by omega
          have hlt' : ¬ ((m : Int) < m) := by omega
          have hR := hE.out.1
          rw [List.take_of_length_le (by rw [HM.out]; exact Nat.le_refl _)] at hR
          have HR := Lib.hid hR
          have HF := Lib.hid (show (errO (bstR n L) = 0 ∧ ((bstR n L).getD []).length = n) ∧ SlP wr 17 bq ((bstR n L).getD []).length bc (flatG ((bstR n L).getD [])) from by rw [hR]; exact ⟨⟨rfl, hE.out.2⟩, by show SlP wr 17 bq bx.length bc (flatG bx); rw [hE.out.2]; exact hS.out⟩)
          have B2 := Lib.hid (w_below HW.out hB.out)
          clear hR hE hS hB HR
          go_wp2_with fail
          go_ret2
          exact ⟨bq, bc, by rw [HF.out.1.1, HF.out.1.2]; rfl, HF.out.2, B2.out⟩
  · rw [show rshE ps vs = askE ps vs from if_neg h, show rshS ps vs = [] from if_neg h]
    have e1 : (askE ps vs == 0) = false := beq_eq_false_iff_ne.2 h
    have e2 : (askE ps vs != 0) = true := by simp [h]
    clear hp hq h
    generalize askE ps vs = E at *
    go_enter Try.func25, Try.ntmps25
    go_wp2_with fail
    refine AK.out.mono ?_
    rintro e w1 ⟨rfl, rfl⟩
    clear AK
    go_wp2_with fail
    go_ret2
    exact ⟨none, 0, rfl, sg_nilP _, w_refl _⟩

end Go.Proofs.Ytedkcnphplpacaa
