/- The reference's all, Count and Can. -/
import Derived.Test.YtedkcnphplpacaaLgRefF
namespace Go.Proofs.Ytedkcnphplpacaa
open Go.RowKit

def baseS (p : Int) (last : Bool) : Sg := ⟨4, 0, p, 0, false, 0, false, last, 0, 0, 0, 0, false, 0, 0, 0, 0⟩
def baseG (ps : List Int) : List Sg := (List.range ps.length).map fun i => baseS (ps.getD i 0) (decide (i + 1 = ps.length))
def allG (ps vs : List Int) : List (List Sg) := shpG vs ps.length (baseG ps) 0
theorem baseG_len (ps : List Int) : (baseG ps).length = ps.length := by unfold baseG; simp
theorem baseG_take (ps : List Int) {k : Nat} (hk : k < ps.length) : (baseG ps).take (k + 1) = (baseG ps).take k ++ [baseS (ps.getD k 0) (decide (k + 1 = ps.length))] := by
  rw [List.take_add_one]
  unfold baseG
  rw [List.getElem?_map, List.getElem?_range hk]; rfl
theorem GrpL.widen {w w1 w2 : World} {v : Value} {us : List Value} {L : List (List Sg)} (h : GrpL w1 w2 v us L) (b : Below w.heap.size w w1) : GrpL w w2 v us L :=
  ⟨⟨w_below b h.own.bel, own_base h.own.row b.size⟩, h.inn.base b.size⟩
def AllPost (ps vs : List Int) (w : World) (e : Ending) (w' : World) : Prop := ∃ v us, e = .returned v ∧ GrpL w w' v us (allG ps vs)

set_option maxRecDepth 100000 in
set_option maxHeartbeats 4000000 in
theorem rall_any (ps vs : List Int) (h2 : 2 ≤ ps.length) (h12 : ps.length ≤ 12) (p q : Option Addr) (cp cq : Nat) (w : World) (hp : SlP w 1 p ps.length cp (ints ps)) (hq : SlP w 1 q ps.length cq (ints vs)) :
    Calls Try.prog 52 #[.slice p ps.length cp, .slice q ps.length cq] w (AllPost ps vs w) := by
  unfold AllPost
  obtain ⟨i0, hi0, hz0, hz1, hz2⟩ := info_parts info_sign
  have f1 := hp.fit
  have f2 := hp.max
  have f3 := hq.fit
  have f4 := hq.max
  obtain ⟨b, off, rfl, _, _⟩ := hp.at_ (by omega)
  have HP := Lib.hid hp
  have HQ := Lib.hid hq
  have HT := Lib.hid (fun k hk => baseG_take ps (k := k) hk)
  have hbl := baseG_len ps
  have SH := Lib.hid (show ∀ (W : World) (x : Option Addr) (c : Nat), SlP W 17 x ps.length c (flatG (baseG ps)) → SlP W 1 q ps.length cq (ints vs) → Calls Try.prog 66 #[.slice x ps.length c, .slice q ps.length cq, .int .i64 0] W (ShpPost vs ps.length (baseG ps) 0 W) from fun W x c h1 h2' => by
    have := rshp_any vs q cq ps.length (baseG ps) 0 (by omega) (by omega) (by omega) W x c
    rw [hbl] at this
    exact this h1 h2')
  have hb0 : (baseG ps).take 0 = [] := rfl
  have hbn : (baseG ps).take ps.length = baseG ps := List.take_of_length_le (by omega)
  have HB := Lib.hid hbn
  unfold ShpPost at SH
  have hA : allG ps vs = shpG vs ps.length (baseG ps) 0 := rfl
  rw [hA]
  clear hp hq hbn hA hbl
  generalize shpG vs ps.length (baseG ps) 0 = R at *
  generalize baseG ps = bs at *
  go_enter Try.func52, Try.ntmps52
  go_wp2_with fail
  go_loopw [5, 6] (fun v i wr => ∃ k : Nat, k ≤ ps.length ∧ i = .int .i64 k ∧ (∃ q c, v = .slice q k c) ∧ Hid (OwnL w wr 30 17 v k (flatG (bs.take k)))) (fun _ i _ => ps.length - (intOf i).toNat)
  case atStart => exact ⟨0, by omega, rfl, ⟨none, 0, rfl⟩, Lib.hid (by rw [hb0]; exact OwnL.start _ _ _)⟩
  case round =>
    rename World => wr
    clear hb0
    obtain ⟨k, hk, rfl, ⟨x, c, rfl⟩, ho⟩ := hrel
    by_cases hlt : k < ps.length
    · have hlt' : (k : Int) < ps.length := by omega
      have c0 := int_at (HP.out.later ho.out.bel) hlt
      have hE := Lib.hid (show flatG (bs.take (k + 1)) = flatG (bs.take k) ++ flatG [baseS (ps.getD k 0) (decide (k + 1 = ps.length))] by rw [HT.out k hlt, flatG_app])
      have hlb : ((k : Int) == (ps.length : Int) - 1) = decide (k + 1 = ps.length) := by
        by_cases e : k + 1 = ps.length
        · rw [decide_eq_true e]; simp; omega
        · rw [decide_eq_false e]; simp; omega
      have x1 : IntKind.i64.wrap ((ps.length : Int) - 1) = (ps.length : Int) - 1 := IntWalk.i64_in _ (by omega)
      generalize decide (k + 1 = ps.length) = lb at *
      generalize ps.getD k 0 = pk at *
      have HO := Lib.hid (ho.out.later (w_alloc (w_refl wr) (sgO (baseS pk lb))))
      clear HT
      go_wp2_with (at_builtin; refine wpList_append_own_at _ rfl _ _ 23 rfl w.heap.size 30 i0 (sgv zS) 17 128 Try.underlying23 hi0 hz0 hz1 hz2 rfl (by decide) _ k (flatG (bs.take k)) rfl HO.out.row ⟨wr.heap.size, 0, none⟩ 1 1 (flatG [baseS pk lb]) rfl rfl (lit_new wr (sgA (baseS pk lb)) 30) (flatG_one _) (by unfold maxLen; omega) (by omega) HO.out.bel.size ?_)
      intro v' w3 hown hgrow _ _
      have HN := Lib.hid (show OwnL w w3 30 17 v' (k + 1) (flatG (bs.take (k + 1))) by
        rw [hE.out]
        exact ho.out.app (w_alloc (w_refl wr) _) hown hgrow)
      obtain ⟨x2, c2, hv⟩ := HN.out.val
      subst hv
      clear hown hgrow HO
      go_wp2_with fail
      go_roundw
      case rel => exact ⟨k + 1, by omega, by go_num, ⟨x2, c2, rfl⟩, HN⟩
      case measure => simp [intOf]; omega
    · obtain rfl : k = ps.length := by omega
      have hlt' : ¬ ((ps.length : Int) < ps.length) := by omega
      have hs := (SlP.of_own ho.out.row (by rw [ho.out.row.1]) (flatG_one _))
      obtain ⟨x', c', e, hs⟩ := hs
      injection e with e1 _ e2
      subst e1 e2
      rw [HB.out] at hs
      have H1 := Lib.hid hs
      have HW := Lib.hid ho.out.bel
      clear hs ho HT
      go_wp2_with fail
      refine (SH.out _ x c H1.out (HQ.out.later HW.out)).mono ?_
      rintro e w5 ⟨v, us, rfl, hg⟩
      have HG := Lib.hid (hg.widen HW.out)
      clear hg SH H1
      go_wp2_with fail
      go_ret
      exact ⟨_, us, rfl, HG.out⟩

/-- How many shapes there are, or which error. -/
def cntG (ps vs : List Int) : Int := if askE ps vs = 0 then ((allG ps vs).length : Int) else 0

set_option maxHeartbeats 4000000 in
theorem rcnt_any (ps vs : List Int) (p q : Option Addr) (cp cq : Nat) (w : World) (hp : SlP w 1 p ps.length cp (ints ps)) (hq : SlP w 1 q vs.length cq (ints vs)) :
    Calls Try.prog 29 #[.slice p ps.length cp, .slice q vs.length cq] w fun e w' => e = .returned (.tuple #[.int .i64 (cntG ps vs), .int .i64 (askE ps vs)]) ∧ Below w.heap.size w w' := by
  have AK := Lib.hid (rask_any ps vs p q cp cq w hp hq)
  by_cases h : askE ps vs = 0
  · have hh : (2 ≤ ps.length ∧ ps.length ≤ 12) ∧ vs.length = ps.length := by
      by_cases k : 2 ≤ ps.length ∧ ps.length ≤ 12
      · by_cases k2 : vs.length = ps.length
        · exact ⟨k, k2⟩
        · rw [ask_form k k2] at h; cases h
      · rw [ask_full k] at h; cases h
    rw [show cntG ps vs = ((allG ps vs).length : Int) from if_pos h, h]
    rw [h] at AK
    rw [hh.2] at AK hq ⊢
    have AL := Lib.hid (rall_any ps vs hh.1.1 hh.1.2 p q cp cq w hp hq)
    unfold AllPost at AL
    clear hp hq h hh
    generalize allG ps vs = R at *
    generalize ps.length = n at *
    go_enter Try.func29, Try.ntmps29
    go_wp2_with fail
    refine AK.out.mono ?_
    rintro e w1 ⟨rfl, rfl⟩
    clear AK
    go_wp2_with fail
    refine AL.out.mono ?_
    rintro e w2 ⟨v, us, rfl, hg⟩
    obtain ⟨x, c, rfl⟩ := hg.own.val
    have HW := Lib.hid hg.own.bel
    clear hg AL
    go_wp2_with fail
    go_ret2
    exact ⟨rfl, HW.out⟩
  · rw [show cntG ps vs = 0 from if_neg h]
    have e1 : (askE ps vs == 0) = false := beq_eq_false_iff_ne.2 h
    have e2 : (askE ps vs != 0) = true := by simp [h]
    clear hp hq h
    generalize askE ps vs = E at *
    go_enter Try.func29, Try.ntmps29
    go_wp2_with fail
    refine AK.out.mono ?_
    rintro e w1 ⟨rfl, rfl⟩
    clear AK
    go_wp2_with fail
    go_ret2
    exact ⟨rfl, w_refl _⟩

theorem rcan_any (ps vs : List Int) (p q : Option Addr) (cp cq : Nat) (w : World) (hp : SlP w 1 p ps.length cp (ints ps)) (hq : SlP w 1 q vs.length cq (ints vs)) :
    Calls Try.prog 27 #[.slice p ps.length cp, .slice q vs.length cq] w fun e w' => e = .returned (.tuple #[.bool (decide (0 < cntG ps vs)), .int .i64 (askE ps vs)]) ∧ Below w.heap.size w w' := by
  have CT := Lib.hid (rcnt_any ps vs p q cp cq w hp hq)
  clear hp hq
  generalize cntG ps vs = C at *
  generalize askE ps vs = E at *
  go_enter Try.func27, Try.ntmps27
  go_wp2_with fail
  refine CT.out.mono ?_
  rintro e w1 ⟨rfl, hb⟩
  have HB := Lib.hid hb
  clear hb CT
  go_wp2_with fail
  go_ret2
  exact ⟨rfl, HB.out⟩

end Go.Proofs.Ytedkcnphplpacaa
