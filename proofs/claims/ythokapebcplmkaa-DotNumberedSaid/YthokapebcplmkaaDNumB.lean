/- DotNumbered: lists compared. -/
import Derived.Test.YthokapebcplmkaaDNumA
import Derived.Test.YthokapebcplmkaaDKnown
namespace Go.Proofs.Ythokapebcplmkaa
open Go.RowKit

theorem drop_at (l : List Int) {k : Nat} (h : k < l.length) : l.drop k = l.getD k 0 :: l.drop (k + 1) := by
  rw [List.drop_eq_getElem_cons h, List.getD_eq_getElem?_getD, List.getElem?_eq_getElem h]; rfl
set_option maxRecDepth 100000 in
set_option maxHeartbeats 2000000 in
theorem lless_any (a b : List Int) (hab : a.length = b.length) (p q : Option Addr) (cp cq : Nat) (w : World) (hp : SlP w 1 p a.length cp (ints a)) (hq : SlP w 1 q b.length cq (ints b)) :
    Calls Try.prog 41 #[.slice p a.length cp, .slice q b.length cq] w fun e w' => e = .returned (.bool (lsI a b)) ∧ Below w.heap.size w w' := by
  have f1 := hp.fit
  have f2 := hq.fit
  have m1 := hp.max
  have m2 := hq.max
  have HP := Lib.hid hp
  have HQ := Lib.hid hq
  have HAB := Lib.hid hab
  rw [← hab] at f2 HQ ⊢
  clear hp hq hab
  go_enter Try.func41, Try.ntmps41
  go_wp2_with fail
  go_loopw [5] (fun i wr => ∃ k : Nat, k ≤ a.length ∧ i = .int .i64 k ∧ Hid (lsI a b = lsI (a.drop k) (b.drop k)) ∧ Hid (Below w.heap.size w wr)) (fun i _ => a.length - (intOf i).toNat)
  case atStart => exact ⟨0, by omega, rfl, Lib.hid rfl, Lib.hid (w_refl w)⟩
  case round =>
    obtain ⟨k, hk, rfl, HI, hB⟩ := hrel
    by_cases hlt : k < a.length
    · have hlt' : (k : Int) < a.length := by omega
      have hk0 : (0 : Int) ≤ k := by omega
      have hltb : k < b.length := by rw [← HAB.out]; exact hlt
      have hP := HP.out.later hB.out
      have hQ := HQ.out.later hB.out
      obtain ⟨bb, off, rfl, -, -⟩ := hP.at_ (by omega)
      obtain ⟨bb', off', rfl, -, -⟩ := hQ.at_ (by omega)
      have c0 := int_at hP hlt
      have d0 := int_at hQ hlt
      have hb9 := Lib.hid hB.out.drew
      have HJ := HI.out
      rw [drop_at a hlt, drop_at b hltb] at HJ
      replace HJ := Lib.hid (show lsI a b = if a.getD k 0 = b.getD k 0 then lsI (a.drop (k + 1)) (b.drop (k + 1)) else decide (a.getD k 0 < b.getD k 0) from HJ)
      clear HI hltb HAB HP HQ hP hQ
      generalize a.getD k 0 = x at *
      generalize b.getD k 0 = z at *
      by_cases hxz : x = z
      · have HK := Lib.hid (HJ.out.trans (if_pos hxz))
        clear HJ
        subst hxz
        go_wp2_with fail
        go_region
        all_goals
          go_wp2_with fail
          go_roundw
          case rel => exact ⟨k + 1, by omega, by go_num, HK, hb9⟩
          case measure => simp [intOf]; omega
      · have HK2 := Lib.hid (HJ.out.trans (if_neg hxz))
        have hxz2 : (x == z) = false := beq_eq_false_iff_ne.2 hxz
        clear HJ
        go_wp2_with fail
        go_region
        all_goals
          go_wp2_with fail
          go_region
          all_goals
            go_wp2_with fail
            go_ret
            first | exact ⟨congrArg (fun x => Ending.returned (.bool x)) HK2.out.symm, hb9.out⟩ | exact ⟨congrArg (fun x => Ending.returned (.bool x)) HK2.out.symm, hb9.out.drew⟩
    · obtain rfl : k = a.length := by omega
      have HK := HI.out
      rw [List.drop_of_length_le (Nat.le_refl _)] at HK
      have HK2 := Lib.hid (show lsI a b = false from HK)
      clear HK HI HP HQ HAB
      go_wp2_with fail
      go_ret
      exact ⟨congrArg (fun x => Ending.returned (.bool x)) HK2.out.symm, hB.out⟩
set_option maxRecDepth 100000 in
set_option maxHeartbeats 2000000 in
theorem samed_any (a b : List Int) (hab : a.length = b.length) (p q : Option Addr) (cp cq : Nat) (w : World) (hp : SlP w 1 p a.length cp (ints a)) (hq : SlP w 1 q b.length cq (ints b)) :
    Calls Try.prog 17 #[.slice p a.length cp, .slice q b.length cq] w fun e w' => e = .returned (.bool (decide (a = b))) ∧ Below w.heap.size w w' := by
  have f1 := hp.fit
  have f2 := hq.fit
  have m1 := hp.max
  have m2 := hq.max
  have HP := Lib.hid hp
  have HQ := Lib.hid hq
  have HAB := Lib.hid hab
  rw [← hab] at f2 HQ ⊢
  clear hp hq hab
  go_enter Try.func17, Try.ntmps17
  go_wp2_with fail
  go_loopw [5] (fun i wr => ∃ k : Nat, k ≤ a.length ∧ i = .int .i64 k ∧ Hid (a = b ↔ a.drop k = b.drop k) ∧ Hid (Below w.heap.size w wr)) (fun i _ => a.length - (intOf i).toNat)
  case atStart => exact ⟨0, by omega, rfl, Lib.hid Iff.rfl, Lib.hid (w_refl w)⟩
  case round =>
    obtain ⟨k, hk, rfl, HI, hB⟩ := hrel
    by_cases hlt : k < a.length
    · have hlt' : (k : Int) < a.length := by omega
      have hk0 : (0 : Int) ≤ k := by omega
      have hltb : k < b.length := by rw [← HAB.out]; exact hlt
      have hP := HP.out.later hB.out
      have hQ := HQ.out.later hB.out
      obtain ⟨bb, off, rfl, -, -⟩ := hP.at_ (by omega)
      obtain ⟨bb', off', rfl, -, -⟩ := hQ.at_ (by omega)
      have c0 := int_at hP hlt
      have d0 := int_at hQ hlt
      have hb9 := Lib.hid hB.out.drew
      have HJ := HI.out
      rw [drop_at a hlt, drop_at b hltb, List.cons.injEq] at HJ
      replace HJ := Lib.hid HJ
      clear HI hltb HAB HP HQ hP hQ
      generalize a.getD k 0 = x at *
      generalize b.getD k 0 = z at *
      by_cases hxz : x = z
      · have HK := Lib.hid (HJ.out.trans ⟨fun h => h.2, fun h => ⟨hxz, h⟩⟩)
        clear HJ
        subst hxz
        go_wp2_with fail
        go_region
        all_goals
          go_wp2_with fail
          go_roundw
          case rel => exact ⟨k + 1, by omega, by go_num, HK, hb9⟩
          case measure => simp [intOf]; omega
      · have HK : ¬ a = b := fun e => hxz (HJ.out.1 e).1
        have hxz2 : (x == z) = false := beq_eq_false_iff_ne.2 hxz
        have HK2 := Lib.hid (decide_eq_false HK)
        clear HJ HK
        go_wp2_with fail
        go_region
        all_goals
          go_wp2_with fail
          go_ret
          exact ⟨congrArg (fun x => Ending.returned (.bool x)) HK2.out.symm, hb9.out⟩
    · obtain rfl : k = a.length := by omega
      have HK : a = b := HI.out.2 (by rw [List.drop_of_length_le (Nat.le_refl _), List.drop_of_length_le (by rw [HAB.out]; exact Nat.le_refl _)])
      have HK2 := Lib.hid (decide_eq_true HK)
      clear HK HI HP HQ HAB
      go_wp2_with fail
      go_ret
      exact ⟨congrArg (fun x => Ending.returned (.bool x)) HK2.out.symm, hB.out⟩

end Go.Proofs.Ythokapebcplmkaa
