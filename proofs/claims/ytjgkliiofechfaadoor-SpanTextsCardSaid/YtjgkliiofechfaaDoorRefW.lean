/- The reference's readings of texts: plain, number, Parse, digits, Text: for every text. -/
import Derived.Test.YtjgkliiofechfaaDoorRefP
import Derived.Test.YtjgkliiofechfaaDoorText
namespace Go.Proofs.YtjgkliiofechfaaDoor
open Go.RowKit

theorem take_byte (s : ByteArray) (k : Nat) (h : k < s.size) : s.data.toList.take (k + 1) = s.data.toList.take k ++ [s[k]] := by
  rw [List.take_succ_eq_append_getElem (by simpa using h)]; rfl

theorem mem_byte (s : ByteArray) (k : Nat) (h : k < s.size) : s[k] ∈ s.data.toList := by
  have : s[k] = s.data.toList[k]'(by simpa using h) := rfl
  rw [this]; exact List.getElem_mem _

theorem toList_data (s : ByteArray) : s.toList = s.data.toList := Lib.toList_data s

theorem plain_none (s : ByteArray) (h : s.size = 0) : plainL s.data.toList = (s.toList == [48]) := by
  have e : s.data.toList = [] := List.length_eq_zero_iff.1 (by simpa using h)
  rw [toList_data, e]; rfl

theorem plain_long (s : ByteArray) (h : 0 < s.size) (hd : s.data.toList.all isD = true) : plainL s.data.toList = (s.toList == [48] || ((s[0].toNat : Int) != 48)) := by
  have e : s.data.toList = s[0] :: s.data.toList.drop 1 := by have := drop_byte s 0 h; simpa using this
  unfold plainL
  rw [hd, Bool.true_and, toList_data]
  congr 1
  have e1 : (s.data.toList != []) = true := by rw [e]; simp
  have e2 : s.data.toList.head? = some s[0] := by rw [e]; rfl
  rw [e1, Bool.true_and, e2]
  by_cases h48 : s[0] = 48
  · rw [h48]; rfl
  · have : s[0].toNat ≠ 48 := fun x => h48 (UInt8.toNat_inj.1 (by rw [x]; rfl))
    have x1 : (some s[0] != some (48 : UInt8)) = true := by simp [h48]
    have x2 : ((s[0].toNat : Int) != 48) = true := by rw [bne_iff_ne]; omega
    rw [x1, x2]

set_option maxHeartbeats 1000000 in
theorem plain_any (s : ByteArray) (w : World) (hs : s.size ≤ maxLen) : Calls Tryd.prog 57 #[.string s] w fun e w' => e = .returned (.bool (plainL s.data.toList)) ∧ w = w' := by
  unfold maxLen at hs
  go_enter Tryd.func57, Tryd.ntmps57
  go_wp2_with fail
  go_loop [3] (fun i => ∃ k : Nat, k ≤ s.size ∧ i = .int .i64 k ∧ Hid ((s.data.toList.take k).all isD = true)) (fun i => s.size - (intOf i).toNat)
  case atStart => exact ⟨0, by omega, rfl, Lib.hid (by simp)⟩
  case round =>
    obtain ⟨k, hk, rfl, hall⟩ := hrel
    by_cases hlt : k < s.size
    · have hmem := Lib.hid (mem_byte s k hlt)
      have htk := Lib.hid (take_byte s k hlt)
      by_cases hd : 48 ≤ (s[k].toNat : Int) ∧ (s[k].toNat : Int) ≤ 57
      · obtain ⟨d1, d2⟩ := hd
        have hnew := Lib.hid (show (s.data.toList.take (k + 1)).all isD = true by
          rw [htk.out, List.all_append, hall.out]
          simp [isD]; omega)
        clear hmem htk hall
        go_wp2
        go_round
        case rel => exact ⟨k + 1, by omega, by go_num, hnew⟩
        case measure => simp [intOf]; omega
      · have hfin := Lib.hid (show plainL s.data.toList = false by
          unfold plainL
          have : s.data.toList.all isD = false := by
            rw [List.all_eq_false]
            exact ⟨_, hmem.out, by simp [isD]; omega⟩
          rw [this]; rfl)
        clear hmem htk hall
        by_cases d1 : (s[k].toNat : Int) < 48
        · go_wp2
          go_ret
          rw [hfin.out]; exact ⟨rfl, rfl⟩
        · have d2 : 57 < (s[k].toNat : Int) := by omega
          go_wp2
          go_ret
          rw [hfin.out]; exact ⟨rfl, rfl⟩
    · obtain rfl : k = s.size := by omega
      have hal := Lib.hid (show s.data.toList.all isD = true by have := hall.out; rwa [List.take_of_length_le (by simp)] at this)
      clear hall
      by_cases h48 : (s.toList == [48]) = true
      · have hfin := Lib.hid (show plainL s.data.toList = true by
          have e : s.data.toList = [48] := by rw [← toList_data]; simpa using h48
          rw [e]; rfl)
        clear hal
        go_wp2_with fail
        go_ret
        rw [hfin.out]; exact ⟨rfl, rfl⟩
      have h48' : (s.toList == [48]) = false := by simpa using h48
      clear h48
      by_cases hz : 0 < s.size
      · by_cases h0 : ((s[0].toNat : Int) != 48) = true
        · have hfin := Lib.hid (show plainL s.data.toList = true by rw [plain_long s hz hal.out, h0, Bool.or_true])
          clear hal
          go_wp2_with fail
          go_ret
          rw [hfin.out]; exact ⟨rfl, rfl⟩
        · have h0' : ((s[0].toNat : Int) != 48) = false := by simpa using h0
          have hfin := Lib.hid (show plainL s.data.toList = false by rw [plain_long s hz hal.out, h0', h48']; rfl)
          clear h0
          clear hal
          go_wp2_with fail
          go_ret
          rw [hfin.out]; exact ⟨rfl, rfl⟩
      · have hfin := Lib.hid (show plainL s.data.toList = false by rw [plain_none s (by omega), h48'])
        clear hal
        go_wp2_with fail
        go_ret
        rw [hfin.out]; exact ⟨rfl, rfl⟩

/-- What the reference's number hands back. -/
def numV : Option Int → Value
  | none => .tuple #[.int .i64 0, .bool false]
  | some n => .tuple #[.int .i64 n, .bool true]

set_option maxHeartbeats 1000000 in
theorem number_any (s : ByteArray) (most : Int) (w : World) (hs : s.size ≤ maxLen) (h0 : 0 ≤ most) (h1 : most ≤ 1099511627776) (hd : s.data.toList.all isD = true) :
    Calls Tryd.prog 58 #[.string s, .int .i64 most] w fun e w' => e = .returned (numV (numL most 0 s.data.toList)) ∧ w = w' := by
  unfold maxLen at hs
  have HD := Lib.hid hd
  clear hd
  go_enter Tryd.func58, Tryd.ntmps58
  go_wp2_with fail
  go_loop [6, 7] (fun x i => ∃ (k : Nat) (n : Int), k ≤ s.size ∧ 0 ≤ n ∧ n ≤ most ∧ x = .int .i64 n ∧ i = .int .i64 k ∧ Hid (numL most n (s.data.toList.drop k) = numL most 0 s.data.toList)) (fun _ i => s.size - (intOf i).toNat)
  case atStart => exact ⟨0, 0, by omega, by omega, by omega, rfl, rfl, Lib.hid rfl⟩
  case round =>
    obtain ⟨k, n, hk, n0, n1, rfl, rfl, hg⟩ := hrel
    by_cases hlt : k < s.size
    · have hdg : 48 ≤ (s[k].toNat : Int) ∧ (s[k].toNat : Int) ≤ 57 := by
        have := List.all_eq_true.1 HD.out _ (mem_byte s k hlt)
        simp [isD] at this; omega
      obtain ⟨d1, d2⟩ := hdg
      have hst := Lib.hid (show numL most 0 s.data.toList = if most < 10 * n + ((s[k].toNat : Int) - 48) then none else numL most (10 * n + ((s[k].toNat : Int) - 48)) (s.data.toList.drop (k + 1)) by
        rw [← hg.out, drop_byte s k hlt]; rfl)
      clear hg
      by_cases hb : most < 10 * n + ((s[k].toNat : Int) - 48)
      · have hfin := Lib.hid (show numL most 0 s.data.toList = none by rw [hst.out, if_pos hb])
        clear hst
        go_wp2
        go_ret2
        rw [hfin.out]; exact ⟨rfl, rfl⟩
      · have hnew := Lib.hid (show numL most (10 * n + ((s[k].toNat : Int) - 48)) (s.data.toList.drop (k + 1)) = numL most 0 s.data.toList by rw [hst.out, if_neg hb])
        clear hst
        go_wp2
        go_round
        case rel => exact ⟨k + 1, _, by omega, by omega, by omega, rfl, by go_num, hnew⟩
        case measure => simp [intOf]; omega
    · have hfin := Lib.hid (show numL most 0 s.data.toList = some n by rw [← hg.out, List.drop_of_length_le (by simp; omega)]; rfl)
      clear hg
      go_wp2
      go_ret2
      rw [hfin.out]; exact ⟨rfl, rfl⟩

end Go.Proofs.YtjgkliiofechfaaDoor
