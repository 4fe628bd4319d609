/- Letters of values and values of letters, of the program and of the reference; the reference's digits and first bytes. The classes of bytes, and how many bytes at the beginning of a text are of a class. strings.Builder: copyCheck, WriteByte, WriteString by the shelf's contracts, laid by hand at this translation's numbers. -/
import Derived.Test.YtdmedealdhadcaaGreatDoorG04
import Derived.Test.YtdmedealdhadcaaGreatDoorShelf
import Derived.Test.YtdmedealdhadcaaGreatDoorG03
import Derived.Shelf.Strings.BuilderK

namespace Go.Proofs.YtdmedealdhadcaaGreatDoor
open Go.RowKit
theorem bytes_data (l : List UInt8) : (bytes l).data.toList = l := by simp [bytes]
theorem data_bytes (s : ByteArray) : bytes s.data.toList = s := by simp [bytes]
theorem bytes_size (l : List UInt8) : (bytes l).size = l.length := by show l.toArray.size = _; simp
theorem bytes_app (a b : List UInt8) : bytes a ++ bytes b = bytes (a ++ b) := by
  apply ByteArray.ext
  simp [bytes]
theorem extract_bytes (s : ByteArray) (i j : Nat) (_hj : j ≤ s.size) (_hi : i ≤ j) : s.extract i j = bytes ((s.data.toList.take j).drop i) := by
  apply ByteArray.ext
  rw [ByteArray.data_extract]
  apply Array.ext'
  simp only [bytes, Array.toList_extract]
  rw [List.extract_eq_take_drop, List.drop_take]
theorem let_no {v : Int} (h : ¬ (1 ≤ v ∧ v ≤ 8)) : letV v = [] ∧ letE v = 2 := ⟨if_neg h, if_neg h⟩
def letRes (v : Int) : Value := .tuple #[.string (bytes (letV v)), .int .i64 (letE v)]
set_option maxHeartbeats 2000000 in
theorem plet_any (v : Int) (w : World) : Calls Tryz.prog 21 #[.int .i64 v] w fun e w' => e = .returned (letRes v) ∧ w = w' := by
  unfold letRes
  by_cases h : 1 ≤ v ∧ v ≤ 8
  · obtain ⟨h1, h2⟩ := h
    have c : v = 1 ∨ v = 2 ∨ v = 3 ∨ v = 4 ∨ v = 5 ∨ v = 6 ∨ v = 7 ∨ v = 8 := by omega
    clear h1 h2
    rcases c with rfl | rfl | rfl | rfl | rfl | rfl | rfl | rfl
    all_goals
      go_enter Tryz.func21, Tryz.ntmps21
      go_wp2_with fail
      go_ret2
      exact ⟨by kernel_rfl, rfl⟩
  · rw [(let_no h).1, (let_no h).2]
    have c : v < 1 ∨ (¬ v < 1 ∧ 8 < v) := by omega
    clear h
    rcases c with h | ⟨h, h2⟩
    · go_enter Tryz.func21, Tryz.ntmps21
      go_wp2_with fail
      go_ret2
      exact ⟨rfl, rfl⟩
    · go_enter Tryz.func21, Tryz.ntmps21
      go_wp2_with fail
      go_ret2
      exact ⟨rfl, rfl⟩
set_option maxHeartbeats 2000000 in
theorem rlet_any (v : Int) (w : World) : Calls Tryz.prog 22 #[.int .i64 v] w fun e w' => e = .returned (letRes v) ∧ w = w' := by
  unfold letRes
  by_cases h : 1 ≤ v ∧ v ≤ 8
  · obtain ⟨h1, h2⟩ := h
    have c : v = 1 ∨ v = 2 ∨ v = 3 ∨ v = 4 ∨ v = 5 ∨ v = 6 ∨ v = 7 ∨ v = 8 := by omega
    clear h1 h2
    rcases c with rfl | rfl | rfl | rfl | rfl | rfl | rfl | rfl
    all_goals
      go_enter Tryz.func22, Tryz.ntmps22
      go_wp2_with fail
      go_ret2
      exact ⟨by kernel_rfl, rfl⟩
  · rw [(let_no h).1, (let_no h).2]
    have c : v < 1 ∨ (¬ v < 1 ∧ 8 < v) := by omega
    clear h
    rcases c with h | ⟨h, h2⟩
    · go_enter Tryz.func22, Tryz.ntmps22
      go_wp2_with fail
      go_ret2
      exact ⟨rfl, rfl⟩
    · go_enter Tryz.func22, Tryz.ntmps22
      go_wp2_with fail
      go_ret2
      exact ⟨rfl, rfl⟩
/-! ### Values -/
def lvRes (l : List UInt8) : Value := .tuple #[.int .i64 (lvV l), .int .i64 (lvE l)]
theorem valV_let (n : Nat) (hn : n < 8) : lvV [letL.getD n 0] = (n : Int) + 1 := by
  have hall : ∀ n ∈ List.range 8, lvV [letL.getD n 0] = ((n : Nat) : Int) + 1 := by decide +kernel
  exact hall n (List.mem_range.2 hn)
theorem valC_zero {c : UInt8} (h : ∀ n, n < 8 → c ≠ letL.getD n 0) : valC c = 0 := by
  have h0 : c ≠ 88 := h 0 (by decide)
  have h1 : c ≠ 76 := h 1 (by decide)
  have h2 : c ≠ 66 := h 2 (by decide)
  have h3 : c ≠ 83 := h 3 (by decide)
  have h4 : c ≠ 77 := h 4 (by decide)
  have h5 : c ≠ 81 := h 5 (by decide)
  have h6 : c ≠ 70 := h 6 (by decide)
  have h7 : c ≠ 90 := h 7 (by decide)
  unfold valC
  rw [if_neg h0, if_neg h1, if_neg h2, if_neg h3, if_neg h4, if_neg h5, if_neg h6, if_neg h7]
theorem valV_none {l : List UInt8} (h : ∀ n, n < 8 → l ≠ [letL.getD n 0]) : lvV l = 0 := by
  match l, h with
  | [], _ => rfl
  | [c], h => exact valC_zero fun n hn e => h n hn (by rw [e])
  | _ :: _ :: _, _ => rfl
theorem val_hit {l : List UInt8} {n : Nat} (hn : n < 8) (h : l = [letL.getD n 0]) : lvRes l = .tuple #[.int .i64 ((n : Int) + 1), .int .i64 0] := by
  unfold lvRes lvE
  rw [h, valV_let n hn, if_neg (by omega)]
theorem val_miss {l : List UInt8} (h : ∀ n, n < 8 → l ≠ [letL.getD n 0]) : lvRes l = .tuple #[.int .i64 0, .int .i64 3] := by
  unfold lvRes lvE
  rw [valV_none h]
  rfl
theorem lists_beq (s : ByteArray) (l : List UInt8) : (s.toList == l) = decide (s.data.toList = l) := by
  rw [Lib.toList_data]
  by_cases h : s.data.toList = l
  · rw [h]; simp
  · rw [decide_eq_false h, beq_eq_false_iff_ne]; exact h
abbrev letB : ByteArray := { data := #[88, 76, 66, 83, 77, 81, 70, 90] }
theorem let_piece : ∀ k ∈ List.range 8, (letB.extract k (k + 1)).data.toList = [letL.getD k 0] := by decide +kernel
theorem let_beq (s : ByteArray) (k : Nat) (hk : k < 8) : (s.toList == (letB.extract k (k + 1)).toList) = decide (s.data.toList = [letL.getD k 0]) := by
  rw [Lib.toList_data (letB.extract k (k + 1)), let_piece k (List.mem_range.2 hk), lists_beq]
set_option maxHeartbeats 4000000 in
theorem rval_any (s : ByteArray) (w : World) : Calls Tryz.prog 24 #[.string s] w fun e w' => e = .returned (lvRes s.data.toList) ∧ w = w' := by
  obtain ⟨v, hv⟩ : ∃ v, lvRes s.data.toList = v := ⟨_, rfl⟩
  have HIT := Lib.hid (fun n hn (h : s.data.toList = [letL.getD n 0]) => hv.symm.trans (val_hit (n := n) hn h))
  have MISS := Lib.hid (fun h => hv.symm.trans (val_miss (l := s.data.toList) h))
  rw [hv]
  clear hv
  go_enter Tryz.func24, Tryz.ntmps24
  go_wp2_with fail
  go_loop [4] (fun i => ∃ k : Nat, k ≤ 8 ∧ i = .int .i64 k ∧ Hid (∀ n, n < k → s.data.toList ≠ [letL.getD n 0])) (fun i => 8 - (intOf i).toNat)
  case atStart => exact ⟨0, by omega, rfl, Lib.hid (fun n hn => by omega)⟩
  case round =>
    obtain ⟨k, hk, rfl, hno⟩ := hrel
    by_cases hlt : k < 8
    · have h1 := Lib.hid (HIT.out k hlt)
      have hnx := Lib.hid (fun (h : s.data.toList ≠ [letL.getD k 0]) n (hn : n < k + 1) => if e : n = k then e ▸ h else hno.out n (by omega))
      clear HIT MISS hno hk
      have c : k = 0 ∨ k = 1 ∨ k = 2 ∨ k = 3 ∨ k = 4 ∨ k = 5 ∨ k = 6 ∨ k = 7 := by omega
      clear hlt
      rcases c with rfl | rfl | rfl | rfl | rfl | rfl | rfl | rfl
      · by_cases e : s.data.toList = [letL.getD 0 0]
        · have hb : (s.toList == (({ data := #[88, 76, 66, 83, 77, 81, 70, 90] } : ByteArray).extract 0 1).toList) = true := (let_beq s 0 (by decide)).trans (decide_eq_true e)
          have hf := Lib.hid (h1.out e)
          clear h1 hnx e
          go_wp2_with fail
          go_ret2
          rw [hf.out]
          exact ⟨rfl, rfl⟩
        · have hb : (s.toList == (({ data := #[88, 76, 66, 83, 77, 81, 70, 90] } : ByteArray).extract 0 1).toList) = false := (let_beq s 0 (by decide)).trans (decide_eq_false e)
          have hf := Lib.hid (hnx.out e)
          clear h1 hnx e
          go_wp2_with fail
          go_round
          case rel => exact ⟨1, by decide, rfl, hf⟩
          case measure => decide
      · by_cases e : s.data.toList = [letL.getD 1 0]
        · have hb : (s.toList == (({ data := #[88, 76, 66, 83, 77, 81, 70, 90] } : ByteArray).extract 1 2).toList) = true := (let_beq s 1 (by decide)).trans (decide_eq_true e)
          have hf := Lib.hid (h1.out e)
          clear h1 hnx e
          go_wp2_with fail
          go_ret2
          rw [hf.out]
          exact ⟨rfl, rfl⟩
        · have hb : (s.toList == (({ data := #[88, 76, 66, 83, 77, 81, 70, 90] } : ByteArray).extract 1 2).toList) = false := (let_beq s 1 (by decide)).trans (decide_eq_false e)
          have hf := Lib.hid (hnx.out e)
          clear h1 hnx e
          go_wp2_with fail
          go_round
          case rel => exact ⟨2, by decide, rfl, hf⟩
          case measure => decide
      · by_cases e : s.data.toList = [letL.getD 2 0]
        · have hb : (s.toList == (({ data := #[88, 76, 66, 83, 77, 81, 70, 90] } : ByteArray).extract 2 3).toList) = true := (let_beq s 2 (by decide)).trans (decide_eq_true e)
          have hf := Lib.hid (h1.out e)
          clear h1 hnx e
          go_wp2_with fail
          go_ret2
          rw [hf.out]
          exact ⟨rfl, rfl⟩
        · have hb : (s.toList == (({ data := #[88, 76, 66, 83, 77, 81, 70, 90] } : ByteArray).extract 2 3).toList) = false := (let_beq s 2 (by decide)).trans (decide_eq_false e)
          have hf := Lib.hid (hnx.out e)
          clear h1 hnx e
          go_wp2_with fail
          go_round
          case rel => exact ⟨3, by decide, rfl, hf⟩
          case measure => decide
      · by_cases e : s.data.toList = [letL.getD 3 0]
        · have hb : (s.toList == (({ data := #[88, 76, 66, 83, 77, 81, 70, 90] } : ByteArray).extract 3 4).toList) = true := (let_beq s 3 (by decide)).trans (decide_eq_true e)
          have hf := Lib.hid (h1.out e)
          clear h1 hnx e
          go_wp2_with fail
          go_ret2
          rw [hf.out]
          exact ⟨rfl, rfl⟩
        · have hb : (s.toList == (({ data := #[88, 76, 66, 83, 77, 81, 70, 90] } : ByteArray).extract 3 4).toList) = false := (let_beq s 3 (by decide)).trans (decide_eq_false e)
          have hf := Lib.hid (hnx.out e)
          clear h1 hnx e
          go_wp2_with fail
          go_round
          case rel => exact ⟨4, by decide, rfl, hf⟩
          case measure => decide
      · by_cases e : s.data.toList = [letL.getD 4 0]
        · have hb : (s.toList == (({ data := #[88, 76, 66, 83, 77, 81, 70, 90] } : ByteArray).extract 4 5).toList) = true := (let_beq s 4 (by decide)).trans (decide_eq_true e)
          have hf := Lib.hid (h1.out e)
          clear h1 hnx e
          go_wp2_with fail
          go_ret2
          rw [hf.out]
          exact ⟨rfl, rfl⟩
        · have hb : (s.toList == (({ data := #[88, 76, 66, 83, 77, 81, 70, 90] } : ByteArray).extract 4 5).toList) = false := (let_beq s 4 (by decide)).trans (decide_eq_false e)
          have hf := Lib.hid (hnx.out e)
          clear h1 hnx e
          go_wp2_with fail
          go_round
          case rel => exact ⟨5, by decide, rfl, hf⟩
          case measure => decide
      · by_cases e : s.data.toList = [letL.getD 5 0]
        · have hb : (s.toList == (({ data := #[88, 76, 66, 83, 77, 81, 70, 90] } : ByteArray).extract 5 6).toList) = true := (let_beq s 5 (by decide)).trans (decide_eq_true e)
          have hf := Lib.hid (h1.out e)
          clear h1 hnx e
          go_wp2_with fail
          go_ret2
          rw [hf.out]
          exact ⟨rfl, rfl⟩
        · have hb : (s.toList == (({ data := #[88, 76, 66, 83, 77, 81, 70, 90] } : ByteArray).extract 5 6).toList) = false := (let_beq s 5 (by decide)).trans (decide_eq_false e)
          have hf := Lib.hid (hnx.out e)
          clear h1 hnx e
          go_wp2_with fail
          go_round
          case rel => exact ⟨6, by decide, rfl, hf⟩
          case measure => decide
      · by_cases e : s.data.toList = [letL.getD 6 0]
        · have hb : (s.toList == (({ data := #[88, 76, 66, 83, 77, 81, 70, 90] } : ByteArray).extract 6 7).toList) = true := (let_beq s 6 (by decide)).trans (decide_eq_true e)
          have hf := Lib.hid (h1.out e)
          clear h1 hnx e
          go_wp2_with fail
          go_ret2
          rw [hf.out]
          exact ⟨rfl, rfl⟩
        · have hb : (s.toList == (({ data := #[88, 76, 66, 83, 77, 81, 70, 90] } : ByteArray).extract 6 7).toList) = false := (let_beq s 6 (by decide)).trans (decide_eq_false e)
          have hf := Lib.hid (hnx.out e)
          clear h1 hnx e
          go_wp2_with fail
          go_round
          case rel => exact ⟨7, by decide, rfl, hf⟩
          case measure => decide
      · by_cases e : s.data.toList = [letL.getD 7 0]
        · have hb : (s.toList == (({ data := #[88, 76, 66, 83, 77, 81, 70, 90] } : ByteArray).extract 7 8).toList) = true := (let_beq s 7 (by decide)).trans (decide_eq_true e)
          have hf := Lib.hid (h1.out e)
          clear h1 hnx e
          go_wp2_with fail
          go_ret2
          rw [hf.out]
          exact ⟨rfl, rfl⟩
        · have hb : (s.toList == (({ data := #[88, 76, 66, 83, 77, 81, 70, 90] } : ByteArray).extract 7 8).toList) = false := (let_beq s 7 (by decide)).trans (decide_eq_false e)
          have hf := Lib.hid (hnx.out e)
          clear h1 hnx e
          go_wp2_with fail
          go_round
          case rel => exact ⟨8, by decide, rfl, hf⟩
          case measure => decide
    · obtain rfl : k = 8 := by omega
      have hm := Lib.hid (MISS.out hno.out)
      clear HIT MISS hno
      go_wp2_with fail
      go_ret2
      rw [hm.out]
      exact ⟨rfl, rfl⟩
end Go.Proofs.YtdmedealdhadcaaGreatDoor

namespace Go.Proofs.YtdmedealdhadcaaGreatDoor
open Go.RowKit
/-- The class of a byte. -/
def clsI (c : Int) : Int :=
  if c < 32 then 63 else if c = 32 then 32 else if c = 34 then 34 else if c = 45 then 45 else if 48 ≤ c ∧ c ≤ 57 then 48 else if c = 59 then 59 else if 97 ≤ c ∧ c ≤ 122 then 97 else if c ≤ 126 then 33 else 63
def blankC (c : Int) : Bool := c == 32
set_option maxHeartbeats 400000 in
theorem wblank_c (c : Int) (w : World) : Calls Tryz.prog 159 #[.int .u8 c] w fun e w' => e = .returned (.bool (blankC c)) ∧ w = w' := by
  unfold blankC
  go_enter Tryz.func159, Tryz.ntmps159
  go_wp2_with fail
  go_ret
  exact ⟨rfl, rfl⟩
def quotableC (c : Int) : Bool := c != 63 && c != 34
set_option maxHeartbeats 400000 in
theorem wquotable_c (c : Int) (w : World) : Calls Tryz.prog 175 #[.int .u8 c] w fun e w' => e = .returned (.bool (quotableC c)) ∧ w = w' := by
  unfold quotableC
  cases h1 : (c != 63)
  all_goals
    go_enter Tryz.func175, Tryz.ntmps175
    go_wp2_with fail
    go_ret
    exact ⟨rfl, rfl⟩
def namingC (c : Int) : Bool := c == 97 || c == 48 || c == 45
set_option maxHeartbeats 400000 in
theorem wnaming_c (c : Int) (w : World) : Calls Tryz.prog 145 #[.int .u8 c] w fun e w' => e = .returned (.bool (namingC c)) ∧ w = w' := by
  unfold namingC
  cases h1 : (c == 97) <;> cases h2 : (c == 48)
  all_goals
    go_enter Tryz.func145, Tryz.ntmps145
    go_wp2_with fail
    go_ret
    exact ⟨rfl, rfl⟩
def plainC (c : Int) : Bool := c == 97 || c == 48 || c == 45 || c == 33
set_option maxHeartbeats 400000 in
theorem wplain_c (c : Int) (w : World) : Calls Tryz.prog 160 #[.int .u8 c] w fun e w' => e = .returned (.bool (plainC c)) ∧ w = w' := by
  unfold plainC
  cases h1 : (c == 97) <;> cases h2 : (c == 48) <;> cases h3 : (c == 45) <;> cases h4 : (c == 33)
  all_goals
    go_enter Tryz.func160, Tryz.ntmps160
    go_wp2_with fail
    go_ret
    exact ⟨rfl, rfl⟩
/-- The program's own table of classes, read. -/
theorem cls_ok : ((List.range 256).all fun n => decide (((({ data := #[63, 63, 63, 63, 63, 63, 63, 63, 63, 63, 63, 63, 63, 63, 63, 63, 63, 63, 63, 63, 63, 63, 63, 63, 63, 63, 63, 63, 63, 63, 63, 63, 32, 33, 34, 33, 33, 33, 33, 33, 33, 33, 33, 33, 33, 45, 33, 33, 48, 48, 48, 48, 48, 48, 48, 48, 48, 48, 33, 59, 33, 33, 33, 33, 33, 33, 33, 33, 33, 33, 33, 33, 33, 33, 33, 33, 33, 33, 33, 33, 33, 33, 33, 33, 33, 33, 33, 33, 33, 33, 33, 33, 33, 33, 33, 33, 33, 97, 97, 97, 97, 97, 97, 97, 97, 97, 97, 97, 97, 97, 97, 97, 97, 97, 97, 97, 97, 97, 97, 97, 97, 97, 97, 33, 33, 33, 33, 63, 63, 63, 63, 63, 63, 63, 63, 63, 63, 63, 63, 63, 63, 63, 63, 63, 63, 63, 63, 63, 63, 63, 63, 63, 63, 63, 63, 63, 63, 63, 63, 63, 63, 63, 63, 63, 63, 63, 63, 63, 63, 63, 63, 63, 63, 63, 63, 63, 63, 63, 63, 63, 63, 63, 63, 63, 63, 63, 63, 63, 63, 63, 63, 63, 63, 63, 63, 63, 63, 63, 63, 63, 63, 63, 63, 63, 63, 63, 63, 63, 63, 63, 63, 63, 63, 63, 63, 63, 63, 63, 63, 63, 63, 63, 63, 63, 63, 63, 63, 63, 63, 63, 63, 63, 63, 63, 63, 63, 63, 63, 63, 63, 63, 63, 63, 63, 63, 63, 63, 63, 63, 63, 63, 63, 63, 63, 63, 63] } : ByteArray).data.toList.getD n 0).toNat : Int) = clsI n)) = true := by decide +kernel
theorem bytes_getD (s : ByteArray) (n : Nat) (h : n < s.size) : s[n] = s.data.toList.getD n 0 := by
  simp only [List.getD, List.getElem?_eq_getElem (show n < s.data.toList.length by simpa using h)]; rfl
theorem cls_lit (n : Nat) (h : n < 256) (h' : n < ({ data := #[63, 63, 63, 63, 63, 63, 63, 63, 63, 63, 63, 63, 63, 63, 63, 63, 63, 63, 63, 63, 63, 63, 63, 63, 63, 63, 63, 63, 63, 63, 63, 63, 32, 33, 34, 33, 33, 33, 33, 33, 33, 33, 33, 33, 33, 45, 33, 33, 48, 48, 48, 48, 48, 48, 48, 48, 48, 48, 33, 59, 33, 33, 33, 33, 33, 33, 33, 33, 33, 33, 33, 33, 33, 33, 33, 33, 33, 33, 33, 33, 33, 33, 33, 33, 33, 33, 33, 33, 33, 33, 33, 33, 33, 33, 33, 33, 33, 97, 97, 97, 97, 97, 97, 97, 97, 97, 97, 97, 97, 97, 97, 97, 97, 97, 97, 97, 97, 97, 97, 97, 97, 97, 97, 33, 33, 33, 33, 63, 63, 63, 63, 63, 63, 63, 63, 63, 63, 63, 63, 63, 63, 63, 63, 63, 63, 63, 63, 63, 63, 63, 63, 63, 63, 63, 63, 63, 63, 63, 63, 63, 63, 63, 63, 63, 63, 63, 63, 63, 63, 63, 63, 63, 63, 63, 63, 63, 63, 63, 63, 63, 63, 63, 63, 63, 63, 63, 63, 63, 63, 63, 63, 63, 63, 63, 63, 63, 63, 63, 63, 63, 63, 63, 63, 63, 63, 63, 63, 63, 63, 63, 63, 63, 63, 63, 63, 63, 63, 63, 63, 63, 63, 63, 63, 63, 63, 63, 63, 63, 63, 63, 63, 63, 63, 63, 63, 63, 63, 63, 63, 63, 63, 63, 63, 63, 63, 63, 63, 63, 63, 63, 63, 63, 63, 63, 63, 63] } : ByteArray).size) : (((({ data := #[63, 63, 63, 63, 63, 63, 63, 63, 63, 63, 63, 63, 63, 63, 63, 63, 63, 63, 63, 63, 63, 63, 63, 63, 63, 63, 63, 63, 63, 63, 63, 63, 32, 33, 34, 33, 33, 33, 33, 33, 33, 33, 33, 33, 33, 45, 33, 33, 48, 48, 48, 48, 48, 48, 48, 48, 48, 48, 33, 59, 33, 33, 33, 33, 33, 33, 33, 33, 33, 33, 33, 33, 33, 33, 33, 33, 33, 33, 33, 33, 33, 33, 33, 33, 33, 33, 33, 33, 33, 33, 33, 33, 33, 33, 33, 33, 33, 97, 97, 97, 97, 97, 97, 97, 97, 97, 97, 97, 97, 97, 97, 97, 97, 97, 97, 97, 97, 97, 97, 97, 97, 97, 97, 33, 33, 33, 33, 63, 63, 63, 63, 63, 63, 63, 63, 63, 63, 63, 63, 63, 63, 63, 63, 63, 63, 63, 63, 63, 63, 63, 63, 63, 63, 63, 63, 63, 63, 63, 63, 63, 63, 63, 63, 63, 63, 63, 63, 63, 63, 63, 63, 63, 63, 63, 63, 63, 63, 63, 63, 63, 63, 63, 63, 63, 63, 63, 63, 63, 63, 63, 63, 63, 63, 63, 63, 63, 63, 63, 63, 63, 63, 63, 63, 63, 63, 63, 63, 63, 63, 63, 63, 63, 63, 63, 63, 63, 63, 63, 63, 63, 63, 63, 63, 63, 63, 63, 63, 63, 63, 63, 63, 63, 63, 63, 63, 63, 63, 63, 63, 63, 63, 63, 63, 63, 63, 63, 63, 63, 63, 63, 63, 63, 63, 63, 63, 63] } : ByteArray)[n]'h').toNat : Nat) : Int) = clsI n := by
  have h1 := List.all_eq_true.1 cls_ok n (List.mem_range.2 h)
  have h2 := of_decide_eq_true h1
  rw [← h2, bytes_getD _ n h']
/-- How many bytes at the beginning are of the class. -/
def runN (p : Int → Bool) : List UInt8 → Nat
  | [] => 0
  | c :: t => if p (clsI c.toNat) = true then runN p t + 1 else 0
set_option maxRecDepth 100000 in
set_option maxHeartbeats 1000000 in
theorem wrun_blank (s : ByteArray) (w : World) (hs : s.size ≤ maxLen) : Calls Tryz.prog 144 #[.string s, .func (.func 159) #[] #[]] w fun e w' => e = .returned (.int .i64 (runN blankC s.data.toList)) ∧ w = w' := by
  unfold maxLen at hs
  go_enter Tryz.func144, Tryz.ntmps144
  go_wp2_with fail
  go_loop [8] (fun i => ∃ k : Nat, k ≤ s.size ∧ i = .int .i64 k ∧ Hid (runN blankC s.data.toList = k + runN blankC (s.data.toList.drop k))) (fun i => s.size - (intOf i).toNat)
  case atStart => exact ⟨0, by omega, rfl, Lib.hid (by simp)⟩
  case round =>
    obtain ⟨k, hk, rfl, hall⟩ := hrel
    by_cases hlt : k < s.size
    · have hcl := cls_lit s[k].toNat s[k].toNat_lt s[k].toNat_lt
      have h256 : (s[k].toNat : Int) < 256 := by have := s[k].toNat_lt; omega
      have hd := Lib.hid (w_drop s k hlt)
      cases hp : blankC (clsI s[k].toNat) with
      | true =>
        have hnew := Lib.hid (show runN blankC s.data.toList = (k + 1 : Nat) + runN blankC (s.data.toList.drop (k + 1)) by
          rw [hall.out, hd.out]; simp only [runN, hp, if_true]; omega)
        clear hall hd
        go_wp2_with fail
        refine (wblank_c _ _).mono ?_
        rintro e w1 ⟨rfl, rfl⟩
        go_wp2_with fail
        go_round
        case rel => exact ⟨k + 1, by omega, by go_num, hnew⟩
        case measure => simp [intOf]; omega
      | false =>
        have hfin := Lib.hid (show runN blankC s.data.toList = k by
          rw [hall.out, hd.out]; simp [runN, hp])
        clear hall hd
        go_wp2_with fail
        refine (wblank_c _ _).mono ?_
        rintro e w1 ⟨rfl, rfl⟩
        go_wp2_with fail
        go_ret
        rw [hfin.out]; exact ⟨rfl, rfl⟩
    · obtain rfl : k = s.size := by omega
      have hfin := Lib.hid (show runN blankC s.data.toList = s.size by
        rw [hall.out, List.drop_of_length_le (by simp)]; rfl)
      clear hall
      go_wp2_with fail
      go_ret
      rw [hfin.out]; exact ⟨rfl, rfl⟩
set_option maxRecDepth 100000 in
set_option maxHeartbeats 1000000 in
theorem wrun_plain (s : ByteArray) (w : World) (hs : s.size ≤ maxLen) : Calls Tryz.prog 144 #[.string s, .func (.func 160) #[] #[]] w fun e w' => e = .returned (.int .i64 (runN plainC s.data.toList)) ∧ w = w' := by
  unfold maxLen at hs
  go_enter Tryz.func144, Tryz.ntmps144
  go_wp2_with fail
  go_loop [8] (fun i => ∃ k : Nat, k ≤ s.size ∧ i = .int .i64 k ∧ Hid (runN plainC s.data.toList = k + runN plainC (s.data.toList.drop k))) (fun i => s.size - (intOf i).toNat)
  case atStart => exact ⟨0, by omega, rfl, Lib.hid (by simp)⟩
  case round =>
    obtain ⟨k, hk, rfl, hall⟩ := hrel
    by_cases hlt : k < s.size
    · have hcl := cls_lit s[k].toNat s[k].toNat_lt s[k].toNat_lt
      have h256 : (s[k].toNat : Int) < 256 := by have := s[k].toNat_lt; omega
      have hd := Lib.hid (w_drop s k hlt)
      cases hp : plainC (clsI s[k].toNat) with
      | true =>
        have hnew := Lib.hid (show runN plainC s.data.toList = (k + 1 : Nat) + runN plainC (s.data.toList.drop (k + 1)) by
          rw [hall.out, hd.out]; simp only [runN, hp, if_true]; omega)
        clear hall hd
        go_wp2_with fail
        refine (wplain_c _ _).mono ?_
        rintro e w1 ⟨rfl, rfl⟩
        go_wp2_with fail
        go_round
        case rel => exact ⟨k + 1, by omega, by go_num, hnew⟩
        case measure => simp [intOf]; omega
      | false =>
        have hfin := Lib.hid (show runN plainC s.data.toList = k by
          rw [hall.out, hd.out]; simp [runN, hp])
        clear hall hd
        go_wp2_with fail
        refine (wplain_c _ _).mono ?_
        rintro e w1 ⟨rfl, rfl⟩
        go_wp2_with fail
        go_ret
        rw [hfin.out]; exact ⟨rfl, rfl⟩
    · obtain rfl : k = s.size := by omega
      have hfin := Lib.hid (show runN plainC s.data.toList = s.size by
        rw [hall.out, List.drop_of_length_le (by simp)]; rfl)
      clear hall
      go_wp2_with fail
      go_ret
      rw [hfin.out]; exact ⟨rfl, rfl⟩
set_option maxRecDepth 100000 in
set_option maxHeartbeats 1000000 in
theorem wrun_quotable (s : ByteArray) (w : World) (hs : s.size ≤ maxLen) : Calls Tryz.prog 144 #[.string s, .func (.func 175) #[] #[]] w fun e w' => e = .returned (.int .i64 (runN quotableC s.data.toList)) ∧ w = w' := by
  unfold maxLen at hs
  go_enter Tryz.func144, Tryz.ntmps144
  go_wp2_with fail
  go_loop [8] (fun i => ∃ k : Nat, k ≤ s.size ∧ i = .int .i64 k ∧ Hid (runN quotableC s.data.toList = k + runN quotableC (s.data.toList.drop k))) (fun i => s.size - (intOf i).toNat)
  case atStart => exact ⟨0, by omega, rfl, Lib.hid (by simp)⟩
  case round =>
    obtain ⟨k, hk, rfl, hall⟩ := hrel
    by_cases hlt : k < s.size
    · have hcl := cls_lit s[k].toNat s[k].toNat_lt s[k].toNat_lt
      have h256 : (s[k].toNat : Int) < 256 := by have := s[k].toNat_lt; omega
      have hd := Lib.hid (w_drop s k hlt)
      cases hp : quotableC (clsI s[k].toNat) with
      | true =>
        have hnew := Lib.hid (show runN quotableC s.data.toList = (k + 1 : Nat) + runN quotableC (s.data.toList.drop (k + 1)) by
          rw [hall.out, hd.out]; simp only [runN, hp, if_true]; omega)
        clear hall hd
        go_wp2_with fail
        refine (wquotable_c _ _).mono ?_
        rintro e w1 ⟨rfl, rfl⟩
        go_wp2_with fail
        go_round
        case rel => exact ⟨k + 1, by omega, by go_num, hnew⟩
        case measure => simp [intOf]; omega
      | false =>
        have hfin := Lib.hid (show runN quotableC s.data.toList = k by
          rw [hall.out, hd.out]; simp [runN, hp])
        clear hall hd
        go_wp2_with fail
        refine (wquotable_c _ _).mono ?_
        rintro e w1 ⟨rfl, rfl⟩
        go_wp2_with fail
        go_ret
        rw [hfin.out]; exact ⟨rfl, rfl⟩
    · obtain rfl : k = s.size := by omega
      have hfin := Lib.hid (show runN quotableC s.data.toList = s.size by
        rw [hall.out, List.drop_of_length_le (by simp)]; rfl)
      clear hall
      go_wp2_with fail
      go_ret
      rw [hfin.out]; exact ⟨rfl, rfl⟩
set_option maxRecDepth 100000 in
set_option maxHeartbeats 1000000 in
theorem wrun_naming (s : ByteArray) (w : World) (hs : s.size ≤ maxLen) : Calls Tryz.prog 144 #[.string s, .func (.func 145) #[] #[]] w fun e w' => e = .returned (.int .i64 (runN namingC s.data.toList)) ∧ w = w' := by
  unfold maxLen at hs
  go_enter Tryz.func144, Tryz.ntmps144
  go_wp2_with fail
  go_loop [8] (fun i => ∃ k : Nat, k ≤ s.size ∧ i = .int .i64 k ∧ Hid (runN namingC s.data.toList = k + runN namingC (s.data.toList.drop k))) (fun i => s.size - (intOf i).toNat)
  case atStart => exact ⟨0, by omega, rfl, Lib.hid (by simp)⟩
  case round =>
    obtain ⟨k, hk, rfl, hall⟩ := hrel
    by_cases hlt : k < s.size
    · have hcl := cls_lit s[k].toNat s[k].toNat_lt s[k].toNat_lt
      have h256 : (s[k].toNat : Int) < 256 := by have := s[k].toNat_lt; omega
      have hd := Lib.hid (w_drop s k hlt)
      cases hp : namingC (clsI s[k].toNat) with
      | true =>
        have hnew := Lib.hid (show runN namingC s.data.toList = (k + 1 : Nat) + runN namingC (s.data.toList.drop (k + 1)) by
          rw [hall.out, hd.out]; simp only [runN, hp, if_true]; omega)
        clear hall hd
        go_wp2_with fail
        refine (wnaming_c _ _).mono ?_
        rintro e w1 ⟨rfl, rfl⟩
        go_wp2_with fail
        go_round
        case rel => exact ⟨k + 1, by omega, by go_num, hnew⟩
        case measure => simp [intOf]; omega
      | false =>
        have hfin := Lib.hid (show runN namingC s.data.toList = k by
          rw [hall.out, hd.out]; simp [runN, hp])
        clear hall hd
        go_wp2_with fail
        refine (wnaming_c _ _).mono ?_
        rintro e w1 ⟨rfl, rfl⟩
        go_wp2_with fail
        go_ret
        rw [hfin.out]; exact ⟨rfl, rfl⟩
    · obtain rfl : k = s.size := by omega
      have hfin := Lib.hid (show runN namingC s.data.toList = s.size by
        rw [hall.out, List.drop_of_length_le (by simp)]; rfl)
      clear hall
      go_wp2_with fail
      go_ret
      rw [hfin.out]; exact ⟨rfl, rfl⟩
/-- What the classes say of bytes. -/
theorem cls_blank (c : Int) : blankC (clsI c) = decide (c = 32) := by
  unfold blankC clsI; split <;> (try split) <;> (try split) <;> (try split) <;> (try split) <;> (try split) <;> (try split) <;> (try split) <;> simp <;> omega
theorem cls_plain (c : Int) : plainC (clsI c) = plainI c := by
  unfold plainC clsI plainI; split <;> (try split) <;> (try split) <;> (try split) <;> (try split) <;> (try split) <;> (try split) <;> (try split) <;> simp <;> omega
theorem cls_quotable (c : Int) : quotableC (clsI c) = insideI c := by
  unfold quotableC clsI insideI; split <;> (try split) <;> (try split) <;> (try split) <;> (try split) <;> (try split) <;> (try split) <;> (try split) <;> simp <;> omega
theorem cls_naming (c : Int) : namingC (clsI c) = (letterI c || digitI c || c == 45) := by
  unfold namingC clsI letterI digitI; split <;> (try split) <;> (try split) <;> (try split) <;> (try split) <;> (try split) <;> (try split) <;> (try split) <;> simp <;> omega
theorem cls_letter (c : Int) : (clsI c == 97) = letterI c := by
  unfold clsI letterI; split <;> (try split) <;> (try split) <;> (try split) <;> (try split) <;> (try split) <;> (try split) <;> (try split) <;> simp <;> omega
theorem cls_digit (c : Int) : (clsI c == 48) = digitI c := by
  unfold clsI digitI; split <;> (try split) <;> (try split) <;> (try split) <;> (try split) <;> (try split) <;> (try split) <;> (try split) <;> simp <;> omega
theorem cls_semi (c : Int) : (clsI c == 59) = decide (c = 59) := by
  unfold clsI; split <;> (try split) <;> (try split) <;> (try split) <;> (try split) <;> (try split) <;> (try split) <;> (try split) <;> simp <;> omega
theorem cls_quote (c : Int) : (clsI c == 34) = decide (c = 34) := by
  unfold clsI; split <;> (try split) <;> (try split) <;> (try split) <;> (try split) <;> (try split) <;> (try split) <;> (try split) <;> simp <;> omega
end Go.Proofs.YtdmedealdhadcaaGreatDoor

namespace Go.Proofs
open Go.Shelf Go.RowKit
def Tryz.bl166_ren : Go.Shelf.Ren := ⟨fun | 166 => 95 | 240 => 149 | 276 => 176 | n => n, fun | 0 => 0 | 3 => 3 | 4 => 4 | 5 => 5 | 9 => 9 | 20 => 20 | 37 => 70 | 70 => 69 | 72 => 72 | 75 => 135 | 80 => 82 | 164 => 191 | n => n, fun | n => n⟩
theorem Tryz.bl166 : Go.Proofs.Lays.n166 Tryz.prog Tryz.bl166_ren := {
  mixed := by kernel_rfl
  f166 := Tryz.func95.trans (congrArg some (by kernel_rfl))
  f240 := Tryz.func149.trans (congrArg some (by kernel_rfl))
  f276 := Tryz.func176.trans (congrArg some (by kernel_rfl))
  t0 := Tryz.underlying0
  a0 := Tryz.isAgg0
  z0 := Tryz.sizeOf0
  v0 := Tryz.zeroValue0
  t3 := Tryz.underlying3
  a3 := Tryz.isAgg3
  z3 := Tryz.sizeOf3
  v3 := Tryz.zeroValue3
  t4 := Tryz.underlying4
  a4 := Tryz.isAgg4
  z4 := Tryz.sizeOf4
  v4 := Tryz.zeroValue4
  t9 := Tryz.underlying9
  a9 := Tryz.isAgg9
  z9 := Tryz.sizeOf9
  v9 := Tryz.zeroValue9
  t20 := Tryz.underlying20
  a20 := Tryz.isAgg20
  z20 := Tryz.sizeOf20
  v20 := Tryz.zeroValue20
  t37 := Tryz.underlying70
  a37 := Tryz.isAgg70
  z37 := Tryz.sizeOf70
  v37 := Tryz.zeroValue70
  t70 := Tryz.underlying69
  a70 := Tryz.isAgg69
  z70 := Tryz.sizeOf69
  v70 := Tryz.zeroValue69
  t72 := Tryz.underlying72
  a72 := Tryz.isAgg72
  z72 := Tryz.sizeOf72
  v72 := Tryz.zeroValue72
  t75 := Tryz.underlying135
  a75 := Tryz.isAgg135
  z75 := Tryz.sizeOf135
  v75 := Tryz.zeroValue135
  t164 := Tryz.underlying191
  a164 := Tryz.isAgg191
  z164 := Tryz.sizeOf191
  v164 := Tryz.zeroValue191 }
theorem Tryz.blx166 : Builder.Extra Tryz.prog Tryz.bl166_ren := {
  sizeBuilder := by kernel_rfl
  liesBuilder := by kernel_rfl
  t5 := Tryz.underlying5
  a5 := Tryz.isAgg5
  z5 := Tryz.sizeOf5
  v5 := Tryz.zeroValue5
  infoByte := by kernel_rfl
  cellsByte := by kernel_rfl
  sizeByte := by kernel_rfl
  neB5 := by decide }
def Tryz.bl167_ren : Go.Shelf.Ren := ⟨fun | 167 => 96 | 240 => 149 | 276 => 176 | n => n, fun | 0 => 0 | 3 => 3 | 4 => 4 | 5 => 5 | 9 => 9 | 20 => 20 | 37 => 70 | 70 => 69 | 72 => 72 | 75 => 135 | 80 => 82 | 164 => 191 | n => n, fun | n => n⟩
theorem Tryz.bl167 : Go.Proofs.Lays.n167 Tryz.prog Tryz.bl167_ren := {
  mixed := by kernel_rfl
  f167 := Tryz.func96.trans (congrArg some (by kernel_rfl))
  f240 := Tryz.func149.trans (congrArg some (by kernel_rfl))
  f276 := Tryz.func176.trans (congrArg some (by kernel_rfl))
  t0 := Tryz.underlying0
  a0 := Tryz.isAgg0
  z0 := Tryz.sizeOf0
  v0 := Tryz.zeroValue0
  t4 := Tryz.underlying4
  a4 := Tryz.isAgg4
  z4 := Tryz.sizeOf4
  v4 := Tryz.zeroValue4
  t5 := Tryz.underlying5
  a5 := Tryz.isAgg5
  z5 := Tryz.sizeOf5
  v5 := Tryz.zeroValue5
  t9 := Tryz.underlying9
  a9 := Tryz.isAgg9
  z9 := Tryz.sizeOf9
  v9 := Tryz.zeroValue9
  t20 := Tryz.underlying20
  a20 := Tryz.isAgg20
  z20 := Tryz.sizeOf20
  v20 := Tryz.zeroValue20
  t37 := Tryz.underlying70
  a37 := Tryz.isAgg70
  z37 := Tryz.sizeOf70
  v37 := Tryz.zeroValue70
  t70 := Tryz.underlying69
  a70 := Tryz.isAgg69
  z70 := Tryz.sizeOf69
  v70 := Tryz.zeroValue69
  t72 := Tryz.underlying72
  a72 := Tryz.isAgg72
  z72 := Tryz.sizeOf72
  v72 := Tryz.zeroValue72
  t75 := Tryz.underlying135
  a75 := Tryz.isAgg135
  z75 := Tryz.sizeOf135
  v75 := Tryz.zeroValue135
  t164 := Tryz.underlying191
  a164 := Tryz.isAgg191
  z164 := Tryz.sizeOf191
  v164 := Tryz.zeroValue191 }
theorem Tryz.blx167 : Builder.Extra Tryz.prog Tryz.bl167_ren := {
  sizeBuilder := by kernel_rfl
  liesBuilder := by kernel_rfl
  t5 := Tryz.underlying5
  a5 := Tryz.isAgg5
  z5 := Tryz.sizeOf5
  v5 := Tryz.zeroValue5
  infoByte := by kernel_rfl
  cellsByte := by kernel_rfl
  sizeByte := by kernel_rfl
  neB5 := by decide }
theorem Tryz.WriteByte (B b : Nat) (bs : List Value) (c : Int) (w : World) (h : Lib.IsBuilderF 72 5 B b bs w) (hlen : bs.length + 1 ≤ 140737488355328) (hBw : B ≤ w.heap.size) :
    Calls Tryz.prog 96 #[.pointer (some ⟨b, 0, none⟩), .int .u8 c] w fun e w' => e = .returned .nilIface ∧ (Lib.BuilderAtF 72 5 B b (.pointer (some ⟨b, 0, none⟩)) (bs ++ [.int .u8 c]) w' ∧ Below B w w' ∧ Lib.OthersKept 5 (some b) w w') := Any.Builder_WriteByte_k Tryz.bl167 Tryz.blx167 B b bs c w h hlen hBw
theorem Tryz.WriteString (B b : Nat) (bs : List Value) (s : ByteArray) (w : World) (h : Lib.IsBuilderF 72 5 B b bs w) (hlen : bs.length + s.size ≤ 140737488355328) (hBw : B ≤ w.heap.size) :
    Calls Tryz.prog 95 #[.pointer (some ⟨b, 0, none⟩), .string s] w fun e w' => e = .returned (.tuple #[.int .i64 s.size, .nilIface]) ∧ (Lib.BuilderAtF 72 5 B b (.pointer (some ⟨b, 0, none⟩)) (bs ++ Lib.strCells s) w' ∧ Below B w w' ∧ Lib.OthersKept 5 (some b) w w') := Any.Builder_WriteString_k Tryz.bl166 Tryz.blx166 B b bs s w h hlen hBw
end Go.Proofs
