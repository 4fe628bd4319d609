/- The classes of bytes, and how many bytes at the beginning of a text are of a class. strings.Builder: copyCheck, WriteByte, WriteString by the shelf's contracts, laid by hand at this translation's numbers. The program's Name, Number, Signed: they answer as the reference does, for every text. A cursor in memory; stores of single fields; what a cursor takes. -/
import Derived.Test.YtdmedealdhadcaaGreatDoorG03
import Derived.Test.YtdmedealdhadcaaGreatDoorShelf
import Derived.Shelf.Strings.BuilderK
import Derived.Test.YtdmedealdhadcaaGreatDoorG04
import Derived.Deep.MidRow

namespace Go.Proofs.YtdmedealdhadcaaGreatDoor
open Go.RowKit
/-- The class of a byte. -/
def clsI (c : Int) : Int :=
  if c < 32 then 63 else if c = 32 then 32 else if c = 34 then 34 else if c = 45 then 45 else if 48 ≤ c ∧ c ≤ 57 then 48 else if c = 59 then 59 else if 97 ≤ c ∧ c ≤ 122 then 97 else if c ≤ 126 then 33 else 63
def blankC (c : Int) : Bool := c == 32
set_option maxHeartbeats 400000 in
theorem wblank_c (c : Int) (w : World) : Calls Tryz.prog 159 #[.int .u8 c] w fun e w' => e = .returned (.bool (blankC c)) ∧ w = w' := by
  unfold blankC
  go_enter Tryz.func159, Tryz.ntmps159
  go_wp2_with fail
  go_ret
  exact ⟨rfl, rfl⟩
def quotableC (c : Int) : Bool := c != 63 && c != 34
set_option maxHeartbeats 400000 in
theorem wquotable_c (c : Int) (w : World) : Calls Tryz.prog 175 #[.int .u8 c] w fun e w' => e = .returned (.bool (quotableC c)) ∧ w = w' := by
  unfold quotableC
  cases h1 : (c != 63)
  all_goals
    go_enter Tryz.func175, Tryz.ntmps175
    go_wp2_with fail
    go_ret
    exact ⟨rfl, rfl⟩
def namingC (c : Int) : Bool := c == 97 || c == 48 || c == 45
set_option maxHeartbeats 400000 in
theorem wnaming_c (c : Int) (w : World) : Calls Tryz.prog 145 #[.int .u8 c] w fun e w' => e = .returned (.bool (namingC c)) ∧ w = w' := by
  unfold namingC
  cases h1 : (c == 97) <;> cases h2 : (c == 48)
  all_goals
    go_enter Tryz.func145, Tryz.ntmps145
    go_wp2_with fail
    go_ret
    exact ⟨rfl, rfl⟩
def plainC (c : Int) : Bool := c == 97 || c == 48 || c == 45 || c == 33
set_option maxHeartbeats 400000 in
theorem wplain_c (c : Int) (w : World) : Calls Tryz.prog 160 #[.int .u8 c] w fun e w' => e = .returned (.bool (plainC c)) ∧ w = w' := by
  unfold plainC
  cases h1 : (c == 97) <;> cases h2 : (c == 48) <;> cases h3 : (c == 45) <;> cases h4 : (c == 33)
  all_goals
    go_enter Tryz.func160, Tryz.ntmps160
    go_wp2_with fail
    go_ret
    exact ⟨rfl, rfl⟩
/-- The program's own table of classes, read. -/
theorem cls_ok : ((List.range 256).all fun n => decide (((({ data := #[63, 63, 63, 63, 63, 63, 63, 63, 63, 63, 63, 63, 63, 63, 63, 63, 63, 63, 63, 63, 63, 63, 63, 63, 63, 63, 63, 63, 63, 63, 63, 63, 32, 33, 34, 33, 33, 33, 33, 33, 33, 33, 33, 33, 33, 45, 33, 33, 48, 48, 48, 48, 48, 48, 48, 48, 48, 48, 33, 59, 33, 33, 33, 33, 33, 33, 33, 33, 33, 33, 33, 33, 33, 33, 33, 33, 33, 33, 33, 33, 33, 33, 33, 33, 33, 33, 33, 33, 33, 33, 33, 33, 33, 33, 33, 33, 33, 97, 97, 97, 97, 97, 97, 97, 97, 97, 97, 97, 97, 97, 97, 97, 97, 97, 97, 97, 97, 97, 97, 97, 97, 97, 97, 33, 33, 33, 33, 63, 63, 63, 63, 63, 63, 63, 63, 63, 63, 63, 63, 63, 63, 63, 63, 63, 63, 63, 63, 63, 63, 63, 63, 63, 63, 63, 63, 63, 63, 63, 63, 63, 63, 63, 63, 63, 63, 63, 63, 63, 63, 63, 63, 63, 63, 63, 63, 63, 63, 63, 63, 63, 63, 63, 63, 63, 63, 63, 63, 63, 63, 63, 63, 63, 63, 63, 63, 63, 63, 63, 63, 63, 63, 63, 63, 63, 63, 63, 63, 63, 63, 63, 63, 63, 63, 63, 63, 63, 63, 63, 63, 63, 63, 63, 63, 63, 63, 63, 63, 63, 63, 63, 63, 63, 63, 63, 63, 63, 63, 63, 63, 63, 63, 63, 63, 63, 63, 63, 63, 63, 63, 63, 63, 63, 63, 63, 63, 63] } : ByteArray).data.toList.getD n 0).toNat : Int) = clsI n)) = true := by decide +kernel
theorem bytes_getD (s : ByteArray) (n : Nat) (h : n < s.size) : s[n] = s.data.toList.getD n 0 := by
  simp only [List.getD, List.getElem?_eq_getElem (show n < s.data.toList.length by simpa using h)]; rfl
theorem cls_lit (n : Nat) (h : n < 256) (h' : n < ({ data := #[63, 63, 63, 63, 63, 63, 63, 63, 63, 63, 63, 63, 63, 63, 63, 63, 63, 63, 63, 63, 63, 63, 63, 63, 63, 63, 63, 63, 63, 63, 63, 63, 32, 33, 34, 33, 33, 33, 33, 33, 33, 33, 33, 33, 33, 45, 33, 33, 48, 48, 48, 48, 48, 48, 48, 48, 48, 48, 33, 59, 33, 33, 33, 33, 33, 33, 33, 33, 33, 33, 33, 33, 33, 33, 33, 33, 33, 33, 33, 33, 33, 33, 33, 33, 33, 33, 33, 33, 33, 33, 33, 33, 33, 33, 33, 33, 33, 97, 97, 97, 97, 97, 97, 97, 97, 97, 97, 97, 97, 97, 97, 97, 97, 97, 97, 97, 97, 97, 97, 97, 97, 97, 97, 33, 33, 33, 33, 63, 63, 63, 63, 63, 63, 63, 63, 63, 63, 63, 63, 63, 63, 63, 63, 63, 63, 63, 63, 63, 63, 63, 63, 63, 63, 63, 63, 63, 63, 63, 63, 63, 63, 63, 63, 63, 63, 63, 63, 63, 63, 63, 63, 63, 63, 63, 63, 63, 63, 63, 63, 63, 63, 63, 63, 63, 63, 63, 63, 63, 63, 63, 63, 63, 63, 63, 63, 63, 63, 63, 63, 63, 63, 63, 63, 63, 63, 63, 63, 63, 63, 63, 63, 63, 63, 63, 63, 63, 63, 63, 63, 63, 63, 63, 63, 63, 63, 63, 63, 63, 63, 63, 63, 63, 63, 63, 63, 63, 63, 63, 63, 63, 63, 63, 63, 63, 63, 63, 63, 63, 63, 63, 63, 63, 63, 63, 63, 63] } : ByteArray).size) : (((({ data := #[63, 63, 63, 63, 63, 63, 63, 63, 63, 63, 63, 63, 63, 63, 63, 63, 63, 63, 63, 63, 63, 63, 63, 63, 63, 63, 63, 63, 63, 63, 63, 63, 32, 33, 34, 33, 33, 33, 33, 33, 33, 33, 33, 33, 33, 45, 33, 33, 48, 48, 48, 48, 48, 48, 48, 48, 48, 48, 33, 59, 33, 33, 33, 33, 33, 33, 33, 33, 33, 33, 33, 33, 33, 33, 33, 33, 33, 33, 33, 33, 33, 33, 33, 33, 33, 33, 33, 33, 33, 33, 33, 33, 33, 33, 33, 33, 33, 97, 97, 97, 97, 97, 97, 97, 97, 97, 97, 97, 97, 97, 97, 97, 97, 97, 97, 97, 97, 97, 97, 97, 97, 97, 97, 33, 33, 33, 33, 63, 63, 63, 63, 63, 63, 63, 63, 63, 63, 63, 63, 63, 63, 63, 63, 63, 63, 63, 63, 63, 63, 63, 63, 63, 63, 63, 63, 63, 63, 63, 63, 63, 63, 63, 63, 63, 63, 63, 63, 63, 63, 63, 63, 63, 63, 63, 63, 63, 63, 63, 63, 63, 63, 63, 63, 63, 63, 63, 63, 63, 63, 63, 63, 63, 63, 63, 63, 63, 63, 63, 63, 63, 63, 63, 63, 63, 63, 63, 63, 63, 63, 63, 63, 63, 63, 63, 63, 63, 63, 63, 63, 63, 63, 63, 63, 63, 63, 63, 63, 63, 63, 63, 63, 63, 63, 63, 63, 63, 63, 63, 63, 63, 63, 63, 63, 63, 63, 63, 63, 63, 63, 63, 63, 63, 63, 63, 63, 63] } : ByteArray)[n]'h').toNat : Nat) : Int) = clsI n := by
  have h1 := List.all_eq_true.1 cls_ok n (List.mem_range.2 h)
  have h2 := of_decide_eq_true h1
  rw [← h2, bytes_getD _ n h']
/-- How many bytes at the beginning are of the class. -/
def runN (p : Int → Bool) : List UInt8 → Nat
  | [] => 0
  | c :: t => if p (clsI c.toNat) = true then runN p t + 1 else 0
set_option maxRecDepth 100000 in
set_option maxHeartbeats 1000000 in
theorem wrun_blank (s : ByteArray) (w : World) (hs : s.size ≤ maxLen) : Calls Tryz.prog 144 #[.string s, .func (.func 159) #[] #[]] w fun e w' => e = .returned (.int .i64 (runN blankC s.data.toList)) ∧ w = w' := by
  unfold maxLen at hs
  go_enter Tryz.func144, Tryz.ntmps144
  go_wp2_with fail
  go_loop [8] (fun i => ∃ k : Nat, k ≤ s.size ∧ i = .int .i64 k ∧ Hid (runN blankC s.data.toList = k + runN blankC (s.data.toList.drop k))) (fun i => s.size - (intOf i).toNat)
  case atStart => exact ⟨0, by omega, rfl, Lib.hid (by simp)⟩
  case round =>
    obtain ⟨k, hk, rfl, hall⟩ := hrel
    by_cases hlt : k < s.size
    · have hcl := cls_lit s[k].toNat s[k].toNat_lt s[k].toNat_lt
      have h256 : (s[k].toNat : Int) < 256 := by have := s[k].toNat_lt; omega
      have hd := Lib.hid (w_drop s k hlt)
      cases hp : blankC (clsI s[k].toNat) with
      | true =>
        have hnew := Lib.hid (show runN blankC s.data.toList = (k + 1 : Nat) + runN blankC (s.data.toList.drop (k + 1)) by
          rw [hall.out, hd.out]; simp only [runN, hp, if_true]; omega)
        clear hall hd
        go_wp2_with fail
        refine (wblank_c _ _).mono ?_
        rintro e w1 ⟨rfl, rfl⟩
        go_wp2_with fail
        go_round
        case rel => exact ⟨k + 1, by omega, by go_num, hnew⟩
        case measure => simp [intOf]; omega
      | false =>
        have hfin := Lib.hid (show runN blankC s.data.toList = k by
          rw [hall.out, hd.out]; simp [runN, hp])
        clear hall hd
        go_wp2_with fail
        refine (wblank_c _ _).mono ?_
        rintro e w1 ⟨rfl, rfl⟩
        go_wp2_with fail
        go_ret
        rw [hfin.out]; exact ⟨rfl, rfl⟩
    · obtain rfl : k = s.size := by omega
      have hfin := Lib.hid (show runN blankC s.data.toList = s.size by
        rw [hall.out, List.drop_of_length_le (by simp)]; rfl)
      clear hall
      go_wp2_with fail
      go_ret
      rw [hfin.out]; exact ⟨rfl, rfl⟩
set_option maxRecDepth 100000 in
set_option maxHeartbeats 1000000 in
theorem wrun_plain (s : ByteArray) (w : World) (hs : s.size ≤ maxLen) : Calls Tryz.prog 144 #[.string s, .func (.func 160) #[] #[]] w fun e w' => e = .returned (.int .i64 (runN plainC s.data.toList)) ∧ w = w' := by
  unfold maxLen at hs
  go_enter Tryz.func144, Tryz.ntmps144
  go_wp2_with fail
  go_loop [8] (fun i => ∃ k : Nat, k ≤ s.size ∧ i = .int .i64 k ∧ Hid (runN plainC s.data.toList = k + runN plainC (s.data.toList.drop k))) (fun i => s.size - (intOf i).toNat)
  case atStart => exact ⟨0, by omega, rfl, Lib.hid (by simp)⟩
  case round =>
    obtain ⟨k, hk, rfl, hall⟩ := hrel
    by_cases hlt : k < s.size
    · have hcl := cls_lit s[k].toNat s[k].toNat_lt s[k].toNat_lt
      have h256 : (s[k].toNat : Int) < 256 := by have := s[k].toNat_lt; omega
      have hd := Lib.hid (w_drop s k hlt)
      cases hp : plainC (clsI s[k].toNat) with
      | true =>
        have hnew := Lib.hid (show runN plainC s.data.toList = (k + 1 : Nat) + runN plainC (s.data.toList.drop (k + 1)) by
          rw [hall.out, hd.out]; simp only [runN, hp, if_true]; omega)
        clear hall hd
        go_wp2_with fail
        refine (wplain_c _ _).mono ?_
        rintro e w1 ⟨rfl, rfl⟩
        go_wp2_with fail
        go_round
        case rel => exact ⟨k + 1, by omega, by go_num, hnew⟩
        case measure => simp [intOf]; omega
      | false =>
        have hfin := Lib.hid (show runN plainC s.data.toList = k by
          rw [hall.out, hd.out]; simp [runN, hp])
        clear hall hd
        go_wp2_with fail
        refine (wplain_c _ _).mono ?_
        rintro e w1 ⟨rfl, rfl⟩
        go_wp2_with fail
        go_ret
        rw [hfin.out]; exact ⟨rfl, rfl⟩
    · obtain rfl : k = s.size := by omega
      have hfin := Lib.hid (show runN plainC s.data.toList = s.size by
        rw [hall.out, List.drop_of_length_le (by simp)]; rfl)
      clear hall
      go_wp2_with fail
      go_ret
      rw [hfin.out]; exact ⟨rfl, rfl⟩
set_option maxRecDepth 100000 in
set_option maxHeartbeats 1000000 in
theorem wrun_quotable (s : ByteArray) (w : World) (hs : s.size ≤ maxLen) : Calls Tryz.prog 144 #[.string s, .func (.func 175) #[] #[]] w fun e w' => e = .returned (.int .i64 (runN quotableC s.data.toList)) ∧ w = w' := by
  unfold maxLen at hs
  go_enter Tryz.func144, Tryz.ntmps144
  go_wp2_with fail
  go_loop [8] (fun i => ∃ k : Nat, k ≤ s.size ∧ i = .int .i64 k ∧ Hid (runN quotableC s.data.toList = k + runN quotableC (s.data.toList.drop k))) (fun i => s.size - (intOf i).toNat)
  case atStart => exact ⟨0, by omega, rfl, Lib.hid (by simp)⟩
  case round =>
    obtain ⟨k, hk, rfl, hall⟩ := hrel
    by_cases hlt : k < s.size
    · have hcl := cls_lit s[k].toNat s[k].toNat_lt s[k].toNat_lt
      have h256 : (s[k].toNat : Int) < 256 := by have := s[k].toNat_lt; omega
      have hd := Lib.hid (w_drop s k hlt)
      cases hp : quotableC (clsI s[k].toNat) with
      | true =>
        have hnew := Lib.hid (show runN quotableC s.data.toList = (k + 1 : Nat) + runN quotableC (s.data.toList.drop (k + 1)) by
          rw [hall.out, hd.out]; simp only [runN, hp, if_true]; omega)
        clear hall hd
        go_wp2_with fail
        refine (wquotable_c _ _).mono ?_
        rintro e w1 ⟨rfl, rfl⟩
        go_wp2_with fail
        go_round
        case rel => exact ⟨k + 1, by omega, by go_num, hnew⟩
        case measure => simp [intOf]; omega
      | false =>
        have hfin := Lib.hid (show runN quotableC s.data.toList = k by
          rw [hall.out, hd.out]; simp [runN, hp])
        clear hall hd
        go_wp2_with fail
        refine (wquotable_c _ _).mono ?_
        rintro e w1 ⟨rfl, rfl⟩
        go_wp2_with fail
        go_ret
        rw [hfin.out]; exact ⟨rfl, rfl⟩
    · obtain rfl : k = s.size := by omega
      have hfin := Lib.hid (show runN quotableC s.data.toList = s.size by
        rw [hall.out, List.drop_of_length_le (by simp)]; rfl)
      clear hall
      go_wp2_with fail
      go_ret
      rw [hfin.out]; exact ⟨rfl, rfl⟩
set_option maxRecDepth 100000 in
set_option maxHeartbeats 1000000 in
theorem wrun_naming (s : ByteArray) (w : World) (hs : s.size ≤ maxLen) : Calls Tryz.prog 144 #[.string s, .func (.func 145) #[] #[]] w fun e w' => e = .returned (.int .i64 (runN namingC s.data.toList)) ∧ w = w' := by
  unfold maxLen at hs
  go_enter Tryz.func144, Tryz.ntmps144
  go_wp2_with fail
  go_loop [8] (fun i => ∃ k : Nat, k ≤ s.size ∧ i = .int .i64 k ∧ Hid (runN namingC s.data.toList = k + runN namingC (s.data.toList.drop k))) (fun i => s.size - (intOf i).toNat)
  case atStart => exact ⟨0, by omega, rfl, Lib.hid (by simp)⟩
  case round =>
    obtain ⟨k, hk, rfl, hall⟩ := hrel
    by_cases hlt : k < s.size
    · have hcl := cls_lit s[k].toNat s[k].toNat_lt s[k].toNat_lt
      have h256 : (s[k].toNat : Int) < 256 := by have := s[k].toNat_lt; omega
      have hd := Lib.hid (w_drop s k hlt)
      cases hp : namingC (clsI s[k].toNat) with
      | true =>
        have hnew := Lib.hid (show runN namingC s.data.toList = (k + 1 : Nat) + runN namingC (s.data.toList.drop (k + 1)) by
          rw [hall.out, hd.out]; simp only [runN, hp, if_true]; omega)
        clear hall hd
        go_wp2_with fail
        refine (wnaming_c _ _).mono ?_
        rintro e w1 ⟨rfl, rfl⟩
        go_wp2_with fail
        go_round
        case rel => exact ⟨k + 1, by omega, by go_num, hnew⟩
        case measure => simp [intOf]; omega
      | false =>
        have hfin := Lib.hid (show runN namingC s.data.toList = k by
          rw [hall.out, hd.out]; simp [runN, hp])
        clear hall hd
        go_wp2_with fail
        refine (wnaming_c _ _).mono ?_
        rintro e w1 ⟨rfl, rfl⟩
        go_wp2_with fail
        go_ret
        rw [hfin.out]; exact ⟨rfl, rfl⟩
    · obtain rfl : k = s.size := by omega
      have hfin := Lib.hid (show runN namingC s.data.toList = s.size by
        rw [hall.out, List.drop_of_length_le (by simp)]; rfl)
      clear hall
      go_wp2_with fail
      go_ret
      rw [hfin.out]; exact ⟨rfl, rfl⟩
/-- What the classes say of bytes. -/
theorem cls_blank (c : Int) : blankC (clsI c) = decide (c = 32) := by
  unfold blankC clsI; split <;> (try split) <;> (try split) <;> (try split) <;> (try split) <;> (try split) <;> (try split) <;> (try split) <;> simp <;> omega
theorem cls_plain (c : Int) : plainC (clsI c) = plainI c := by
  unfold plainC clsI plainI; split <;> (try split) <;> (try split) <;> (try split) <;> (try split) <;> (try split) <;> (try split) <;> (try split) <;> simp <;> omega
theorem cls_quotable (c : Int) : quotableC (clsI c) = insideI c := by
  unfold quotableC clsI insideI; split <;> (try split) <;> (try split) <;> (try split) <;> (try split) <;> (try split) <;> (try split) <;> (try split) <;> simp <;> omega
theorem cls_naming (c : Int) : namingC (clsI c) = (letterI c || digitI c || c == 45) := by
  unfold namingC clsI letterI digitI; split <;> (try split) <;> (try split) <;> (try split) <;> (try split) <;> (try split) <;> (try split) <;> (try split) <;> simp <;> omega
theorem cls_letter (c : Int) : (clsI c == 97) = letterI c := by
  unfold clsI letterI; split <;> (try split) <;> (try split) <;> (try split) <;> (try split) <;> (try split) <;> (try split) <;> (try split) <;> simp <;> omega
theorem cls_digit (c : Int) : (clsI c == 48) = digitI c := by
  unfold clsI digitI; split <;> (try split) <;> (try split) <;> (try split) <;> (try split) <;> (try split) <;> (try split) <;> (try split) <;> simp <;> omega
theorem cls_semi (c : Int) : (clsI c == 59) = decide (c = 59) := by
  unfold clsI; split <;> (try split) <;> (try split) <;> (try split) <;> (try split) <;> (try split) <;> (try split) <;> (try split) <;> simp <;> omega
theorem cls_quote (c : Int) : (clsI c == 34) = decide (c = 34) := by
  unfold clsI; split <;> (try split) <;> (try split) <;> (try split) <;> (try split) <;> (try split) <;> (try split) <;> (try split) <;> simp <;> omega
end Go.Proofs.YtdmedealdhadcaaGreatDoor

namespace Go.Proofs
open Go.Shelf Go.RowKit
def Tryz.bl166_ren : Go.Shelf.Ren := ⟨fun | 166 => 95 | 240 => 149 | 276 => 176 | n => n, fun | 0 => 0 | 3 => 3 | 4 => 4 | 5 => 5 | 9 => 9 | 20 => 20 | 37 => 70 | 70 => 69 | 72 => 72 | 75 => 135 | 80 => 82 | 164 => 191 | n => n, fun | n => n⟩
theorem Tryz.bl166 : Go.Proofs.Lays.n166 Tryz.prog Tryz.bl166_ren := {
  mixed := by kernel_rfl
  f166 := Tryz.func95.trans (congrArg some (by kernel_rfl))
  f240 := Tryz.func149.trans (congrArg some (by kernel_rfl))
  f276 := Tryz.func176.trans (congrArg some (by kernel_rfl))
  t0 := Tryz.underlying0
  a0 := Tryz.isAgg0
  z0 := Tryz.sizeOf0
  v0 := Tryz.zeroValue0
  t3 := Tryz.underlying3
  a3 := Tryz.isAgg3
  z3 := Tryz.sizeOf3
  v3 := Tryz.zeroValue3
  t4 := Tryz.underlying4
  a4 := Tryz.isAgg4
  z4 := Tryz.sizeOf4
  v4 := Tryz.zeroValue4
  t9 := Tryz.underlying9
  a9 := Tryz.isAgg9
  z9 := Tryz.sizeOf9
  v9 := Tryz.zeroValue9
  t20 := Tryz.underlying20
  a20 := Tryz.isAgg20
  z20 := Tryz.sizeOf20
  v20 := Tryz.zeroValue20
  t37 := Tryz.underlying70
  a37 := Tryz.isAgg70
  z37 := Tryz.sizeOf70
  v37 := Tryz.zeroValue70
  t70 := Tryz.underlying69
  a70 := Tryz.isAgg69
  z70 := Tryz.sizeOf69
  v70 := Tryz.zeroValue69
  t72 := Tryz.underlying72
  a72 := Tryz.isAgg72
  z72 := Tryz.sizeOf72
  v72 := Tryz.zeroValue72
  t75 := Tryz.underlying135
  a75 := Tryz.isAgg135
  z75 := Tryz.sizeOf135
  v75 := Tryz.zeroValue135
  t164 := Tryz.underlying191
  a164 := Tryz.isAgg191
  z164 := Tryz.sizeOf191
  v164 := Tryz.zeroValue191 }
theorem Tryz.blx166 : Builder.Extra Tryz.prog Tryz.bl166_ren := {
  sizeBuilder := by kernel_rfl
  liesBuilder := by kernel_rfl
  t5 := Tryz.underlying5
  a5 := Tryz.isAgg5
  z5 := Tryz.sizeOf5
  v5 := Tryz.zeroValue5
  infoByte := by kernel_rfl
  cellsByte := by kernel_rfl
  sizeByte := by kernel_rfl
  neB5 := by decide }
def Tryz.bl167_ren : Go.Shelf.Ren := ⟨fun | 167 => 96 | 240 => 149 | 276 => 176 | n => n, fun | 0 => 0 | 3 => 3 | 4 => 4 | 5 => 5 | 9 => 9 | 20 => 20 | 37 => 70 | 70 => 69 | 72 => 72 | 75 => 135 | 80 => 82 | 164 => 191 | n => n, fun | n => n⟩
theorem Tryz.bl167 : Go.Proofs.Lays.n167 Tryz.prog Tryz.bl167_ren := {
  mixed := by kernel_rfl
  f167 := Tryz.func96.trans (congrArg some (by kernel_rfl))
  f240 := Tryz.func149.trans (congrArg some (by kernel_rfl))
  f276 := Tryz.func176.trans (congrArg some (by kernel_rfl))
  t0 := Tryz.underlying0
  a0 := Tryz.isAgg0
  z0 := Tryz.sizeOf0
  v0 := Tryz.zeroValue0
  t4 := Tryz.underlying4
  a4 := Tryz.isAgg4
  z4 := Tryz.sizeOf4
  v4 := Tryz.zeroValue4
  t5 := Tryz.underlying5
  a5 := Tryz.isAgg5
  z5 := Tryz.sizeOf5
  v5 := Tryz.zeroValue5
  t9 := Tryz.underlying9
  a9 := Tryz.isAgg9
  z9 := Tryz.sizeOf9
  v9 := Tryz.zeroValue9
  t20 := Tryz.underlying20
  a20 := Tryz.isAgg20
  z20 := Tryz.sizeOf20
  v20 := Tryz.zeroValue20
  t37 := Tryz.underlying70
  a37 := Tryz.isAgg70
  z37 := Tryz.sizeOf70
  v37 := Tryz.zeroValue70
  t70 := Tryz.underlying69
  a70 := Tryz.isAgg69
  z70 := Tryz.sizeOf69
  v70 := Tryz.zeroValue69
  t72 := Tryz.underlying72
  a72 := Tryz.isAgg72
  z72 := Tryz.sizeOf72
  v72 := Tryz.zeroValue72
  t75 := Tryz.underlying135
  a75 := Tryz.isAgg135
  z75 := Tryz.sizeOf135
  v75 := Tryz.zeroValue135
  t164 := Tryz.underlying191
  a164 := Tryz.isAgg191
  z164 := Tryz.sizeOf191
  v164 := Tryz.zeroValue191 }
theorem Tryz.blx167 : Builder.Extra Tryz.prog Tryz.bl167_ren := {
  sizeBuilder := by kernel_rfl
  liesBuilder := by kernel_rfl
  t5 := Tryz.underlying5
  a5 := Tryz.isAgg5
  z5 := Tryz.sizeOf5
  v5 := Tryz.zeroValue5
  infoByte := by kernel_rfl
  cellsByte := by kernel_rfl
  sizeByte := by kernel_rfl
  neB5 := by decide }
theorem Tryz.WriteByte (B b : Nat) (bs : List Value) (c : Int) (w : World) (h : Lib.IsBuilderF 72 5 B b bs w) (hlen : bs.length + 1 ≤ 140737488355328) (hBw : B ≤ w.heap.size) :
    Calls Tryz.prog 96 #[.pointer (some ⟨b, 0, none⟩), .int .u8 c] w fun e w' => e = .returned .nilIface ∧ (Lib.BuilderAtF 72 5 B b (.pointer (some ⟨b, 0, none⟩)) (bs ++ [.int .u8 c]) w' ∧ Below B w w' ∧ Lib.OthersKept 5 (some b) w w') := Any.Builder_WriteByte_k Tryz.bl167 Tryz.blx167 B b bs c w h hlen hBw
theorem Tryz.WriteString (B b : Nat) (bs : List Value) (s : ByteArray) (w : World) (h : Lib.IsBuilderF 72 5 B b bs w) (hlen : bs.length + s.size ≤ 140737488355328) (hBw : B ≤ w.heap.size) :
    Calls Tryz.prog 95 #[.pointer (some ⟨b, 0, none⟩), .string s] w fun e w' => e = .returned (.tuple #[.int .i64 s.size, .nilIface]) ∧ (Lib.BuilderAtF 72 5 B b (.pointer (some ⟨b, 0, none⟩)) (bs ++ Lib.strCells s) w' ∧ Below B w w' ∧ Lib.OthersKept 5 (some b) w w') := Any.Builder_WriteString_k Tryz.bl166 Tryz.blx166 B b bs s w h hlen hBw
end Go.Proofs

namespace Go.Proofs.YtdmedealdhadcaaGreatDoor
open Go.RowKit
theorem runN_iff (p : Int → Bool) : ∀ l, runN p l = l.length ↔ l.all (fun c => p (clsI c.toNat)) = true
  | [] => by simp [runN]
  | c :: t => by
    have h := runN_iff p t
    by_cases hp : p (clsI c.toNat) = true
    · rw [show runN p (c :: t) = runN p t + 1 from if_pos hp, List.length_cons, List.all_cons, hp, Bool.true_and, ← h]; omega
    · rw [show runN p (c :: t) = 0 from if_neg hp, List.length_cons, List.all_cons, show p (clsI c.toNat) = false by simpa using hp, Bool.false_and]
      simp
theorem runN_all (p : Int → Bool) (l : List UInt8) : decide (runN p l = l.length) = l.all (fun c => p (clsI c.toNat)) := by
  rw [Bool.eq_iff_iff, decide_eq_true_iff]; exact runN_iff p l
theorem naming_eq : (fun c : UInt8 => namingC (clsI c.toNat)) = nameB := by
  funext c; rw [cls_naming]; rfl
theorem head_letter {s : ByteArray} (h : 0 < s.size) : headLetter s.data.toList = letterI (s[0].toNat : Int) := by
  rw [head_byte s h]; rfl
set_option maxRecDepth 100000 in
set_option maxHeartbeats 2000000 in
theorem wname_any (s : ByteArray) (w : World) (hs : s.size ≤ maxLen) : Calls Tryz.prog 91 #[.string s] w fun e w' => e = .returned (.bool (nameV s.data.toList)) ∧ w = w' := by
  have R := Lib.hid (fun W => wrun_naming s W hs)
  have hl : s.data.toList.length = s.size := by simp
  unfold maxLen at hs
  by_cases hz : 0 < s.size
  · have hem := ne_empty hz
    by_cases h20 : 20 < s.size
    · have h20' : (20 : Int) < s.size := by omega
      have hfin := Lib.hid (show nameV s.data.toList = false by
        unfold nameV; rw [hl, decide_eq_false (by omega)]; simp)
      clear hl R
      go_enter Tryz.func91, Tryz.ntmps91
      go_wp2_with fail
      go_ret
      rw [hfin.out]; exact ⟨rfl, rfl⟩
    · have h20' : ¬ (20 : Int) < s.size := by omega
      have hcl := cls_lit s[0].toNat s[0].toNat_lt s[0].toNat_lt
      have h256 : (s[0].toNat : Int) < 256 := by have := s[0].toNat_lt; omega
      cases hc : letterI (s[0].toNat : Int) with
      | false =>
        have h97 : (clsI (s[0].toNat : Int) != 97) = true := by
          have := cls_letter (s[0].toNat : Int); rw [hc] at this; simpa using this
        have hfin := Lib.hid (show nameV s.data.toList = false by
          unfold nameV; rw [head_letter hz, hc]; simp)
        clear hl R hc
        go_enter Tryz.func91, Tryz.ntmps91
        go_wp2_with fail
        go_ret
        rw [hfin.out]; exact ⟨rfl, rfl⟩
      | true =>
        have h97 : (clsI (s[0].toNat : Int) != 97) = false := by
          have := cls_letter (s[0].toNat : Int); rw [hc] at this; simpa using this
        obtain ⟨b, hb⟩ : ∃ b, ((runN namingC s.data.toList : Int) == (s.size : Int)) = b := ⟨_, rfl⟩
        have hfin := Lib.hid (show nameV s.data.toList = b by
          have h1 := runN_all namingC s.data.toList
          rw [naming_eq] at h1
          unfold nameV; rw [head_letter hz, hc, hl, decide_eq_true (by omega), ← h1, ← hb, hl]
          by_cases e : runN namingC s.data.toList = s.size
          · simp [e]
          · simp [e]; omega)
        clear hl hc
        go_enter Tryz.func91, Tryz.ntmps91
        go_wp2_with fail
        refine (R.out _).mono ?_
        rintro e w1 ⟨rfl, rfl⟩
        go_wp2_with fail
        go_ret
        rw [hfin.out]; exact ⟨rfl, rfl⟩
  · have hem : s.toList.isEmpty = true := by simpa using (w_nil s).2 (by omega)
    have hfin := Lib.hid (show nameV s.data.toList = false by rw [data_nil hz]; rfl)
    clear hl R
    go_enter Tryz.func91, Tryz.ntmps91
    go_wp2_with fail
    go_ret
    rw [hfin.out]; exact ⟨rfl, rfl⟩
theorem only_zero {s : ByteArray} (h : 0 < s.size) (h0 : ((s[0].toNat : Int) == 48) = true) : (s.toList == [48]) = decide (s.size = 1) := by
  have e := head_byte s h
  have e0 : s[0] = 48 := UInt8.toNat_inj.1 (by rw [beq_iff_eq] at h0; have : (48 : UInt8).toNat = 48 := rfl; omega)
  rw [e0] at e
  rw [Lib.toList_data]
  by_cases h1 : s.size = 1
  · have : s.data.toList.drop 1 = [] := List.drop_of_length_le (by simp; omega)
    rw [e, this]; simp [h1]
  · rw [decide_eq_false h1, beq_eq_false_iff_ne]
    intro x
    have := congrArg List.length x
    simp at this; omega
theorem digit_sub {c : UInt8} (h : digitI (c.toNat : Int) = true) : IntKind.u8.wrap ((c.toNat : Int) - 48) = (c.toNat : Int) - 48 ∧ 0 ≤ (c.toNat : Int) - 48 ∧ (c.toNat : Int) - 48 ≤ 9 := by
  have hd : 48 ≤ (c.toNat : Int) ∧ (c.toNat : Int) ≤ 57 := by simpa [digitI] using h
  obtain ⟨d1, d2⟩ := hd
  refine ⟨?_, by omega, by omega⟩
  obtain ⟨m, hm⟩ : ∃ m : Nat, (c.toNat : Int) - 48 = m ∧ m ≤ 9 := ⟨c.toNat - 48, by omega, by omega⟩
  rw [hm.1]
  have : m = 0 ∨ m = 1 ∨ m = 2 ∨ m = 3 ∨ m = 4 ∨ m = 5 ∨ m = 6 ∨ m = 7 ∨ m = 8 ∨ m = 9 := by omega
  rcases this with rfl | rfl | rfl | rfl | rfl | rfl | rfl | rfl | rfl | rfl <;> decide
set_option maxRecDepth 100000 in
set_option maxHeartbeats 2000000 in
theorem wnumber_any (s : ByteArray) (w : World) (hs : s.size ≤ maxLen) : Calls Tryz.prog 173 #[.string s] w fun e w' => e = .returned (numRes (numberV s.data.toList)) ∧ w = w' := by
  unfold maxLen at hs
  by_cases hz : 0 < s.size
  · have hem := ne_empty hz
    by_cases hb : ((s[0].toNat : Int) == 48) = true ∧ 1 < s.size
    · obtain ⟨h0, h1⟩ := hb
      have hq : (s.toList == [48]) = false := by rw [only_zero hz h0]; exact decide_eq_false (by omega)
      have hfin := Lib.hid (numberV_zero hz h0 h1)
      go_enter Tryz.func173, Tryz.ntmps173
      go_wp2_with fail
      go_ret2
      rw [hfin.out]; exact ⟨rfl, rfl⟩
    · obtain ⟨q, hq⟩ : ∃ q, numberV s.data.toList = q := ⟨_, rfl⟩
      have hg := Lib.hid (show numG 0 s.data.toList = q by
        rw [← hq, numberV_digits hz]
        by_cases x : ((s[0].toNat : Int) == 48) = true
        · exact .inr (fun y => hb ⟨x, y⟩)
        · left; simpa using x)
      rw [hq]
      clear hq
      have part : (((s[0].toNat : Int) == 48) = true ∧ (s.toList == [48]) = true) ∨ ((s[0].toNat : Int) == 48) = false := by
        by_cases x : ((s[0].toNat : Int) == 48) = true
        · left; exact ⟨x, by rw [only_zero hz x]; exact decide_eq_true (by have : ¬ 1 < s.size := fun y => hb ⟨x, y⟩; omega)⟩
        · right; simpa using x
      clear hb
      rcases part with ⟨h0, h1⟩ | h0
      all_goals
        go_enter Tryz.func173, Tryz.ntmps173
        go_wp2_with fail
        go_loop [4, 19] (fun x i => ∃ (k : Nat) (n : Int), k ≤ s.size ∧ 0 ≤ n ∧ n ≤ 1099511627776 ∧ x = .int .i64 n ∧ i = .int .i64 k ∧ Hid (numG n (s.data.toList.drop k) = q)) (fun _ i => s.size - (intOf i).toNat)
        case atStart => exact ⟨0, 0, by omega, by omega, by omega, rfl, rfl, hg⟩
        case round =>
          obtain ⟨k, n, hk, n0, n1, rfl, rfl, hgk⟩ := hrel
          by_cases hlt : k < s.size
          · have hcl := cls_lit s[k].toNat s[k].toNat_lt s[k].toNat_lt
            have h256 : (s[k].toNat : Int) < 256 := by have := s[k].toNat_lt; omega
            have hst := Lib.hid (show (if digitI (s[k].toNat : Int) = true then (if 1099511627776 < 10 * n + ((s[k].toNat : Int) - 48) then none else numG (10 * n + ((s[k].toNat : Int) - 48)) (s.data.toList.drop (k + 1))) else none) = q by
              rw [← hgk.out, w_drop s k hlt]; rfl)
            clear hgk
            by_cases hd : digitI (s[k].toNat : Int) = true
            · have h48 : (clsI (s[k].toNat : Int) != 48) = false := by
                have := cls_digit (s[k].toNat : Int); rw [hd] at this; simpa using this
              obtain ⟨hw8, d1, d2⟩ := digit_sub hd
              by_cases hbig : 1099511627776 < 10 * n + ((s[k].toNat : Int) - 48)
              · have hbig' : 1099511627776 < n * 10 + ((s[k].toNat : Int) - 48) := by omega
                have hfin := Lib.hid (show q = none by rw [← hst.out, if_pos hd, if_pos hbig])
                clear hst hd hbig
                go_wp2_with fail
                go_ret2
                rw [hfin.out]; exact ⟨rfl, rfl⟩
              · have hbig' : ¬ 1099511627776 < n * 10 + ((s[k].toNat : Int) - 48) := by omega
                have hnew := Lib.hid (show numG (n * 10 + ((s[k].toNat : Int) - 48)) (s.data.toList.drop (k + 1)) = q by rw [← hst.out, if_pos hd, if_neg hbig, Int.mul_comm])
                clear hst hd hbig
                go_wp2_with fail
                go_round
                case rel => exact ⟨k + 1, _, by omega, by omega, by omega, rfl, by go_num, hnew⟩
                case measure => simp [intOf]; omega
            · have h48 : (clsI (s[k].toNat : Int) != 48) = true := by
                have := cls_digit (s[k].toNat : Int); rw [show digitI (s[k].toNat : Int) = false by simpa using hd] at this; simpa using this
              have hfin := Lib.hid (show q = none by rw [← hst.out, if_neg hd])
              clear hst hd
              go_wp2_with fail
              go_ret2
              rw [hfin.out]; exact ⟨rfl, rfl⟩
          · have hfin := Lib.hid (show q = some n by rw [← hgk.out, List.drop_of_length_le (by simp; omega)]; rfl)
            clear hgk
            go_wp2_with fail
            go_ret2
            rw [hfin.out]; exact ⟨rfl, rfl⟩
  · have hem : s.toList.isEmpty = true := by simpa using (w_nil s).2 (by omega)
    have hfin := Lib.hid (numberV_nil hz)
    go_enter Tryz.func173, Tryz.ntmps173
    go_wp2_with fail
    go_ret2
    rw [hfin.out]; exact ⟨rfl, rfl⟩
theorem pre_45 (l : List UInt8) : Lib.hasPrefix l (⟨#[45]⟩ : ByteArray).data.toList = decide (l.head? = some 45) := by
  cases l with
  | nil => rfl
  | cons c t =>
    simp [Lib.hasPrefix, List.isPrefixOf]
    by_cases h : c = 45
    · subst h; rfl
    · simp [h]; exact fun e => h e.symm
theorem trim_45 (l : List UInt8) : Lib.trimPrefix l (⟨#[45]⟩ : ByteArray).data.toList = if l.head? = some 45 then l.drop 1 else l := by
  unfold Lib.trimPrefix
  rw [pre_45]
  by_cases h : l.head? = some 45 <;> simp [h]
set_option maxRecDepth 100000 in
set_option maxHeartbeats 2000000 in
theorem wsigned_any (s : ByteArray) (w : World) (hs : s.size ≤ maxLen) : Calls Tryz.prog 165 #[.string s] w fun e w' => e = .returned (signedRes s.data.toList) ∧ w = w' := by
  have P := Lib.hid (fun W => Tryz.strings_CutPrefix s ⟨#[45]⟩ W)
  have hl : s.data.toList.length = s.size := by simp
  rw [pre_45, trim_45] at P
  by_cases h : s.data.toList.head? = some 45
  · rw [if_pos h, decide_eq_true h] at P
    have N := Lib.hid (fun W => wnumber_any ⟨(s.data.toList.drop 1).toArray⟩ W (by show (s.data.toList.drop 1).toArray.size ≤ _; simp; omega))
    have hres := Lib.hid (show signedRes s.data.toList = _ by unfold signedRes; rw [if_pos h])
    clear h hl hs
    rw [hres.out]
    clear hres
    generalize (s.data.toList.drop 1) = d at *
    change Hid (∀ W, Calls Tryz.prog 173 #[.string ⟨d.toArray⟩] W fun e w' => e = .returned (numRes (numberV d)) ∧ W = w') at N
    cases hv : numberV d with
    | none =>
      rw [hv] at N
      have N3 := Lib.hid (fun W => show Calls Tryz.prog 173 #[.string ⟨d.toArray⟩] W fun e w' => e = .returned (.tuple #[.int .i64 0, .bool false]) ∧ W = w' from N.out W)
      clear N hv
      go_enter Tryz.func165, Tryz.ntmps165
      go_wp2_with fail
      refine (P.out _).mono ?_
      rintro e w1 ⟨rfl, rfl⟩
      go_wp2_with fail
      refine (N3.out _).mono ?_
      rintro e w1 ⟨rfl, rfl⟩
      go_wp2_with fail
      go_ret2
      exact ⟨rfl, rfl⟩
    | some n =>
      obtain ⟨b0, b1⟩ := numberV_bds hv
      rw [hv] at N
      have N3 := Lib.hid (fun W => show Calls Tryz.prog 173 #[.string ⟨d.toArray⟩] W fun e w' => e = .returned (.tuple #[.int .i64 n, .bool true]) ∧ W = w' from N.out W)
      clear N hv
      go_enter Tryz.func165, Tryz.ntmps165
      go_wp2_with fail
      refine (P.out _).mono ?_
      rintro e w1 ⟨rfl, rfl⟩
      go_wp2_with fail
      refine (N3.out _).mono ?_
      rintro e w1 ⟨rfl, rfl⟩
      go_wp2_with fail
      go_ret2
      exact ⟨rfl, rfl⟩
  · rw [if_neg h, decide_eq_false h] at P
    have N := Lib.hid (fun W => wnumber_any s W hs)
    have hres := Lib.hid (show signedRes s.data.toList = numRes (numberV s.data.toList) by unfold signedRes; rw [if_neg h])
    rw [hres.out]
    clear hres h hl hs
    change Hid (∀ W, Calls Tryz.prog 168 #[.string s, .string ⟨#[45]⟩] W fun e w' => e = .returned (.tuple #[.string s, .bool false]) ∧ w' = W) at P
    generalize numberV s.data.toList = q at *
    have N3 : ∃ a b, numRes q = .tuple #[.int .i64 a, .bool b] := by
      cases q with
      | none => exact ⟨0, false, rfl⟩
      | some n => exact ⟨n, true, rfl⟩
    obtain ⟨a, b, hab⟩ := N3
    rw [hab] at N ⊢
    clear hab
    go_enter Tryz.func165, Tryz.ntmps165
    go_wp2_with fail
    refine (P.out _).mono ?_
    rintro e w1 ⟨rfl, rfl⟩
    go_wp2_with fail
    refine (N.out _).mono ?_
    rintro e w1 ⟨rfl, rfl⟩
    go_wp2_with fail
    go_ret2
    exact ⟨rfl, rfl⟩
end Go.Proofs.YtdmedealdhadcaaGreatDoor

namespace Go.Proofs.YtdmedealdhadcaaGreatDoor
open Go.RowKit
/-! ### Stores of single cells -/
theorem run_cell (W : World) (ty : TypeId) (b j : Nat) (t0 : TypeId) (cs : Array Value) (v : Value) (hg : HoldsB W b t0 cs) (hj : j < cs.size) (hs : (Tryz.prog.info? ty).map (·.size) = some 1) (hv : v.cells = #[v]) (h1 : v.oneCell' = true) :
    (Instr.storeAt ty (.pointer (some ⟨b, j, none⟩)) v).run Tryz.prog W = .ok () (W.setCell ⟨b, j, none⟩ v) := by
  have hc : (W.cell? ⟨b, j, none⟩).isSome = true := by rw [hg.cell (v := cs[j]) (Array.getElem?_eq_getElem hj)]; rfl
  have := run_storeCells_cells (P := Tryz.prog) b j [v] 0 W (fun i hi => by
    obtain rfl : i = 0 := by simpa using hi
    simpa using hc) (fun i hi => by
    obtain rfl : i = 0 := by simpa using hi
    simpa using hg.frozen j) (fun u hu => by
    obtain rfl : u = v := by simpa using hu
    exact h1)
  cases hq : Tryz.prog.info? ty with
  | none => rw [hq] at hs; cases hs
  | some i =>
    have hz : i.size = 1 := by rw [hq] at hs; simpa using hs
    simp only [Nat.add_zero] at this
    simp [Instr.storeAt, Instr.sureAddr, storeVar, sizeOf, typeInfo, hq, hv, hz, this, World.setCells, Sem.run_bind, Sem.run_pure]
theorem grown_set (W : World) (b j : Nat) (v : Value) : W.grownBy (W.setCell ⟨b, j, none⟩ v) (some b) :=
  ⟨rfl, rfl, rfl, by simp [World.setCell], fun k _ hk => Below.heap_setCell _ _ _ _ (fun e => hk (by simp [e]))⟩
/-- Only block b, and what is new, may differ. -/
def Mv (b : Nat) (W W' : World) : Prop := W.grownBy W' (some b)
theorem Mv.refl (b : Nat) (W : World) : Mv b W W := ⟨rfl, rfl, rfl, Nat.le_refl _, fun _ _ _ => rfl⟩
theorem Mv.trans {b : Nat} {W V U : World} (h : Mv b W V) (k : Mv b V U) : Mv b W U :=
  ⟨k.os.trans h.os, k.tape.trans h.tape, k.output.trans h.output, Nat.le_trans h.size k.size, fun c hc hn => (k.block c (Nat.lt_of_lt_of_le hc h.size) hn).trans (h.block c hc hn)⟩
theorem Mv.of {b : Nat} {W V : World} (h : Below W.heap.size W V) : Mv b W V := ⟨h.os, h.tape, h.output, h.size, fun c hc _ => h.block c hc⟩
theorem Mv.bel {b : Nat} {W V : World} (h : Mv b W V) {B : Nat} {w0 : World} (k : Below B w0 W) (hB : B ≤ b) (hs : B ≤ W.heap.size) : Below B w0 V :=
  k.grown h hs (fun g hg => by cases hg; exact hB)
theorem Mv.old {b : Nat} {w V : World} (h : Mv b w V) (hb : w.heap.size ≤ b) : Below w.heap.size w V := h.bel (w_refl w) hb (Nat.le_refl _)
theorem HoldsB.mv {b c : Nat} {W V : World} {t : TypeId} {cs : Array Value} (h : HoldsB W c t cs) (k : Mv b W V) (hne : c ≠ b) : HoldsB V c t cs := h.kept k (fun e => hne (by simpa using e))
section
variable {ops : Array Oper} {rest : List Oper} {x y : Operand} {t : TypeId} {ps : String} {af : Array Edge} {a : Act} {Q : Exit → Act → World → Prop}
theorem wl_cell {W : World} (ty : TypeId) (b j : Nat) (t0 : TypeId) (cs : Array Value) (v : Value) (hx : a.eval x = .pointer (some ⟨b, j, none⟩)) (hy : a.eval y = v) (hg : HoldsB W b t0 cs) (hj : j < cs.size)
    (hs : (Tryz.prog.info? ty).map (·.size) = some 1) (hv : v.cells = #[v]) (h1 : v.oneCell' = true)
    (h : ∀ W', HoldsB W' b t0 (cs.setIfInBounds j v) → Mv b W W' → wpList Tryz.prog ops Q rest a W') :
    wpList Tryz.prog ops Q ({ dst := none, op := .store ty x y, type := t, pos := ps, after := af, guard := none } :: rest) a W := by
  refine wpList_plain rfl fun _ hK => ?_
  unfold Oper.wp execOp
  simp only [hx, hy, Sem.run_bind, run_cell W ty b j t0 cs v hg hj hs hv h1, Result.andThen_ok, Sem.run_pure]
  exact hK _ _ (h _ (hg.set j v) (grown_set W b j v))
end
theorem sz_int : (Tryz.prog.info? 3).map (·.size) = some 1 := by kernel_rfl
theorem sz_bool : (Tryz.prog.info? 4).map (·.size) = some 1 := by kernel_rfl
theorem sz_string : (Tryz.prog.info? 9).map (·.size) = some 1 := by kernel_rfl
/-! ### A cursor -/
def cuA (l : List UInt8) (s : Sg) : Array Value := #[.string (bytes l), .int .i64 s.kind, .int .i64 s.val, .int .i64 s.place, .int .i64 s.acc, .bool s.col, .int .i64 s.stem, .bool s.obl, .bool s.last, .int .i64 s.m0, .int .i64 s.m1, .int .i64 s.m2, .int .i64 s.m3, .bool s.stk, .int .i64 s.n, .int .i64 s.d, .int .i64 s.c0, .int .i64 s.c1]
def CuX (W : World) (b : Nat) (x : Cu) : Prop := HoldsB W b 123 (cuA x.1 x.2)
theorem CuX.left {W : World} {b : Nat} {x : Cu} (h : CuX W b x) : W.cell? ⟨b, 0, none⟩ = some (.string (bytes x.1)) := HoldsB.cell h rfl
theorem CuX.later {W V : World} {b : Nat} {x : Cu} (h : CuX W b x) (k : Below W.heap.size W V) : CuX V b x := HoldsB.later h k
/-! ### take -/
theorem pre_tk (c : UInt8) (l : List UInt8) : Lib.hasPrefix l (bytes [c]).data.toList = (tk c l).isSome ∧ Lib.trimPrefix l (bytes [c]).data.toList = (tk c l).getD l := by
  rw [bytes_data]
  cases l with
  | nil => exact ⟨rfl, rfl⟩
  | cons d t =>
    unfold Lib.trimPrefix Lib.hasPrefix
    by_cases h : d = c
    · subst h; rw [tk_cons]; simp [List.isPrefixOf]
    · rw [tk_no h]
      have : (c == d) = false := by rw [beq_eq_false_iff_ne]; exact fun e => h e.symm
      simp [List.isPrefixOf, this]
set_option maxRecDepth 100000 in
set_option maxHeartbeats 2000000 in
theorem take_raw (m : ByteArray) (b : Nat) (x : Cu) (W : World) (h : CuX W b x) : Calls Tryz.prog 124 #[.pointer (some ⟨b, 0, none⟩), .string m] W
    fun e W' => e = .returned (.bool (Lib.hasPrefix x.1 m.data.toList)) ∧ CuX W' b (Lib.trimPrefix x.1 m.data.toList, x.2) ∧ Mv b W W' := by
  have P := Lib.hid (fun W => Tryz.strings_CutPrefix (bytes x.1) m W)
  rw [bytes_data] at P
  have c0 := h.left
  have HX := Lib.hid h
  unfold CuX at HX
  clear h
  obtain ⟨l, s⟩ := x
  go_enter Tryz.func124, Tryz.ntmps124
  go_wp2_with fail
  refine (P.out _).mono ?_
  rintro e w1 ⟨rfl, rfl⟩
  clear P
  go_wp2_with (first | (refine wl_cell 9 b 0 123 _ (.string (bytes (Lib.trimPrefix l m.data.toList))) (by kernel_rfl) (by kernel_rfl) HX.out (show 0 < 18 by decide) sz_string rfl rfl ?_) | fail)
  intro W2 h2 h3
  have H2 := Lib.hid h2
  have H3 := Lib.hid h3
  clear h2 h3 HX c0
  go_wp2_with fail
  go_ret
  exact ⟨rfl, H2.out, H3.out⟩
theorem take_yes {c : UInt8} {x : Cu} {t : List UInt8} (e : tk c x.1 = some t) (b : Nat) (W : World) (h : CuX W b x) : Calls Tryz.prog 124 #[.pointer (some ⟨b, 0, none⟩), .string (bytes [c])] W
    fun e W' => e = .returned (.bool true) ∧ CuX W' b (t, x.2) ∧ Mv b W W' := by
  have := take_raw (bytes [c]) b x W h
  rw [(pre_tk c x.1).1, (pre_tk c x.1).2, e] at this
  exact this
theorem take_no {c : UInt8} {x : Cu} (e : tk c x.1 = none) (b : Nat) (W : World) (h : CuX W b x) : Calls Tryz.prog 124 #[.pointer (some ⟨b, 0, none⟩), .string (bytes [c])] W
    fun e W' => e = .returned (.bool false) ∧ CuX W' b x ∧ Mv b W W' := by
  have := take_raw (bytes [c]) b x W h
  rw [(pre_tk c x.1).1, (pre_tk c x.1).2, e] at this
  exact this
end Go.Proofs.YtdmedealdhadcaaGreatDoor
