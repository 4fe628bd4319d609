/- The classes of bytes, and how many bytes at the beginning of a text are of a class. -/
import Derived.Test.YtcomjcflllfobaaDoorWOne
namespace Go.Proofs.YtcomjcflllfobaaDoor
open Go.RowKit

/-- The class of a byte. -/
def clsI (c : Int) : Int :=
  if c < 32 then 63 else if c = 32 then 32 else if c = 34 then 34 else if c = 45 then 45 else if 48 ≤ c ∧ c ≤ 57 then 48 else if c = 59 then 59 else if 97 ≤ c ∧ c ≤ 122 then 97 else if c ≤ 126 then 33 else 63

def blankC (c : Int) : Bool := c == 32
def quotableC (c : Int) : Bool := c != 63 && c != 34
def namingC (c : Int) : Bool := c == 97 || c == 48 || c == 45
set_option maxHeartbeats 400000 in
theorem wnaming_c (c : Int) (w : World) : Calls Tryd.prog 77 #[.int .u8 c] w fun e w' => e = .returned (.bool (namingC c)) ∧ w = w' := by
  unfold namingC
  cases h1 : (c == 97) <;> cases h2 : (c == 48)
  all_goals
    go_enter Tryd.func77, Tryd.ntmps77
    go_wp2_with fail
    go_ret
    exact ⟨rfl, rfl⟩

def plainC (c : Int) : Bool := c == 97 || c == 48 || c == 45 || c == 33
/-- The program's own table of classes, read. -/
theorem cls_ok : ((List.range 256).all fun n => decide (((({ data := #[63, 63, 63, 63, 63, 63, 63, 63, 63, 63, 63, 63, 63, 63, 63, 63, 63, 63, 63, 63, 63, 63, 63, 63, 63, 63, 63, 63, 63, 63, 63, 63, 32, 33, 34, 33, 33, 33, 33, 33, 33, 33, 33, 33, 33, 45, 33, 33, 48, 48, 48, 48, 48, 48, 48, 48, 48, 48, 33, 59, 33, 33, 33, 33, 33, 33, 33, 33, 33, 33, 33, 33, 33, 33, 33, 33, 33, 33, 33, 33, 33, 33, 33, 33, 33, 33, 33, 33, 33, 33, 33, 33, 33, 33, 33, 33, 33, 97, 97, 97, 97, 97, 97, 97, 97, 97, 97, 97, 97, 97, 97, 97, 97, 97, 97, 97, 97, 97, 97, 97, 97, 97, 97, 33, 33, 33, 33, 63, 63, 63, 63, 63, 63, 63, 63, 63, 63, 63, 63, 63, 63, 63, 63, 63, 63, 63, 63, 63, 63, 63, 63, 63, 63, 63, 63, 63, 63, 63, 63, 63, 63, 63, 63, 63, 63, 63, 63, 63, 63, 63, 63, 63, 63, 63, 63, 63, 63, 63, 63, 63, 63, 63, 63, 63, 63, 63, 63, 63, 63, 63, 63, 63, 63, 63, 63, 63, 63, 63, 63, 63, 63, 63, 63, 63, 63, 63, 63, 63, 63, 63, 63, 63, 63, 63, 63, 63, 63, 63, 63, 63, 63, 63, 63, 63, 63, 63, 63, 63, 63, 63, 63, 63, 63, 63, 63, 63, 63, 63, 63, 63, 63, 63, 63, 63, 63, 63, 63, 63, 63, 63, 63, 63, 63, 63, 63, 63] } : ByteArray).data.toList.getD n 0).toNat : Int) = clsI n)) = true := by decide +kernel
theorem bytes_getD (s : ByteArray) (n : Nat) (h : n < s.size) : s[n] = s.data.toList.getD n 0 := by
  simp only [List.getD, List.getElem?_eq_getElem (show n < s.data.toList.length by simpa using h)]; rfl
theorem cls_lit (n : Nat) (h : n < 256) (h' : n < ({ data := #[63, 63, 63, 63, 63, 63, 63, 63, 63, 63, 63, 63, 63, 63, 63, 63, 63, 63, 63, 63, 63, 63, 63, 63, 63, 63, 63, 63, 63, 63, 63, 63, 32, 33, 34, 33, 33, 33, 33, 33, 33, 33, 33, 33, 33, 45, 33, 33, 48, 48, 48, 48, 48, 48, 48, 48, 48, 48, 33, 59, 33, 33, 33, 33, 33, 33, 33, 33, 33, 33, 33, 33, 33, 33, 33, 33, 33, 33, 33, 33, 33, 33, 33, 33, 33, 33, 33, 33, 33, 33, 33, 33, 33, 33, 33, 33, 33, 97, 97, 97, 97, 97, 97, 97, 97, 97, 97, 97, 97, 97, 97, 97, 97, 97, 97, 97, 97, 97, 97, 97, 97, 97, 97, 33, 33, 33, 33, 63, 63, 63, 63, 63, 63, 63, 63, 63, 63, 63, 63, 63, 63, 63, 63, 63, 63, 63, 63, 63, 63, 63, 63, 63, 63, 63, 63, 63, 63, 63, 63, 63, 63, 63, 63, 63, 63, 63, 63, 63, 63, 63, 63, 63, 63, 63, 63, 63, 63, 63, 63, 63, 63, 63, 63, 63, 63, 63, 63, 63, 63, 63, 63, 63, 63, 63, 63, 63, 63, 63, 63, 63, 63, 63, 63, 63, 63, 63, 63, 63, 63, 63, 63, 63, 63, 63, 63, 63, 63, 63, 63, 63, 63, 63, 63, 63, 63, 63, 63, 63, 63, 63, 63, 63, 63, 63, 63, 63, 63, 63, 63, 63, 63, 63, 63, 63, 63, 63, 63, 63, 63, 63, 63, 63, 63, 63, 63, 63] } : ByteArray).size) : (((({ data := #[63, 63, 63, 63, 63, 63, 63, 63, 63, 63, 63, 63, 63, 63, 63, 63, 63, 63, 63, 63, 63, 63, 63, 63, 63, 63, 63, 63, 63, 63, 63, 63, 32, 33, 34, 33, 33, 33, 33, 33, 33, 33, 33, 33, 33, 45, 33, 33, 48, 48, 48, 48, 48, 48, 48, 48, 48, 48, 33, 59, 33, 33, 33, 33, 33, 33, 33, 33, 33, 33, 33, 33, 33, 33, 33, 33, 33, 33, 33, 33, 33, 33, 33, 33, 33, 33, 33, 33, 33, 33, 33, 33, 33, 33, 33, 33, 33, 97, 97, 97, 97, 97, 97, 97, 97, 97, 97, 97, 97, 97, 97, 97, 97, 97, 97, 97, 97, 97, 97, 97, 97, 97, 97, 33, 33, 33, 33, 63, 63, 63, 63, 63, 63, 63, 63, 63, 63, 63, 63, 63, 63, 63, 63, 63, 63, 63, 63, 63, 63, 63, 63, 63, 63, 63, 63, 63, 63, 63, 63, 63, 63, 63, 63, 63, 63, 63, 63, 63, 63, 63, 63, 63, 63, 63, 63, 63, 63, 63, 63, 63, 63, 63, 63, 63, 63, 63, 63, 63, 63, 63, 63, 63, 63, 63, 63, 63, 63, 63, 63, 63, 63, 63, 63, 63, 63, 63, 63, 63, 63, 63, 63, 63, 63, 63, 63, 63, 63, 63, 63, 63, 63, 63, 63, 63, 63, 63, 63, 63, 63, 63, 63, 63, 63, 63, 63, 63, 63, 63, 63, 63, 63, 63, 63, 63, 63, 63, 63, 63, 63, 63, 63, 63, 63, 63, 63, 63] } : ByteArray)[n]'h').toNat : Nat) : Int) = clsI n := by
  have h1 := List.all_eq_true.1 cls_ok n (List.mem_range.2 h)
  have h2 := of_decide_eq_true h1
  rw [← h2, bytes_getD _ n h']

/-- How many bytes at the beginning are of the class. -/
def runN (p : Int → Bool) : List UInt8 → Nat
  | [] => 0
  | c :: t => if p (clsI c.toNat) = true then runN p t + 1 else 0

set_option maxRecDepth 100000 in
set_option maxHeartbeats 1000000 in
theorem wrun_naming (s : ByteArray) (w : World) (hs : s.size ≤ maxLen) : Calls Tryd.prog 76 #[.string s, .func (.func 77) #[] #[]] w fun e w' => e = .returned (.int .i64 (runN namingC s.data.toList)) ∧ w = w' := by
  unfold maxLen at hs
  go_enter Tryd.func76, Tryd.ntmps76
  go_wp2_with fail
  go_loop [8] (fun i => ∃ k : Nat, k ≤ s.size ∧ i = .int .i64 k ∧ Hid (runN namingC s.data.toList = k + runN namingC (s.data.toList.drop k))) (fun i => s.size - (intOf i).toNat)
  case atStart => exact ⟨0, by omega, rfl, Lib.hid (by simp)⟩
  case round =>
    obtain ⟨k, hk, rfl, hall⟩ := hrel
    by_cases hlt : k < s.size
    · have hcl := cls_lit s[k].toNat s[k].toNat_lt s[k].toNat_lt
      have h256 : (s[k].toNat : Int) < 256 := by have := s[k].toNat_lt; omega
      have hd := Lib.hid (w_drop s k hlt)
      cases hp : namingC (clsI s[k].toNat) with
      | true =>
        have hnew := Lib.hid (show runN namingC s.data.toList = (k + 1 : Nat) + runN namingC (s.data.toList.drop (k + 1)) by
          rw [hall.out, hd.out]; simp only [runN, hp, if_true]; omega)
        clear hall hd
        go_wp2_with fail
        refine (wnaming_c _ _).mono ?_
        rintro e w1 ⟨rfl, rfl⟩
        go_wp2_with fail
        go_round
        case rel => exact ⟨k + 1, by omega, by go_num, hnew⟩
        case measure => simp [intOf]; omega
      | false =>
        have hfin := Lib.hid (show runN namingC s.data.toList = k by
          rw [hall.out, hd.out]; simp [runN, hp])
        clear hall hd
        go_wp2_with fail
        refine (wnaming_c _ _).mono ?_
        rintro e w1 ⟨rfl, rfl⟩
        go_wp2_with fail
        go_ret
        rw [hfin.out]; exact ⟨rfl, rfl⟩
    · obtain rfl : k = s.size := by omega
      have hfin := Lib.hid (show runN namingC s.data.toList = s.size by
        rw [hall.out, List.drop_of_length_le (by simp)]; rfl)
      clear hall
      go_wp2_with fail
      go_ret
      rw [hfin.out]; exact ⟨rfl, rfl⟩

/-- What the classes say of bytes. -/
theorem cls_blank (c : Int) : blankC (clsI c) = decide (c = 32) := by
  unfold blankC clsI; split <;> (try split) <;> (try split) <;> (try split) <;> (try split) <;> (try split) <;> (try split) <;> (try split) <;> simp <;> omega
theorem cls_plain (c : Int) : plainC (clsI c) = plainI c := by
  unfold plainC clsI plainI; split <;> (try split) <;> (try split) <;> (try split) <;> (try split) <;> (try split) <;> (try split) <;> (try split) <;> simp <;> omega
theorem cls_quotable (c : Int) : quotableC (clsI c) = insideI c := by
  unfold quotableC clsI insideI; split <;> (try split) <;> (try split) <;> (try split) <;> (try split) <;> (try split) <;> (try split) <;> (try split) <;> simp <;> omega
theorem cls_naming (c : Int) : namingC (clsI c) = (letterI c || digitI c || c == 45) := by
  unfold namingC clsI letterI digitI; split <;> (try split) <;> (try split) <;> (try split) <;> (try split) <;> (try split) <;> (try split) <;> (try split) <;> simp <;> omega
theorem cls_letter (c : Int) : (clsI c == 97) = letterI c := by
  unfold clsI letterI; split <;> (try split) <;> (try split) <;> (try split) <;> (try split) <;> (try split) <;> (try split) <;> (try split) <;> simp <;> omega
theorem cls_digit (c : Int) : (clsI c == 48) = digitI c := by
  unfold clsI digitI; split <;> (try split) <;> (try split) <;> (try split) <;> (try split) <;> (try split) <;> (try split) <;> (try split) <;> simp <;> omega
theorem cls_semi (c : Int) : (clsI c == 59) = decide (c = 59) := by
  unfold clsI; split <;> (try split) <;> (try split) <;> (try split) <;> (try split) <;> (try split) <;> (try split) <;> (try split) <;> simp <;> omega
theorem cls_quote (c : Int) : (clsI c == 34) = decide (c = 34) := by
  unfold clsI; split <;> (try split) <;> (try split) <;> (try split) <;> (try split) <;> (try split) <;> (try split) <;> (try split) <;> simp <;> omega

end Go.Proofs.YtcomjcflllfobaaDoor
