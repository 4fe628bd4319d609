/- Bytes, names, numbers, cuts at a byte: what the reference of layer 2 answers, for every text. -/
import Derived.Test.YtcomjcflllfobaaDoorProg
import Derived.WalkKit
import Derived.WalkSpells
import Derived.WalkLawsBesides
import Derived.WalkMore
import Derived.WalkSmall
import Derived.Lib.Hide
import Derived.Lib.Strings
import Derived.Lib.IndexBytes
import Derived.BigQuiet
namespace Go.Proofs.YtcomjcflllfobaaDoor
open Go.RowKit

def plainI (c : Int) : Bool := decide (33 ≤ c ∧ c ≤ 126 ∧ c ≠ 59 ∧ c ≠ 34)
def insideI (c : Int) : Bool := decide (32 ≤ c ∧ c ≤ 126 ∧ c ≠ 34)
def digitI (c : Int) : Bool := decide (48 ≤ c ∧ c ≤ 57)
def letterI (c : Int) : Bool := decide (97 ≤ c ∧ c ≤ 122)

theorem w_take (s : ByteArray) (k : Nat) (h : k < s.size) : s.data.toList.take (k + 1) = s.data.toList.take k ++ [s[k]] := by
  rw [List.take_succ_eq_append_getElem (by simpa using h)]; rfl
theorem w_drop (s : ByteArray) (pos : Nat) (h : pos < s.size) : s.data.toList.drop pos = s[pos] :: s.data.toList.drop (pos + 1) := by
  rw [List.drop_eq_getElem_cons (by simpa using h)]; rfl
theorem w_mem (s : ByteArray) (k : Nat) (h : k < s.size) : s[k] ∈ s.data.toList := by
  have : s[k] = s.data.toList[k]'(by simpa using h) := rfl
  rw [this]; exact List.getElem_mem _
theorem w_nil (s : ByteArray) : (s.toList = [] ↔ s.size = 0) := by
  rw [Lib.toList_data]
  constructor
  · intro h; have := congrArg List.length h; simpa using this
  · intro h; exact List.length_eq_zero_iff.1 (by simpa using h)

theorem rdigit_c (c : Int) (w : World) : Calls Tryd.prog 79 #[.int .u8 c] w fun e w' => e = .returned (.bool (digitI c)) ∧ w = w' := by
  by_cases h1 : 48 ≤ c
  · by_cases h2 : c ≤ 57
    · have hr := Lib.hid (show digitI c = true by unfold digitI; exact decide_eq_true ⟨h1, h2⟩)
      go_enter Tryd.func79, Tryd.ntmps79
      go_wp2_with fail
      go_ret
      rw [hr.out]; exact ⟨rfl, rfl⟩
    · have hr := Lib.hid (show digitI c = false by unfold digitI; exact decide_eq_false (fun x => h2 x.2))
      go_enter Tryd.func79, Tryd.ntmps79
      go_wp2_with fail
      go_ret
      rw [hr.out]; exact ⟨rfl, rfl⟩
  · have hr := Lib.hid (show digitI c = false by unfold digitI; exact decide_eq_false (fun x => h1 x.1))
    go_enter Tryd.func79, Tryd.ntmps79
    go_wp2_with fail
    go_ret
    rw [hr.out]; exact ⟨rfl, rfl⟩

theorem rletter_c (c : Int) (w : World) : Calls Tryd.prog 78 #[.int .u8 c] w fun e w' => e = .returned (.bool (letterI c)) ∧ w = w' := by
  by_cases h1 : 97 ≤ c
  · by_cases h2 : c ≤ 122
    · have hr := Lib.hid (show letterI c = true by unfold letterI; exact decide_eq_true ⟨h1, h2⟩)
      go_enter Tryd.func78, Tryd.ntmps78
      go_wp2_with fail
      go_ret
      rw [hr.out]; exact ⟨rfl, rfl⟩
    · have hr := Lib.hid (show letterI c = false by unfold letterI; exact decide_eq_false (fun x => h2 x.2))
      go_enter Tryd.func78, Tryd.ntmps78
      go_wp2_with fail
      go_ret
      rw [hr.out]; exact ⟨rfl, rfl⟩
  · have hr := Lib.hid (show letterI c = false by unfold letterI; exact decide_eq_false (fun x => h1 x.1))
    go_enter Tryd.func78, Tryd.ntmps78
    go_wp2_with fail
    go_ret
    rw [hr.out]; exact ⟨rfl, rfl⟩

end Go.Proofs.YtcomjcflllfobaaDoor
