/- The program's Name, Number, Signed: they answer as the reference does, for every text. -/
import Derived.Test.YtcomjcflllfobaaDoorRun
import Derived.Test.YtcomjcflllfobaaDoorWSingle
namespace Go.Proofs.YtcomjcflllfobaaDoor
open Go.RowKit

theorem runN_le (p : Int → Bool) : ∀ l, runN p l ≤ l.length
  | [] => Nat.le_refl _
  | c :: t => by have := runN_le p t; simp only [runN, List.length_cons]; split <;> omega
theorem runN_iff (p : Int → Bool) : ∀ l, runN p l = l.length ↔ l.all (fun c => p (clsI c.toNat)) = true
  | [] => by simp [runN]
  | c :: t => by
    have h := runN_iff p t
    by_cases hp : p (clsI c.toNat) = true
    · rw [show runN p (c :: t) = runN p t + 1 from if_pos hp, List.length_cons, List.all_cons, hp, Bool.true_and, ← h]; omega
    · rw [show runN p (c :: t) = 0 from if_neg hp, List.length_cons, List.all_cons, show p (clsI c.toNat) = false by simpa using hp, Bool.false_and]
      simp
theorem runN_all (p : Int → Bool) (l : List UInt8) : decide (runN p l = l.length) = l.all (fun c => p (clsI c.toNat)) := by
  rw [Bool.eq_iff_iff, decide_eq_true_iff]; exact runN_iff p l
theorem naming_eq : (fun c : UInt8 => namingC (clsI c.toNat)) = nameB := by
  funext c; rw [cls_naming]; rfl
theorem head_letter {s : ByteArray} (h : 0 < s.size) : headLetter s.data.toList = letterI (s[0].toNat : Int) := by
  rw [head_byte s h]; rfl

set_option maxRecDepth 100000 in
set_option maxHeartbeats 2000000 in
theorem wname_any (s : ByteArray) (w : World) (hs : s.size ≤ maxLen) : Calls Tryd.prog 48 #[.string s] w fun e w' => e = .returned (.bool (nameV s.data.toList)) ∧ w = w' := by
  have R := Lib.hid (fun W => wrun_naming s W hs)
  have hl : s.data.toList.length = s.size := by simp
  unfold maxLen at hs
  by_cases hz : 0 < s.size
  · have hem := ne_empty hz
    by_cases h20 : 20 < s.size
    · have h20' : (20 : Int) < s.size := by omega
      have hfin := Lib.hid (show nameV s.data.toList = false by
        unfold nameV; rw [hl, decide_eq_false (by omega)]; simp)
      clear hl R
      go_enter Tryd.func48, Tryd.ntmps48
      go_wp2_with fail
      go_ret
      rw [hfin.out]; exact ⟨rfl, rfl⟩
    · have h20' : ¬ (20 : Int) < s.size := by omega
      have hcl := cls_lit s[0].toNat s[0].toNat_lt s[0].toNat_lt
      have h256 : (s[0].toNat : Int) < 256 := by have := s[0].toNat_lt; omega
      cases hc : letterI (s[0].toNat : Int) with
      | false =>
        have h97 : (clsI (s[0].toNat : Int) != 97) = true := by
          have := cls_letter (s[0].toNat : Int); rw [hc] at this; simpa using this
        have hfin := Lib.hid (show nameV s.data.toList = false by
          unfold nameV; rw [head_letter hz, hc]; simp)
        clear hl R hc
        go_enter Tryd.func48, Tryd.ntmps48
        go_wp2_with fail
        go_ret
        rw [hfin.out]; exact ⟨rfl, rfl⟩
      | true =>
        have h97 : (clsI (s[0].toNat : Int) != 97) = false := by
          have := cls_letter (s[0].toNat : Int); rw [hc] at this; simpa using this
        obtain ⟨b, hb⟩ : ∃ b, ((runN namingC s.data.toList : Int) == (s.size : Int)) = b := ⟨_, rfl⟩
        have hfin := Lib.hid (show nameV s.data.toList = b by
          have h1 := runN_all namingC s.data.toList
          rw [naming_eq] at h1
          unfold nameV; rw [head_letter hz, hc, hl, decide_eq_true (by omega), ← h1, ← hb, hl]
          by_cases e : runN namingC s.data.toList = s.size
          · simp [e]
          · simp [e]; omega)
        clear hl hc
        go_enter Tryd.func48, Tryd.ntmps48
        go_wp2_with fail
        refine (R.out _).mono ?_
        rintro e w1 ⟨rfl, rfl⟩
        go_wp2_with fail
        go_ret
        rw [hfin.out]; exact ⟨rfl, rfl⟩
  · have hem : s.toList.isEmpty = true := by simpa using (w_nil s).2 (by omega)
    have hfin := Lib.hid (show nameV s.data.toList = false by rw [data_nil hz]; rfl)
    clear hl R
    go_enter Tryd.func48, Tryd.ntmps48
    go_wp2_with fail
    go_ret
    rw [hfin.out]; exact ⟨rfl, rfl⟩

theorem only_zero {s : ByteArray} (h : 0 < s.size) (h0 : ((s[0].toNat : Int) == 48) = true) : (s.toList == [48]) = decide (s.size = 1) := by
  have e := head_byte s h
  have e0 : s[0] = 48 := UInt8.toNat_inj.1 (by rw [beq_iff_eq] at h0; have : (48 : UInt8).toNat = 48 := rfl; omega)
  rw [e0] at e
  rw [Lib.toList_data]
  by_cases h1 : s.size = 1
  · have : s.data.toList.drop 1 = [] := List.drop_of_length_le (by simp; omega)
    rw [e, this]; simp [h1]
  · rw [decide_eq_false h1, beq_eq_false_iff_ne]
    intro x
    have := congrArg List.length x
    simp at this; omega
theorem digit_sub {c : UInt8} (h : digitI (c.toNat : Int) = true) : IntKind.u8.wrap ((c.toNat : Int) - 48) = (c.toNat : Int) - 48 ∧ 0 ≤ (c.toNat : Int) - 48 ∧ (c.toNat : Int) - 48 ≤ 9 := by
  have hd : 48 ≤ (c.toNat : Int) ∧ (c.toNat : Int) ≤ 57 := by simpa [digitI] using h
  obtain ⟨d1, d2⟩ := hd
  refine ⟨?_, by omega, by omega⟩
  obtain ⟨m, hm⟩ : ∃ m : Nat, (c.toNat : Int) - 48 = m ∧ m ≤ 9 := ⟨c.toNat - 48, by omega, by omega⟩
  rw [hm.1]
  have : m = 0 ∨ m = 1 ∨ m = 2 ∨ m = 3 ∨ m = 4 ∨ m = 5 ∨ m = 6 ∨ m = 7 ∨ m = 8 ∨ m = 9 := by omega
  rcases this with rfl | rfl | rfl | rfl | rfl | rfl | rfl | rfl | rfl | rfl <;> decide

theorem pre_45 (l : List UInt8) : Lib.hasPrefix l (⟨#[45]⟩ : ByteArray).data.toList = decide (l.head? = some 45) := by
  cases l with
  | nil => rfl
  | cons c t =>
    simp [Lib.hasPrefix, List.isPrefixOf]
    by_cases h : c = 45
    · subst h; rfl
    · simp [h]; exact fun e => h e.symm
theorem trim_45 (l : List UInt8) : Lib.trimPrefix l (⟨#[45]⟩ : ByteArray).data.toList = if l.head? = some 45 then l.drop 1 else l := by
  unfold Lib.trimPrefix
  rw [pre_45]
  by_cases h : l.head? = some 45 <;> simp [h]

end Go.Proofs.YtcomjcflllfobaaDoor
