/- The program's Name, Number, Signed: they answer as the reference does, for every text. -/
import Derived.Test.YtdjkgnganbeonaaDoorRun
import Derived.Test.YtdjkgnganbeonaaDoorBuild
import Derived.Test.YtdjkgnganbeonaaDoorWSingle
namespace Go.Proofs.YtdjkgnganbeonaaDoor
open Go.RowKit

theorem runN_le (p : Int → Bool) : ∀ l, runN p l ≤ l.length
  | [] => Nat.le_refl _
  | c :: t => by have := runN_le p t; simp only [runN, List.length_cons]; split <;> omega
theorem runN_iff (p : Int → Bool) : ∀ l, runN p l = l.length ↔ l.all (fun c => p (clsI c.toNat)) = true
  | [] => by simp [runN]
  | c :: t => by
    have h := runN_iff p t
    by_cases hp : p (clsI c.toNat) = true
    · rw [show runN p (c :: t) = runN p t + 1 from if_pos hp, List.length_cons, List.all_cons, hp, Bool.true_and, ← h]; omega
    · rw [show runN p (c :: t) = 0 from if_neg hp, List.length_cons, List.all_cons, show p (clsI c.toNat) = false by simpa using hp, Bool.false_and]
      simp
theorem runN_all (p : Int → Bool) (l : List UInt8) : decide (runN p l = l.length) = l.all (fun c => p (clsI c.toNat)) := by
  rw [Bool.eq_iff_iff, decide_eq_true_iff]; exact runN_iff p l
theorem naming_eq : (fun c : UInt8 => namingC (clsI c.toNat)) = nameB := by
  funext c; rw [cls_naming]; rfl
theorem head_letter {s : ByteArray} (h : 0 < s.size) : headLetter s.data.toList = letterI (s[0].toNat : Int) := by
  rw [head_byte s h]; rfl

set_option maxRecDepth 100000 in
set_option maxHeartbeats 2000000 in
theorem wname_any (s : ByteArray) (w : World) (hs : s.size ≤ maxLen) : Calls Tryd.prog 19 #[.string s] w fun e w' => e = .returned (.bool (nameV s.data.toList)) ∧ w = w' := by
  have R := Lib.hid (fun W => wrun_naming s W hs)
  have hl : s.data.toList.length = s.size := by simp
  unfold maxLen at hs
  by_cases hz : 0 < s.size
  · have hem := ne_empty hz
    by_cases h20 : 20 < s.size
    · have h20' : (20 : Int) < s.size := by omega
      have hfin := Lib.hid (show nameV s.data.toList = false by
        unfold nameV; rw [hl, decide_eq_false (by omega)]; simp)
      clear hl R
      go_enter Tryd.func19, Tryd.ntmps19
      go_wp2_with fail
      go_ret
      rw [hfin.out]; exact ⟨rfl, rfl⟩
    · have h20' : ¬ (20 : Int) < s.size := by omega
      have hcl := cls_lit s[0].toNat s[0].toNat_lt s[0].toNat_lt
      have h256 : (s[0].toNat : Int) < 256 := by have := s[0].toNat_lt; omega
      cases hc : letterI (s[0].toNat : Int) with
      | false =>
        have h97 : (clsI (s[0].toNat : Int) != 97) = true := by
          have := cls_letter (s[0].toNat : Int); rw [hc] at this; simpa using this
        have hfin := Lib.hid (show nameV s.data.toList = false by
          unfold nameV; rw [head_letter hz, hc]; simp)
        clear hl R hc
        go_enter Tryd.func19, Tryd.ntmps19
        go_wp2_with fail
        go_ret
        rw [hfin.out]; exact ⟨rfl, rfl⟩
      | true =>
        have h97 : (clsI (s[0].toNat : Int) != 97) = false := by
          have := cls_letter (s[0].toNat : Int); rw [hc] at this; simpa using this
        obtain ⟨b, hb⟩ : ∃ b, ((runN namingC s.data.toList : Int) == (s.size : Int)) = b := ⟨_, rfl⟩
        have hfin := Lib.hid (show nameV s.data.toList = b by
          have h1 := runN_all namingC s.data.toList
          rw [naming_eq] at h1
          unfold nameV; rw [head_letter hz, hc, hl, decide_eq_true (by omega), ← h1, ← hb, hl]
          by_cases e : runN namingC s.data.toList = s.size
          · simp [e]
          · simp [e]; omega)
        clear hl hc
        go_enter Tryd.func19, Tryd.ntmps19
        go_wp2_with fail
        refine (R.out _).mono ?_
        rintro e w1 ⟨rfl, rfl⟩
        go_wp2_with fail
        go_ret
        rw [hfin.out]; exact ⟨rfl, rfl⟩
  · have hem : s.toList.isEmpty = true := by simpa using (w_nil s).2 (by omega)
    have hfin := Lib.hid (show nameV s.data.toList = false by rw [data_nil hz]; rfl)
    clear hl R
    go_enter Tryd.func19, Tryd.ntmps19
    go_wp2_with fail
    go_ret
    rw [hfin.out]; exact ⟨rfl, rfl⟩

theorem only_zero {s : ByteArray} (h : 0 < s.size) (h0 : ((s[0].toNat : Int) == 48) = true) : (s.toList == [48]) = decide (s.size = 1) := by
  have e := head_byte s h
  have e0 : s[0] = 48 := UInt8.toNat_inj.1 (by rw [beq_iff_eq] at h0; have : (48 : UInt8).toNat = 48 := rfl; omega)
  rw [e0] at e
  rw [Lib.toList_data]
  by_cases h1 : s.size = 1
  · have : s.data.toList.drop 1 = [] := List.drop_of_length_le (by simp; omega)
    rw [e, this]; simp [h1]
  · rw [decide_eq_false h1, beq_eq_false_iff_ne]
    intro x
    have := congrArg List.length x
    simp at this; omega
theorem digit_sub {c : UInt8} (h : digitI (c.toNat : Int) = true) : IntKind.u8.wrap ((c.toNat : Int) - 48) = (c.toNat : Int) - 48 ∧ 0 ≤ (c.toNat : Int) - 48 ∧ (c.toNat : Int) - 48 ≤ 9 := by
  have hd : 48 ≤ (c.toNat : Int) ∧ (c.toNat : Int) ≤ 57 := by simpa [digitI] using h
  obtain ⟨d1, d2⟩ := hd
  refine ⟨?_, by omega, by omega⟩
  obtain ⟨m, hm⟩ : ∃ m : Nat, (c.toNat : Int) - 48 = m ∧ m ≤ 9 := ⟨c.toNat - 48, by omega, by omega⟩
  rw [hm.1]
  have : m = 0 ∨ m = 1 ∨ m = 2 ∨ m = 3 ∨ m = 4 ∨ m = 5 ∨ m = 6 ∨ m = 7 ∨ m = 8 ∨ m = 9 := by omega
  rcases this with rfl | rfl | rfl | rfl | rfl | rfl | rfl | rfl | rfl | rfl <;> decide

set_option maxRecDepth 100000 in
set_option maxHeartbeats 2000000 in
theorem wnumber_any (s : ByteArray) (w : World) (hs : s.size ≤ maxLen) : Calls Tryd.prog 17 #[.string s] w fun e w' => e = .returned (numRes (numberV s.data.toList)) ∧ w = w' := by
  unfold maxLen at hs
  by_cases hz : 0 < s.size
  · have hem := ne_empty hz
    by_cases hb : ((s[0].toNat : Int) == 48) = true ∧ 1 < s.size
    · obtain ⟨h0, h1⟩ := hb
      have hq : (s.toList == [48]) = false := by rw [only_zero hz h0]; exact decide_eq_false (by omega)
      have hfin := Lib.hid (numberV_zero hz h0 h1)
      go_enter Tryd.func17, Tryd.ntmps17
      go_wp2_with fail
      go_ret2
      rw [hfin.out]; exact ⟨rfl, rfl⟩
    · obtain ⟨q, hq⟩ : ∃ q, numberV s.data.toList = q := ⟨_, rfl⟩
      have hg := Lib.hid (show numG 0 s.data.toList = q by
        rw [← hq, numberV_digits hz]
        by_cases x : ((s[0].toNat : Int) == 48) = true
        · exact .inr (fun y => hb ⟨x, y⟩)
        · left; simpa using x)
      rw [hq]
      clear hq
      have part : (((s[0].toNat : Int) == 48) = true ∧ (s.toList == [48]) = true) ∨ ((s[0].toNat : Int) == 48) = false := by
        by_cases x : ((s[0].toNat : Int) == 48) = true
        · left; exact ⟨x, by rw [only_zero hz x]; exact decide_eq_true (by have : ¬ 1 < s.size := fun y => hb ⟨x, y⟩; omega)⟩
        · right; simpa using x
      clear hb
      rcases part with ⟨h0, h1⟩ | h0
      all_goals
        go_enter Tryd.func17, Tryd.ntmps17
        go_wp2_with fail
        go_loop [4, 19] (fun x i => ∃ (k : Nat) (n : Int), k ≤ s.size ∧ 0 ≤ n ∧ n ≤ 1099511627776 ∧ x = .int .i64 n ∧ i = .int .i64 k ∧ Hid (numG n (s.data.toList.drop k) = q)) (fun _ i => s.size - (intOf i).toNat)
        case atStart => exact ⟨0, 0, by omega, by omega, by omega, rfl, rfl, hg⟩
        case round =>
          obtain ⟨k, n, hk, n0, n1, rfl, rfl, hgk⟩ := hrel
          by_cases hlt : k < s.size
          · have hcl := cls_lit s[k].toNat s[k].toNat_lt s[k].toNat_lt
            have h256 : (s[k].toNat : Int) < 256 := by have := s[k].toNat_lt; omega
            have hst := Lib.hid (show (if digitI (s[k].toNat : Int) = true then (if 1099511627776 < 10 * n + ((s[k].toNat : Int) - 48) then none else numG (10 * n + ((s[k].toNat : Int) - 48)) (s.data.toList.drop (k + 1))) else none) = q by
              rw [← hgk.out, w_drop s k hlt]; rfl)
            clear hgk
            by_cases hd : digitI (s[k].toNat : Int) = true
            · have h48 : (clsI (s[k].toNat : Int) != 48) = false := by
                have := cls_digit (s[k].toNat : Int); rw [hd] at this; simpa using this
              obtain ⟨hw8, d1, d2⟩ := digit_sub hd
              by_cases hbig : 1099511627776 < 10 * n + ((s[k].toNat : Int) - 48)
              · have hbig' : 1099511627776 < n * 10 + ((s[k].toNat : Int) - 48) := by omega
                have hfin := Lib.hid (show q = none by rw [← hst.out, if_pos hd, if_pos hbig])
                clear hst hd hbig
                go_wp2_with fail
                go_ret2
                rw [hfin.out]; exact ⟨rfl, rfl⟩
              · have hbig' : ¬ 1099511627776 < n * 10 + ((s[k].toNat : Int) - 48) := by omega
                have hnew := Lib.hid (show numG (n * 10 + ((s[k].toNat : Int) - 48)) (s.data.toList.drop (k + 1)) = q by rw [← hst.out, if_pos hd, if_neg hbig, Int.mul_comm])
                clear hst hd hbig
                go_wp2_with fail
                go_round
                case rel => exact ⟨k + 1, _, by omega, by omega, by omega, rfl, by go_num, hnew⟩
                case measure => simp [intOf]; omega
            · have h48 : (clsI (s[k].toNat : Int) != 48) = true := by
                have := cls_digit (s[k].toNat : Int); rw [show digitI (s[k].toNat : Int) = false by simpa using hd] at this; simpa using this
              have hfin := Lib.hid (show q = none by rw [← hst.out, if_neg hd])
              clear hst hd
              go_wp2_with fail
              go_ret2
              rw [hfin.out]; exact ⟨rfl, rfl⟩
          · have hfin := Lib.hid (show q = some n by rw [← hgk.out, List.drop_of_length_le (by simp; omega)]; rfl)
            clear hgk
            go_wp2_with fail
            go_ret2
            rw [hfin.out]; exact ⟨rfl, rfl⟩
  · have hem : s.toList.isEmpty = true := by simpa using (w_nil s).2 (by omega)
    have hfin := Lib.hid (numberV_nil hz)
    go_enter Tryd.func17, Tryd.ntmps17
    go_wp2_with fail
    go_ret2
    rw [hfin.out]; exact ⟨rfl, rfl⟩

theorem pre_45 (l : List UInt8) : Lib.hasPrefix l (⟨#[45]⟩ : ByteArray).data.toList = decide (l.head? = some 45) := by
  cases l with
  | nil => rfl
  | cons c t =>
    simp [Lib.hasPrefix, List.isPrefixOf]
    by_cases h : c = 45
    · subst h; rfl
    · simp [h]; exact fun e => h e.symm
theorem trim_45 (l : List UInt8) : Lib.trimPrefix l (⟨#[45]⟩ : ByteArray).data.toList = if l.head? = some 45 then l.drop 1 else l := by
  unfold Lib.trimPrefix
  rw [pre_45]
  by_cases h : l.head? = some 45 <;> simp [h]

set_option maxRecDepth 100000 in
set_option maxHeartbeats 2000000 in
theorem wsigned_any (s : ByteArray) (w : World) (hs : s.size ≤ maxLen) : Calls Tryd.prog 21 #[.string s] w fun e w' => e = .returned (signedRes s.data.toList) ∧ w = w' := by
  have P := Lib.hid (fun W => Tryd.strings_CutPrefix s ⟨#[45]⟩ W)
  have hl : s.data.toList.length = s.size := by simp
  rw [pre_45, trim_45] at P
  by_cases h : s.data.toList.head? = some 45
  · rw [if_pos h, decide_eq_true h] at P
    have N := Lib.hid (fun W => wnumber_any ⟨(s.data.toList.drop 1).toArray⟩ W (by show (s.data.toList.drop 1).toArray.size ≤ _; simp; omega))
    have hres := Lib.hid (show signedRes s.data.toList = _ by unfold signedRes; rw [if_pos h])
    clear h hl hs
    rw [hres.out]
    clear hres
    generalize (s.data.toList.drop 1) = d at *
    change Hid (∀ W, Calls Tryd.prog 17 #[.string ⟨d.toArray⟩] W fun e w' => e = .returned (numRes (numberV d)) ∧ W = w') at N
    cases hv : numberV d with
    | none =>
      rw [hv] at N
      have N3 := Lib.hid (fun W => show Calls Tryd.prog 17 #[.string ⟨d.toArray⟩] W fun e w' => e = .returned (.tuple #[.int .i64 0, .bool false]) ∧ W = w' from N.out W)
      clear N hv
      go_enter Tryd.func21, Tryd.ntmps21
      go_wp2_with fail
      refine (P.out _).mono ?_
      rintro e w1 ⟨rfl, rfl⟩
      go_wp2_with fail
      refine (N3.out _).mono ?_
      rintro e w1 ⟨rfl, rfl⟩
      go_wp2_with fail
      go_ret2
      exact ⟨rfl, rfl⟩
    | some n =>
      obtain ⟨b0, b1⟩ := numberV_bds hv
      rw [hv] at N
      have N3 := Lib.hid (fun W => show Calls Tryd.prog 17 #[.string ⟨d.toArray⟩] W fun e w' => e = .returned (.tuple #[.int .i64 n, .bool true]) ∧ W = w' from N.out W)
      clear N hv
      go_enter Tryd.func21, Tryd.ntmps21
      go_wp2_with fail
      refine (P.out _).mono ?_
      rintro e w1 ⟨rfl, rfl⟩
      go_wp2_with fail
      refine (N3.out _).mono ?_
      rintro e w1 ⟨rfl, rfl⟩
      go_wp2_with fail
      go_ret2
      exact ⟨rfl, rfl⟩
  · rw [if_neg h, decide_eq_false h] at P
    have N := Lib.hid (fun W => wnumber_any s W hs)
    have hres := Lib.hid (show signedRes s.data.toList = numRes (numberV s.data.toList) by unfold signedRes; rw [if_neg h])
    rw [hres.out]
    clear hres h hl hs
    change Hid (∀ W, Calls Tryd.prog 45 #[.string s, .string ⟨#[45]⟩] W fun e w' => e = .returned (.tuple #[.string s, .bool false]) ∧ w' = W) at P
    generalize numberV s.data.toList = q at *
    have N3 : ∃ a b, numRes q = .tuple #[.int .i64 a, .bool b] := by
      cases q with
      | none => exact ⟨0, false, rfl⟩
      | some n => exact ⟨n, true, rfl⟩
    obtain ⟨a, b, hab⟩ := N3
    rw [hab] at N ⊢
    clear hab
    go_enter Tryd.func21, Tryd.ntmps21
    go_wp2_with fail
    refine (P.out _).mono ?_
    rintro e w1 ⟨rfl, rfl⟩
    go_wp2_with fail
    refine (N.out _).mono ?_
    rintro e w1 ⟨rfl, rfl⟩
    go_wp2_with fail
    go_ret2
    exact ⟨rfl, rfl⟩

end Go.Proofs.YtdjkgnganbeonaaDoor
