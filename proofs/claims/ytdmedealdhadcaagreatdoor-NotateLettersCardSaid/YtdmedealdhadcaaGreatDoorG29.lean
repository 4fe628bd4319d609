/- The value of a letter, of the program. NotateLetters: letters of values. -/
import Derived.Test.YtdmedealdhadcaaGreatDoorG05
import Derived.Test.YtdmedealdhadcaaGreatDoorG28

namespace Go.Proofs.YtdmedealdhadcaaGreatDoor
open Go.RowKit
theorem val_ix : ∀ n ∈ List.range 256, (Lib.indexByte letL n.toUInt8 < 0 ∧ valC n.toUInt8 = 0) ∨ (0 ≤ Lib.indexByte letL n.toUInt8 ∧ Lib.indexByte letL n.toUInt8 < 8 ∧ valC n.toUInt8 = 1 + Lib.indexByte letL n.toUInt8) := by decide +kernel
theorem val_at (c : UInt8) : (Lib.indexByte letL c < 0 ∧ valC c = 0) ∨ (0 ≤ Lib.indexByte letL c ∧ Lib.indexByte letL c < 8 ∧ valC c = 1 + Lib.indexByte letL c) := by
  have h := val_ix c.toNat (List.mem_range.2 c.toNat_lt)
  rwa [show c.toNat.toUInt8 = c from UInt8.ofNat_toNat] at h
theorem lv_long {l : List UInt8} (h : l.length ≠ 1) : lvRes l = .tuple #[.int .i64 0, .int .i64 3] :=
  val_miss fun n _ e => h (by rw [e]; rfl)
set_option maxRecDepth 100000 in
set_option maxHeartbeats 4000000 in
theorem pvalue_any (s : ByteArray) (hs : s.size ≤ 1000000) (w : World) : Calls Tryz.prog 23 #[.string s] w fun e w' => e = .returned (lvRes s.data.toList) ∧ w = w' := by
  have hsz : s.size = s.data.toList.length := by rw [← ByteArray.size_data]; simp
  by_cases h1 : s.size = 1
  · obtain ⟨c, hc⟩ : ∃ c, s.data.toList = [c] := List.length_eq_one_iff.1 (hsz ▸ h1)
    obtain rfl : s = ⟨#[c]⟩ := by
      obtain ⟨d⟩ := s
      have : d = #[c] := Array.toList_inj.1 hc
      rw [this]
    have IB := Lib.hid (fun V => Tryz.strings_IndexByte ⟨#[88, 76, 66, 83, 77, 81, 70, 90]⟩ (c.toNat : Int) V)
    have ht : ((c.toNat : Int)).toNat.toUInt8 = c := by rw [Int.toNat_natCast]; exact UInt8.ofNat_toNat
    rw [ht] at IB
    have hv := Lib.hid (val_at c)
    change Hid ((Lib.indexByte [88, 76, 66, 83, 77, 81, 70, 90] c < 0 ∧ _) ∨ (0 ≤ Lib.indexByte [88, 76, 66, 83, 77, 81, 70, 90] c ∧ Lib.indexByte [88, 76, 66, 83, 77, 81, 70, 90] c < 8 ∧ _ = 1 + Lib.indexByte [88, 76, 66, 83, 77, 81, 70, 90] c)) at hv
    change Hid (∀ V, Calls _ _ _ V fun e w' => e = .returned (.int .i64 (Lib.indexByte [88, 76, 66, 83, 77, 81, 70, 90] c)) ∧ w' = V) at IB
    have hR := Lib.hid (show lvRes [c] = .tuple #[.int .i64 (valC c), .int .i64 (if valC c = 0 then 3 else 0)] from rfl)
    change Calls _ _ _ _ fun e w' => e = .returned (lvRes [c]) ∧ w = w'
    generalize lvRes [c] = R at *
    generalize Lib.indexByte [88, 76, 66, 83, 77, 81, 70, 90] c = z at *
    rcases hv.out with ⟨x, y⟩ | ⟨x1, x2, y⟩
    · have fin := Lib.hid (show R = .tuple #[.int .i64 0, .int .i64 3] by rw [hR.out, y]; rfl)
      clear hv hR y ht hsz hc h1
      go_enter Tryz.func23, Tryz.ntmps23
      go_wp2_with fail
      refine (IB.out _).mono ?_
      rintro e w2 ⟨rfl, rfl⟩
      go_wp2_with fail
      refine bodyPost_ret (v := .tuple #[.int .i64 0, .int .i64 3]) (by simp [results, Tryz.results23, go_sem]) rfl ⟨by rw [fin.out], rfl⟩
    · have fin := Lib.hid (show R = .tuple #[.int .i64 (1 + z), .int .i64 0] by rw [hR.out, y, if_neg (by omega)])
      have hx : ¬ z < 0 := by omega
      have hw : IntKind.i64.wrap (1 + z) = 1 + z := IntWalk.i64_in _ (by omega)
      clear hv hR y ht hsz hc h1
      go_enter Tryz.func23, Tryz.ntmps23
      go_wp2_with fail
      refine (IB.out _).mono ?_
      rintro e w2 ⟨rfl, rfl⟩
      go_wp2_with fail
      refine bodyPost_ret (v := .tuple #[.int .i64 (1 + z), .int .i64 0]) (by simp [results, Tryz.results23, go_sem]) rfl ⟨by rw [fin.out], rfl⟩
  · have fin := Lib.hid (lv_long (l := s.data.toList) (by omega))
    have hne : ((s.size : Int) != 1) = true := by simp; omega
    generalize lvRes s.data.toList = R at *
    clear hsz
    go_enter Tryz.func23, Tryz.ntmps23
    go_wp2_with fail
    refine bodyPost_ret (v := .tuple #[.int .i64 0, .int .i64 3]) (by simp [results, Tryz.results23, go_sem]) rfl ⟨by rw [fin.out], rfl⟩
end Go.Proofs.YtdmedealdhadcaaGreatDoor

namespace Go.Proofs.YtdmedealdhadcaaGreatDoor
open Go.RowKit
set_option maxRecDepth 100000 in
set_option maxHeartbeats 4000000 in
theorem lletters_any (v : Int) (s : ByteArray) (w : World) (T : TabN w) : Calls Tryz.prog 6 #[.int .i64 v, .string s] w fun e w' => e = .returned (.bool true) ∧ Below w.heap.size w w' := by
  have AW := Lib.hid (awake_any w T)
  by_cases hs : s.size ≤ 300
  · have hs' : ¬ ((300 : Int) < s.size) := by omega
    have P1 := Lib.hid (fun V => plet_any v V)
    have P2 := Lib.hid (fun V => rlet_any v V)
    have P3 := Lib.hid (fun V => pvalue_any s (by omega) V)
    have P4 := Lib.hid (fun V => rval_any s V)
    unfold letRes at P1 P2
    unfold lvRes at P3 P4
    have hse : ∀ b : ByteArray, (b.toList == b.toList) = true := fun b => by simp
    clear T
    generalize lvV s.data.toList = z1 at *
    generalize lvE s.data.toList = z2 at *
    generalize letE v = z3 at *
    generalize bytes (letV v) = z4 at *
    have hz := hse z4
    have e1 : (z1 == z1) = true := by simp
    have e2 : (z2 == z2) = true := by simp
    have e3 : (z3 == z3) = true := by simp
    clear hse
    go_enter Tryz.func6, Tryz.ntmps6
    go_wp2_with fail
    refine (P1.out _).mono ?_
    rintro e w1 ⟨rfl, rfl⟩
    go_wp2_with fail
    refine (P2.out _).mono ?_
    rintro e w1 ⟨rfl, rfl⟩
    go_wp2_with fail
    refine (P3.out _).mono ?_
    rintro e w1 ⟨rfl, rfl⟩
    go_wp2_with fail
    refine (P4.out _).mono ?_
    rintro e w1 ⟨rfl, rfl⟩
    go_wp2_with fail
    refine AW.out.mono ?_
    rintro e w1 ⟨rfl, hb⟩
    have HB := Lib.hid hb
    clear hb AW P1 P2 P3 P4
    go_wp2_with fail
    go_ret
    exact ⟨rfl, HB.out⟩
  · have hs' : (300 : Int) < s.size := by omega
    clear T
    go_enter Tryz.func6, Tryz.ntmps6
    go_wp2_with fail
    refine AW.out.mono ?_
    rintro e w1 ⟨rfl, hb⟩
    have HB := Lib.hid hb
    clear hb AW
    go_wp2_with fail
    go_ret
    exact ⟨rfl, HB.out⟩
end Go.Proofs.YtdmedealdhadcaaGreatDoor
