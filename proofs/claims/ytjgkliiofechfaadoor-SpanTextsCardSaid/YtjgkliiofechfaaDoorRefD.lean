/- The reference's digits and Text: for every number, for every time. -/
import Derived.Test.YtjgkliiofechfaaDoorRefW
import Derived.Test.YtjgkliiofechfaaDoorAwake
namespace Go.Proofs.YtjgkliiofechfaaDoor
open Go.RowKit

def emptyOf : Value → Nat
  | .string s => if s.size = 0 then 1 else 0
  | _ => 0

/-- The digits behind what is still to be divided. -/
def DigS (n cur : Nat) (l : List UInt8) : Prop := (l = [] ∧ cur = n) ∨ (l ≠ [] ∧ (cur = 0 → l = Lib.decDigits n) ∧ (0 < cur → Lib.decDigits cur ++ l = Lib.decDigits n))

theorem digS_step {n cur : Nat} {l : List UInt8} (h : DigS n cur l) (hc : 0 < cur ∨ l = []) : DigS n (cur / 10) (UInt8.ofNat (48 + cur % 10) :: l) := by
  right
  refine ⟨by simp, ?_, ?_⟩
  · intro h0
    have hlt : cur < 10 := by omega
    have e : cur % 10 = cur := Nat.mod_eq_of_lt hlt
    rcases h with ⟨rfl, rfl⟩ | ⟨h1, h2, h3⟩
    · rw [dig_small hlt, e]
    · rw [← h3 (by rcases hc with x | x; exact x; exact absurd x h1), dig_small hlt, e]; rfl
  · intro h0
    have hge : ¬ cur < 10 := by omega
    rcases h with ⟨rfl, rfl⟩ | ⟨h1, h2, h3⟩
    · rw [dig_big hge]
    · rw [← h3 (by omega), dig_big hge]; simp

theorem byte_add (k : Nat) : (48 : UInt8) + UInt8.ofNat k = UInt8.ofNat (48 + k) := by
  rw [UInt8.ofNat_add]; rfl

theorem app_size (c : UInt8) (sb : ByteArray) : ((⟨#[c]⟩ : ByteArray) ++ sb).size = sb.size + 1 := by
  rw [ByteArray.size_append, Nat.add_comm]; rfl
theorem app_list (c : UInt8) (sb : ByteArray) : ((⟨#[c]⟩ : ByteArray) ++ sb).data.toList = c :: sb.data.toList := by
  simp [ByteArray.data_append]

theorem digS_next {n cur : Nat} {sb : ByteArray} (h : DigS n cur sb.data.toList) (hc : 0 < cur ∨ sb.data.toList = []) : DigS n (cur / 10) ((⟨#[48 + UInt8.ofNat (cur % 10)]⟩ : ByteArray) ++ sb).data.toList := by
  rw [app_list, byte_add]; exact digS_step h hc
theorem pow_next {n cur : Nat} {sb : ByteArray} {c : UInt8} (h : cur * 10 ^ sb.size ≤ n) : cur / 10 * 10 ^ ((⟨#[c]⟩ : ByteArray) ++ sb).size ≤ n := by
  rw [app_size, Nat.pow_succ, Nat.mul_comm (10 ^ sb.size) 10, ← Nat.mul_assoc]
  exact Nat.le_trans (Nat.mul_le_mul_right _ (by omega)) h
theorem empty_next (c : UInt8) (sb : ByteArray) : emptyOf (.string ((⟨#[c]⟩ : ByteArray) ++ sb)) = 0 := by
  show (if ((⟨#[c]⟩ : ByteArray) ++ sb).size = 0 then 1 else 0) = 0
  rw [if_neg]; rw [app_size]; omega

/-- One byte made into a string. -/
theorem conv_byte (w : World) (v : Int) : (convert 70 9 (.slice (some ⟨w.heap.size, 0, none⟩) 1 1)).run Tryd.prog (w.alloc (.cells #[.int .u8 v] 5)) =
    .ok (.string ⟨#[UInt8.ofNat v.toNat]⟩) (w.alloc (.cells #[.int .u8 v] 5)) := by
  rw [run_convert_bytes_string _ _ _ 5 _ _ _ Tryd.underlying70 Tryd.underlying5 Tryd.underlying9]
  rw [run_bytesToString _ _ _ _ [v] (by simp [go_sem, loadCells])]
  rfl

set_option maxHeartbeats 1000000 in
theorem digits_any (n : Nat) (w : World) (hn : n ≤ 1099511627776) : Calls Tryd.prog 55 #[.int .i64 n] w fun e w' => e = .returned (.string (digB n)) ∧ Below w.heap.size w w' := by
  go_enter Tryd.func55, Tryd.ntmps55
  go_wp2_with fail
  go_loopw [0, 3] (fun x o wr => ∃ (cur : Nat) (sb : ByteArray), cur ≤ n ∧ x = .int .i64 cur ∧ o = .string sb ∧ sb.size ≤ 100 ∧ Hid (Below w.heap.size w wr) ∧ Hid (DigS n cur sb.data.toList) ∧ Hid (cur * 10 ^ sb.size ≤ n)) (fun x o _ => (intOf x).toNat + emptyOf o)
  case atStart => exact ⟨n, ⟨#[]⟩, by omega, rfl, rfl, by decide, Lib.hid (br w), Lib.hid (.inl ⟨rfl, rfl⟩), Lib.hid (Nat.le_of_eq (by rw [show (⟨#[]⟩ : ByteArray).size = 0 from rfl, Nat.pow_zero, Nat.mul_one]))⟩
  case round =>
    obtain ⟨cur, sb, hcur, rfl, rfl, hsz, hb, hd, hm⟩ := hrel
    by_cases hpos : 0 < cur
    · have hsz2 : sb.size ≤ 13 := by
        apply Classical.byContradiction
        intro hx
        have h1 : 10 ^ 14 ≤ 10 ^ sb.size := Nat.pow_le_pow_right (by omega) (by omega)
        have h2 : 10 ^ sb.size ≤ cur * 10 ^ sb.size := Nat.le_mul_of_pos_left _ hpos
        have h3 := hm.out
        omega
      have hconv := conv_byte wr (48 + (cur : Int) % 10)
      go_wp2_with fail
      go_roundw
      case rel => exact ⟨cur / 10, _, by omega, by simp, rfl, by rw [app_size]; omega, Lib.hid (ba hb.out _), Lib.hid (digS_next hd.out (.inl hpos)), Lib.hid (pow_next hm.out)⟩
      case measure => rw [empty_next]; simp [intOf]; omega
    · obtain rfl : cur = 0 := by omega
      by_cases hem : sb.size = 0
      · have hl : sb.data.toList = [] := List.length_eq_zero_iff.1 (by simpa using hem)
        have hl1 : sb.toList = [] := by rw [toList_data, hl]
        have hl2 := Lib.hid hl
        have hconv := conv_byte wr 48
        have hem2 := Lib.hid hem
        have hst := Lib.hid (digS_next hd.out (.inr hl2.out))
        clear hl hem
        go_wp2_with fail
        go_roundw
        case rel => exact ⟨0, _, by omega, rfl, rfl, by have := hem2.out; rw [app_size]; omega, Lib.hid (ba hb.out _), hst, Lib.hid (by simp)⟩
        case measure =>
          rw [empty_next]
          show _ < _ + (if sb.size = 0 then 1 else 0)
          rw [if_pos hem2.out]; simp [intOf]
      · have hl1 : ¬ sb.toList = [] := by
          intro h
          rw [toList_data] at h
          exact hem (by have := congrArg List.length h; simpa using this)
        have hl2 : sb.toList.isEmpty = false := by simpa using hl1
        have hfin := Lib.hid (show sb = digB n by
          rcases hd.out with ⟨h, _⟩ | ⟨_, h, _⟩
          · exact absurd (by rw [toList_data]; exact h) hl1
          · apply ByteArray.ext
            apply Array.ext'
            rw [h rfl]; simp [digB])
        clear hem hd hm
        go_wp2_with fail
        go_ret
        rw [← hfin.out]; exact ⟨rfl, hb.out⟩

theorem digits_int (n : Int) (w : World) (h0 : 0 ≤ n) (h1 : n ≤ 1099511627776) : Calls Tryd.prog 55 #[.int .i64 n] w fun e w' => e = .returned (.string (digB n)) ∧ Below w.heap.size w w' := by
  obtain ⟨k, rfl⟩ := Int.eq_ofNat_of_zero_le h0
  exact digits_any k w (by omega)

set_option maxHeartbeats 2000000 in
theorem rtext_any (n d : Int) (w : World) :
    Calls Tryd.prog 35 #[tv n d] w fun e w' => e = .returned (.tuple #[.string (textR n d), .int .i64 (chk n d)]) ∧ Below w.heap.size w w' := by
  have C := Lib.hid (fun W => rcheck_any n d W)
  by_cases h : chk n d = 0
  · have v := valid_of_chk h
    have n0 := v.n0
    have n1 := v.n1
    have d0 := v.d0
    have d1 := v.d1
    have hr := Lib.hid (show textR n d = textB n d by unfold textR; rw [if_pos h])
    rw [h] at C
    have z1 := digB_size n n1
    have z2 := digB_size d (by omega)
    have T1 := Lib.hid (fun W => digits_int n W n0 n1)
    have T2 := Lib.hid (fun W => digits_int d W (by omega) (by omega))
    have H := Lib.hid h
    have zA : ¬ 9223372036854775807 < (digB n).size + 1 := by omega
    have zB : ¬ 9223372036854775807 < (digB n).size + 1 + (digB d).size := by omega
    have zC : ¬ (digB n).size + 1 > 9223372036854775807 := by omega
    have zD : (digB n).size + 1 ≤ 9223372036854775807 := by omega
    have zE : (digB n).size + 1 + (digB d).size ≤ 9223372036854775807 := by omega
    clear v h
    by_cases k : d = 1
    · have ht2 := Lib.hid (textB_one (n := n) (d := d) (by omega))
      have k1 : (d == 1) = true := by simp [k]
      clear k
      go_enter Tryd.func35, Tryd.ntmps35
      go_wp2_with fail
      refine (C.out _).mono ?_
      rintro e w1 ⟨rfl, hb1⟩
      have X1 := Lib.hid ((Own2.made w n d 23).later hb1)
      have B1 := Lib.hid (bl (ba (br w) (.cells #[.int .i64 n, .int .i64 d] 23)) hb1)
      clear hb1
      obtain ⟨_, x0, x1, _, _⟩ := X1.out
      go_wp2_with fail
      refine (T1.out _).mono ?_
      rintro e w2 ⟨rfl, hb2⟩
      have B2 := Lib.hid (bl B1.out hb2)
      clear hb2 x0 x1 X1 B1
      go_wp2_with fail
      go_ret2
      rw [hr.out, ht2.out, H.out]
      exact ⟨rfl, B2.out⟩
    · have ht2 := Lib.hid (textB_two' (n := n) (d := d) (by omega))
      have k1 : (d == 1) = false := by simp [k]
      clear k
      go_enter Tryd.func35, Tryd.ntmps35
      go_wp2_with fail
      refine (C.out _).mono ?_
      rintro e w1 ⟨rfl, hb1⟩
      have X1 := Lib.hid ((Own2.made w n d 23).later hb1)
      have B1 := Lib.hid (bl (ba (br w) (.cells #[.int .i64 n, .int .i64 d] 23)) hb1)
      clear hb1
      obtain ⟨_, x0, x1, _, _⟩ := X1.out
      go_wp2_with fail
      go_region_held3 (fun w' => w'.cell? ⟨w.heap.size, 0, none⟩ = some (.int .i64 n) ∧ w'.cell? ⟨w.heap.size, 1, none⟩ = some (.int .i64 d) ∧ Below w.heap.size w w')
        (first
          | exact ⟨x0, x1, B1.out.drew⟩
          | (go_split_ands
             exact ⟨cell_keep hbx ‹_›, cell_keep hbx ‹_›, bl ‹_› hbx⟩))
        (first
          | (go_at_call 55; ((first | (with_reducible refine (T1.out _).mono ?_) | (with_reducible refine (T2.out _).mono ?_)); rintro e wx ⟨rfl, hbx⟩)))
      go_goals
      go_split_ands
      have hend : Below w.heap.size w wx := by assumption
      go_wp2_with fail
      go_ret2
      rw [hr.out, ht2.out, H.out]
      exact ⟨rfl, hend⟩
  · have hr := Lib.hid (show textR n d = ⟨#[]⟩ by unfold textR; rw [if_neg h])
    have hne : (chk n d != 0) = true := by simp [h]
    clear h
    go_enter Tryd.func35, Tryd.ntmps35
    go_wp2_with fail
    refine (C.out _).mono ?_
    rintro e w1 ⟨rfl, hb1⟩
    have B1 := Lib.hid (bl (ba (br w) (.cells #[.int .i64 n, .int .i64 d] 23)) hb1)
    clear hb1
    go_wp2_with fail
    go_ret2
    rw [hr.out]
    exact ⟨rfl, B1.out⟩

end Go.Proofs.YtjgkliiofechfaaDoor
