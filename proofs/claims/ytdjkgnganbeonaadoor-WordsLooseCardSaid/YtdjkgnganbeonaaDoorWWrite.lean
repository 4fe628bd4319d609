/- The reference's written and Text: for every list of rows. -/
import Derived.Test.YtdjkgnganbeonaaDoorWLines
namespace Go.Proofs.YtdjkgnganbeonaaDoor
open Go.RowKit

/-- Can a word be written? -/
def okW (x : Wd) : Bool := if x.quoted = true then x.text.data.toList.all (fun c => insideI c.toNat) else (x.text.data.toList.all (fun c => plainI c.toNat) && decide (0 < x.text.size))
def writtenB (x : Wd) : ByteArray := if x.quoted = true then (⟨#[34]⟩ : ByteArray) ++ x.text ++ ⟨#[34]⟩ else x.text
/-- What written hands back. -/
def writtenR (x : Wd) : ByteArray := if okW x = true then writtenB x else ⟨#[]⟩
def wv (x : Wd) : Value := .agg #[.int .i64 x.at_, .string x.text, .bool x.quoted]

theorem bytes_all (s : ByteArray) (k : Nat) (f : UInt8 → Bool) (h : k < s.size) (ha : (s.data.toList.take k).all f = true) (hk : f s[k] = true) : (s.data.toList.take (k + 1)).all f = true := by
  rw [w_take s k h, List.all_append, ha]; simp [hk]
theorem bytes_not (s : ByteArray) (k : Nat) (f : UInt8 → Bool) (h : k < s.size) (hk : f s[k] = false) : s.data.toList.all f = false := by
  rw [List.all_eq_false]; exact ⟨_, w_mem s k h, by simp [hk]⟩

set_option maxRecDepth 100000 in
set_option maxHeartbeats 2000000 in
theorem rwritten_any (x : Wd) (w : World) (hs : x.text.size ≤ 1000000) : Calls Tryd.prog 40 #[wv x] w fun e w' => e = .returned (.tuple #[.string (writtenR x), .bool (okW x)]) ∧ Below w.heap.size w w' := by
  obtain ⟨a, t, q⟩ := x
  simp only at hs
  show Calls Tryd.prog 40 #[.agg #[.int .i64 a, .string t, .bool q]] w _
  cases q with
  | true =>
    go_enter Tryd.func40, Tryd.ntmps40
    go_wp2_with fail
    go_loop [4] (fun i => ∃ k : Nat, k ≤ t.size ∧ i = .int .i64 k ∧ Hid ((t.data.toList.take k).all (fun c => insideI c.toNat) = true)) (fun i => t.size - (intOf i).toNat)
    case atStart => exact ⟨0, by omega, rfl, Lib.hid (by simp)⟩
    case round =>
      obtain ⟨k, hk, rfl, hall⟩ := hrel
      by_cases hlt : k < t.size
      · by_cases hI : insideI (t[k].toNat : Int) = true
        · have hnew := Lib.hid (bytes_all t k (fun c => insideI c.toNat) hlt hall.out hI)
          clear hall
          go_wp2_with fail
          refine (rinside_c _ _).mono ?_
          rintro e w1 ⟨rfl, rfl⟩
          go_wp2_with fail
          go_round
          case rel => exact ⟨k + 1, by omega, by go_num, hnew⟩
          case measure => simp [intOf]; omega
        · have hI' : insideI (t[k].toNat : Int) = false := by simpa using hI
          have hok := Lib.hid (show okW ⟨a, t, true⟩ = false by unfold okW; exact bytes_not t k _ hlt hI')
          clear hI hall
          go_wp2_with fail
          refine (rinside_c _ _).mono ?_
          rintro e w1 ⟨rfl, rfl⟩
          go_wp2_with fail
          go_ret2
          unfold writtenR
          rw [hok.out]
          exact ⟨rfl, w_alloc (w_refl w) _⟩
      · have hok := Lib.hid (show okW ⟨a, t, true⟩ = true by
          have := hall.out; rw [List.take_of_length_le (by simp; omega)] at this
          unfold okW; exact this)
        have z1 : ¬ 9223372036854775807 < 1 + t.size := by omega
        have z2 : ¬ 9223372036854775807 < 1 + t.size + 1 := by omega
        clear hall
        go_wp2_with fail
        go_ret2
        unfold writtenR
        rw [hok.out]
        exact ⟨rfl, w_alloc (w_refl w) _⟩
  | false =>
    go_enter Tryd.func40, Tryd.ntmps40
    go_wp2_with fail
    go_loop [4] (fun i => ∃ k : Nat, k ≤ t.size ∧ i = .int .i64 k ∧ Hid ((t.data.toList.take k).all (fun c => plainI c.toNat) = true)) (fun i => t.size - (intOf i).toNat)
    case atStart => exact ⟨0, by omega, rfl, Lib.hid (by simp)⟩
    case round =>
      obtain ⟨k, hk, rfl, hall⟩ := hrel
      by_cases hlt : k < t.size
      · by_cases hI : plainI (t[k].toNat : Int) = true
        · have hnew := Lib.hid (bytes_all t k (fun c => plainI c.toNat) hlt hall.out hI)
          clear hall
          go_wp2_with fail
          refine (rplain_c _ _).mono ?_
          rintro e w1 ⟨rfl, rfl⟩
          go_wp2_with fail
          go_round
          case rel => exact ⟨k + 1, by omega, by go_num, hnew⟩
          case measure => simp [intOf]; omega
        · have hI' : plainI (t[k].toNat : Int) = false := by simpa using hI
          have hok := Lib.hid (show okW ⟨a, t, false⟩ = false by
            have := bytes_not t k (fun c => plainI c.toNat) hlt hI'
            unfold okW; simp only [this]; rfl)
          clear hI hall
          go_wp2_with fail
          refine (rplain_c _ _).mono ?_
          rintro e w1 ⟨rfl, rfl⟩
          go_wp2_with fail
          go_ret2
          unfold writtenR
          rw [hok.out]
          exact ⟨rfl, w_alloc (w_refl w) _⟩
      · have hal : t.data.toList.all (fun c => plainI c.toNat) = true := by
          have := hall.out; rwa [List.take_of_length_le (by simp; omega)] at this
        by_cases hz : 0 < t.size
        · have hem : t.toList.isEmpty = false := by
            have : t.toList ≠ [] := fun x => by have := (w_nil t).1 x; omega
            simpa using this
          have hok := Lib.hid (show okW ⟨a, t, false⟩ = true by
            unfold okW; simp only [hal, decide_eq_true hz]; rfl)
          clear hall hal
          go_wp2_with fail
          go_quiet (fail)
          go_wp2_with fail
          go_ret2
          unfold writtenR
          rw [hok.out]
          exact ⟨rfl, below_drewN (w_alloc (w_refl w) _) _⟩
        · have hem : t.toList.isEmpty = true := by simpa using (w_nil t).2 (by omega)
          have hok := Lib.hid (show okW ⟨a, t, false⟩ = false by
            unfold okW; simp only [decide_eq_false hz]; simp)
          have ht := Lib.hid (show t = ⟨#[]⟩ by
            apply ByteArray.ext
            apply Array.ext'
            exact List.length_eq_zero_iff.1 (by have : t.data.toList.length = t.size := by simp
                                                omega))
          clear hall hal
          go_wp2_with fail
          go_quiet (fail)
          go_wp2_with fail
          go_ret2
          unfold writtenR
          rw [hok.out, ← ht.out]
          exact ⟨rfl, below_drewN (w_alloc (w_refl w) _) _⟩

end Go.Proofs.YtdjkgnganbeonaaDoor
