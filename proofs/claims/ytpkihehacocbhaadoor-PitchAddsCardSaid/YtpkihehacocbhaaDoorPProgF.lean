/- The program's Alter of a sign. -/
import Derived.Test.YtpkihehacocbhaaDoorPProgE
namespace Go.Proofs.YtpkihehacocbhaaDoor
open Go.RowKit

/-- The Alter of a sign, or 2. -/
def altV (g : ByteArray) : Int := if g = ⟨#[98]⟩ then -1 else if g = ⟨#[]⟩ then 0 else if g = ⟨#[35]⟩ then 1 else 2
theorem alt_at {g : ByteArray} {k : Int} (h1 : -1 ≤ k) (h2 : k ≤ 1) (h : signB k = g) : altV g = k := by
  have : k = -1 ∨ k = 0 ∨ k = 1 := by omega
  rcases this with rfl | rfl | rfl <;> subst h <;> decide
theorem alt_no {g : ByteArray} (h : ∀ k : Int, -1 ≤ k → k < 2 → signB k ≠ g) : altV g = 2 := by
  have a := h (-1) (by omega) (by omega)
  have b := h 0 (by omega) (by omega)
  have c := h 1 (by omega) (by omega)
  have a' : ⟨#[98]⟩ ≠ g := a
  have b' : ⟨#[]⟩ ≠ g := b
  have c' : ⟨#[35]⟩ ≠ g := c
  unfold altV
  rw [if_neg (fun e => a' e.symm), if_neg (fun e => b' e.symm), if_neg (fun e => c' e.symm)]

theorem sign_some {g : ByteArray} (h : g ≠ ⟨#[]⟩) : g.toList.isEmpty = false := by
  have hb := beq_no h
  rw [show (⟨#[]⟩ : ByteArray).toList = [] from by decide +kernel] at hb
  cases hg : g.toList with
  | nil => rw [hg] at hb; exact absurd hb (by decide)
  | cons a l => rfl

abbrev spO (l : Int) (g : ByteArray) (d : Int) : Obj := .cells #[.int .u8 l, .string g, .int .u8 d] 51

set_option maxHeartbeats 4000000 in
theorem walter_any (l d : Int) (g : ByteArray) (w : World) (T : Tab w) : Calls Tryd.prog 39 #[.agg #[.int .u8 l, .string g, .int .u8 d]] w fun e w' => e = .returned (.int .i64 (altV g)) ∧ Below w.heap.size w w' := by
  have TH := Lib.hid (T.al (spO l g d))
  have v0 : IntKind.i64.wrap 0 = 0 := by decide
  have v1 : IntKind.i64.wrap 1 = 1 := by decide
  have v2 : IntKind.i64.wrap 2 = 2 := by decide
  have CB := Lib.hid (show (w.alloc (spO l g d)).cell? ⟨w.heap.size, 1, none⟩ = some (.string g) by go_simp)
  clear T
  go_enter Tryd.func39, Tryd.ntmps39
  go_wp2_with fail
  go_loopw [3] (fun i wr => ∃ k : Int, -1 ≤ k ∧ k ≤ 2 ∧ i = .int .i64 k ∧ Hid (Below (w.alloc (spO l g d)).heap.size (w.alloc (spO l g d)) wr) ∧ Hid (∀ k' : Int, -1 ≤ k' → k' < k → signB k' ≠ g)) (fun i _ => (2 - intOf i).toNat)
  case atStart => exact ⟨-1, by omega, by omega, rfl, Lib.hid (w_refl _), Lib.hid (fun k' h1 h2 => by omega)⟩
  case round =>
    obtain ⟨k, hk1, hk2, rfl, hb, hall⟩ := hrel
    have hc : k = -1 ∨ k = 0 ∨ k = 1 ∨ k = 2 := by omega
    have hB := Lib.hid (hb.out.drew)
    have t := TH.out.later hb.out
    have s0 := t.s0
    have s1 := t.s1
    have s2 := t.s2
    have cb := cell_later hb.out CB.out
    clear t hk1 hk2
    have hfin := Lib.hid (w_below (w_alloc (w_refl w) (spO l g d)) hB.out)
    clear hb
    rcases hc with rfl | rfl | rfl | rfl
    · by_cases e : (⟨#[98]⟩ : ByteArray) = g
      · have hv := alt_at (by decide) (by decide) (show signB (-1) = g from e)
        subst e
        go_wp2_with fail
        go_region
        all_goals
          go_wp2_with fail
          go_ret
          exact ⟨by rw [hv]; rfl, hfin.out⟩
      · have hne : (([98] : List UInt8) == g.toList) = false := by rw [← show (⟨#[98]⟩ : ByteArray).toList = [98] from by decide +kernel]; exact beq_no (fun x => e x.symm)
        have hN := Lib.hid (show ∀ k' : Int, -1 ≤ k' → k' < 0 → signB k' ≠ g from fun k' h1 h2 => by
          by_cases e2 : k' = -1
          · rw [e2]; exact e
          · exact hall.out k' h1 (by omega))
        clear hall e
        go_wp2_with fail
        go_region
        all_goals
          go_wp2_with fail
          go_roundw
          case rel => exact ⟨0, by omega, by omega, by go_num, hB, hN⟩
          case measure => simp [intOf]
    · by_cases e : (⟨#[]⟩ : ByteArray) = g
      · have hv := alt_at (by decide) (by decide) (show signB (0) = g from e)
        subst e
        go_wp2_with fail
        go_region
        all_goals
          go_wp2_with fail
          go_ret
          exact ⟨by rw [hv]; rfl, hfin.out⟩
      · have hne := sign_some (fun x => e x.symm)
        have hN := Lib.hid (show ∀ k' : Int, -1 ≤ k' → k' < 1 → signB k' ≠ g from fun k' h1 h2 => by
          by_cases e2 : k' = 0
          · rw [e2]; exact e
          · exact hall.out k' h1 (by omega))
        clear hall e
        go_wp2_with fail
        go_region
        all_goals
          go_wp2_with fail
          go_roundw
          case rel => exact ⟨1, by omega, by omega, by go_num, hB, hN⟩
          case measure => simp [intOf]
    · by_cases e : (⟨#[35]⟩ : ByteArray) = g
      · have hv := alt_at (by decide) (by decide) (show signB (1) = g from e)
        subst e
        go_wp2_with fail
        go_region
        all_goals
          go_wp2_with fail
          go_ret
          exact ⟨by rw [hv]; rfl, hfin.out⟩
      · have hne : (([35] : List UInt8) == g.toList) = false := by rw [← show (⟨#[35]⟩ : ByteArray).toList = [35] from by decide +kernel]; exact beq_no (fun x => e x.symm)
        have hN := Lib.hid (show ∀ k' : Int, -1 ≤ k' → k' < 2 → signB k' ≠ g from fun k' h1 h2 => by
          by_cases e2 : k' = 1
          · rw [e2]; exact e
          · exact hall.out k' h1 (by omega))
        clear hall e
        go_wp2_with fail
        go_region
        all_goals
          go_wp2_with fail
          go_roundw
          case rel => exact ⟨2, by omega, by omega, by go_num, hB, hN⟩
          case measure => simp [intOf]
    · have hv := alt_no hall.out
      clear hall
      go_wp2_with fail
      go_region
      all_goals
        go_wp2_with fail
        go_ret
        exact ⟨by rw [hv]; rfl, hfin.out⟩

end Go.Proofs.YtpkihehacocbhaaDoor
