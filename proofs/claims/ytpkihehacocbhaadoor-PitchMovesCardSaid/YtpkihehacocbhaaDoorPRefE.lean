/- The reference's text of a pitch. -/
import Derived.Test.YtpkihehacocbhaaDoorPRefD
namespace Go.Proofs.YtpkihehacocbhaaDoor
open Go.RowKit

theorem letter_cut : ∀ s : Nat, s ≤ 6 → (⟨#[99, 100, 101, 102, 103, 97, 98]⟩ : ByteArray).extract s (s + 1) = ⟨#[letterI s]⟩ := by
  intro s h
  have : s = 0 ∨ s = 1 ∨ s = 2 ∨ s = 3 ∨ s = 4 ∨ s = 5 ∨ s = 6 := by omega
  rcases this with rfl | rfl | rfl | rfl | rfl | rfl | rfl <;> decide +kernel
theorem digit_cut : ∀ o : Nat, o ≤ 8 → (⟨#[48, 49, 50, 51, 52, 53, 54, 55, 56]⟩ : ByteArray).extract o (o + 1) = ⟨#[digI o]⟩ := by
  intro o h
  have : o = 0 ∨ o = 1 ∨ o = 2 ∨ o = 3 ∨ o = 4 ∨ o = 5 ∨ o = 6 ∨ o = 7 ∨ o = 8 := by omega
  rcases this with rfl | rfl | rfl | rfl | rfl | rfl | rfl | rfl | rfl <;> decide +kernel
theorem textV_ok {p : Pi3} (h : okP p) : textV p = (⟨(textL p).toArray⟩, 0) := if_pos h
theorem textV_no {p : Pi3} (h : ¬ okP p) : textV p = (⟨#[]⟩, 2) := if_neg h
def TextPost (p : Pi3) (w : World) (e : Ending) (w' : World) : Prop := e = .returned (.tuple #[.string (textV p).1, .int .i64 (textV p).2]) ∧ Below w.heap.size w w'
theorem TextPost.ok {p : Pi3} {w w' : World} {t : ByteArray} (h : okP p) (ht : t = ⟨(textL p).toArray⟩) (hb : Below w.heap.size w w') : TextPost p w (.returned (.tuple #[.string t, .int .i64 0])) w' := by
  unfold TextPost; rw [textV_ok h, ht]; exact ⟨rfl, hb⟩
theorem TextPost.no {p : Pi3} {w w' : World} (h : ¬ okP p) (hb : Below w.heap.size w w') : TextPost p w (.returned (.tuple #[.string ⟨#[]⟩, .int .i64 2])) w' := by
  unfold TextPost; rw [textV_no h]; exact ⟨rfl, hb⟩
theorem text_parts (s o : Nat) (a : Int) (x : ByteArray) (hx : x.data.toList = accL a) : (⟨#[letterI s]⟩ : ByteArray) ++ x ++ ⟨#[digI o]⟩ = ⟨(textL ((s : Int), (o : Int), a)).toArray⟩ := by
  have e : ∀ (a : ByteArray) (l : List UInt8), a.data.toList = l → a = ⟨l.toArray⟩ := fun a l h => by
    subst h; cases a; simp
  apply e
  simp [hx, textL]

set_option maxHeartbeats 4000000 in
theorem rtext_any (p : Pi3) (w : World) : Calls Tryd.prog 29 #[pv p] w (TextPost p w) := by
  have C := Lib.hid (fun W => rcheck_any p W)
  by_cases h : okP p
  · have hok := Lib.hid (fun w' t ht hb => TextPost.ok (w := w) (w' := w') (t := t) h ht hb)
    rw [chkV_ok h] at C
    obtain ⟨s, o, a⟩ := p
    obtain ⟨⟨h1, h2⟩, ⟨h3, h4⟩, h5, h6⟩ := h
    simp only at h1 h2 h3 h4 h5 h6
    obtain ⟨sn, rfl⟩ := Int.eq_ofNat_of_zero_le h1
    obtain ⟨on, rfl⟩ := Int.eq_ofNat_of_zero_le h3
    have lc := letter_cut sn (by omega)
    have dc := digit_cut on (by omega)
    have TP := Lib.hid (text_parts sn on a)
    have k1 : IntKind.i64.wrap ((sn : Int) + 1) = (sn : Int) + 1 := IntWalk.i64_in _ (by omega)
    have k2 : IntKind.i64.wrap ((on : Int) + 1) = (on : Int) + 1 := IntWalk.i64_in _ (by omega)
    have k3 : sn + 1 ≤ 7 := by omega
    have k4 : on + 1 ≤ 9 := by omega
    have k5 : (sn : Int) + 1 ≤ 7 := by omega
    have k6 : (on : Int) + 1 ≤ 9 := by omega
    have n1 : (0 : Int) ≤ (sn : Int) + 1 := by omega
    have n2 : (sn : Int) ≤ (sn : Int) + 1 := by omega
    have n3 : (0 : Int) ≤ (on : Int) + 1 := by omega
    have n4 : (on : Int) ≤ (on : Int) + 1 := by omega
    have v0 : IntKind.i64.wrap 0 = 0 := by decide
    have v1 : IntKind.i64.wrap 1 = 1 := by decide
    have v2 : IntKind.i64.wrap 2 = 2 := by decide
    clear h1 h3
    have ha : a = -1 ∨ a = 0 ∨ a = 1 := by omega
    clear h5 h6
    have cell := Lib.hid (Cell3.made w ((sn : Int), (on : Int), a) 23)
    rcases ha with rfl | rfl | rfl
    · go_enter Tryd.func29, Tryd.ntmps29
      go_wp2_with fail
      refine (C.out _).mono ?_
      rintro e w1 ⟨rfl, hb⟩
      have hB := Lib.hid (w_below (w_alloc (w_refl w) _) hb)
      obtain ⟨hin, c0, c1, c2, _, _, _⟩ := cell.out.later hb
      simp only at c0 c1 c2
      clear hb cell C
      go_wp2_with fail
      refine wp_region_held (S := fun W => W.cell? ⟨w.heap.size, 0, none⟩ = some (.int .i64 sn) ∧ W.cell? ⟨w.heap.size, 1, none⟩ = some (.int .i64 on) ∧ W.cell? ⟨w.heap.size, 2, none⟩ = some (.int .i64 (-1))) (by kernel_rfl) ?_
      change wpAnyH _ _ _ _ _ _ _ _ (World.drew _)
      generalize hw0 : World.drew w1 = w0
      have hB0 := Lib.hid (show Below w.heap.size w w0 by rw [← hw0]; exact hB.out.drew)
      replace c0 : w0.cell? ⟨w.heap.size, 0, none⟩ = some (.int .i64 sn) := by rw [← hw0]; exact c0
      replace c1 : w0.cell? ⟨w.heap.size, 1, none⟩ = some (.int .i64 on) := by rw [← hw0]; exact c1
      replace c2 : w0.cell? ⟨w.heap.size, 2, none⟩ = some (.int .i64 (-1)) := by rw [← hw0]; exact c2
      clear hw0
      refine wpAnyH_take (i := 0) (v := .pointer (some ⟨w.heap.size, 0, none⟩)) rfl (by kernel_rfl) (by kernel_rfl) (by kernel_rfl) (fun _ _ _ h => h) (Or.inl ⟨by kernel_rfl, fun _ _ => by go_simp⟩) ⟨c0, c1, c2⟩ ?_
      refine wpAnyH_take (i := 1) (v := .int .i64 sn) rfl (by kernel_rfl) (by kernel_rfl) (by kernel_rfl) (fun _ _ _ h => h) (Or.inl ⟨by kernel_rfl, fun W hW => by (obtain ⟨hA, hB, hC⟩ := hW; go_simp)⟩) ⟨c0, c1, c2⟩ ?_
      refine wpAnyH_take (i := 2) (v := .pointer (some ⟨w.heap.size, 0, none⟩)) rfl (by kernel_rfl) (by kernel_rfl) (by kernel_rfl) (fun _ _ _ h => h) (Or.inl ⟨by kernel_rfl, fun _ _ => by go_simp⟩) ⟨c0, c1, c2⟩ ?_
      refine wpAnyH_take (i := 3) (v := .int .i64 sn) rfl (by kernel_rfl) (by kernel_rfl) (by kernel_rfl) (fun _ _ _ h => h) (Or.inl ⟨by kernel_rfl, fun W hW => by (obtain ⟨hA, hB, hC⟩ := hW; go_simp)⟩) ⟨c0, c1, c2⟩ ?_
      refine wpAnyH_take (i := 4) (v := .int .i64 (sn + 1)) rfl (by kernel_rfl) (by kernel_rfl) (by kernel_rfl) (fun _ _ _ h => h) (Or.inl ⟨by kernel_rfl, fun _ _ => by go_simp⟩) ⟨c0, c1, c2⟩ ?_
      refine wpAnyH_take (i := 5) (v := .string ⟨#[letterI sn]⟩) rfl (by kernel_rfl) (by kernel_rfl) (by kernel_rfl) (fun _ _ _ h => h) (Or.inl ⟨by kernel_rfl, fun _ _ => by go_simp⟩) ⟨c0, c1, c2⟩ ?_
      refine wpAnyH_take (i := 7) (v := .pointer (some ⟨w.heap.size, 2, none⟩)) rfl (by kernel_rfl) (by kernel_rfl) (by kernel_rfl) (fun _ _ _ h => h) (Or.inl ⟨by kernel_rfl, fun _ _ => by go_simp⟩) ⟨c0, c1, c2⟩ ?_
      refine wpAnyH_take (i := 8) (v := .int .i64 (-1)) rfl (by kernel_rfl) (by kernel_rfl) (by kernel_rfl) (fun _ _ _ h => h) (Or.inl ⟨by kernel_rfl, fun W hW => by (obtain ⟨hA, hB, hC⟩ := hW; go_simp)⟩) ⟨c0, c1, c2⟩ ?_
      refine wpAnyH_take (i := 9) (v := .int .i64 0) rfl (by kernel_rfl) (by kernel_rfl) (by kernel_rfl) (fun _ _ _ h => h) (Or.inl ⟨by kernel_rfl, fun _ _ => by go_simp⟩) ⟨c0, c1, c2⟩ ?_
      refine wpAnyH_take (i := 13) (v := .pointer (some ⟨w.heap.size, 1, none⟩)) rfl (by kernel_rfl) (by kernel_rfl) (by kernel_rfl) (fun _ _ _ h => h) (Or.inl ⟨by kernel_rfl, fun _ _ => by go_simp⟩) ⟨c0, c1, c2⟩ ?_
      refine wpAnyH_take (i := 14) (v := .int .i64 on) rfl (by kernel_rfl) (by kernel_rfl) (by kernel_rfl) (fun _ _ _ h => h) (Or.inl ⟨by kernel_rfl, fun W hW => by (obtain ⟨hA, hB, hC⟩ := hW; go_simp)⟩) ⟨c0, c1, c2⟩ ?_
      refine wpAnyH_take (i := 15) (v := .pointer (some ⟨w.heap.size, 1, none⟩)) rfl (by kernel_rfl) (by kernel_rfl) (by kernel_rfl) (fun _ _ _ h => h) (Or.inl ⟨by kernel_rfl, fun _ _ => by go_simp⟩) ⟨c0, c1, c2⟩ ?_
      refine wpAnyH_take (i := 16) (v := .int .i64 on) rfl (by kernel_rfl) (by kernel_rfl) (by kernel_rfl) (fun _ _ _ h => h) (Or.inl ⟨by kernel_rfl, fun W hW => by (obtain ⟨hA, hB, hC⟩ := hW; go_simp)⟩) ⟨c0, c1, c2⟩ ?_
      refine wpAnyH_take (i := 17) (v := .int .i64 (on + 1)) rfl (by kernel_rfl) (by kernel_rfl) (by kernel_rfl) (fun _ _ _ h => h) (Or.inl ⟨by kernel_rfl, fun _ _ => by go_simp⟩) ⟨c0, c1, c2⟩ ?_
      refine wpAnyH_take (i := 18) (v := .string ⟨#[digI on]⟩) rfl (by kernel_rfl) (by kernel_rfl) (by kernel_rfl) (fun _ _ _ h => h) (Or.inl ⟨by kernel_rfl, fun _ _ => by go_simp⟩) ⟨c0, c1, c2⟩ ?_
      refine wpAnyH_ready (rs := [6]) (by kernel_rfl) (by simp) ?_
      refine AllReadyH.cons rfl (fun K hK => ?_) AllReadyH.nil
      rw [if_pos (by kernel_rfl)]
      go_simp
      generalize hw2 : World.alloc w0 (.cells #[.string ⟨#[98]⟩, .string ⟨#[]⟩, .string ⟨#[35]⟩] 9) = w2
      have d0 := show w2.cell? ⟨w0.heap.size, 0, none⟩ = some (.string ⟨#[98]⟩) by (rw [← hw2]; clear hw2; go_simp)
      have hB2 := Lib.hid (show Below w.heap.size w w2 by rw [← hw2]; exact w_alloc hB0.out _)
      replace c0 : w2.cell? ⟨w.heap.size, 0, none⟩ = some (.int .i64 sn) := by rw [← hw2]; exact ka c0 _
      replace c1 : w2.cell? ⟨w.heap.size, 1, none⟩ = some (.int .i64 on) := by rw [← hw2]; exact ka c1 _
      replace c2 : w2.cell? ⟨w.heap.size, 2, none⟩ = some (.int .i64 (-1)) := by rw [← hw2]; exact ka c2 _
      clear hw2
      refine hK.out _ _ ⟨c0, c1, c2⟩ (fun _ => ?_)
      clear hK K
      refine wpAnyH_take (i := 10) (v := .pointer (some ⟨w0.heap.size, 0, none⟩)) rfl (by kernel_rfl) (by kernel_rfl) (by kernel_rfl) (fun _ _ _ h => h) (Or.inl ⟨by kernel_rfl, fun _ _ => by go_simp⟩) ⟨c0, c1, c2⟩ ?_
      refine wpAnyH_ready (rs := [11]) (by kernel_rfl) (by simp) ?_
      refine AllReadyH.cons rfl (fun K hK => ?_) AllReadyH.nil
      rw [if_pos (by kernel_rfl)]
      go_simp
      refine hK.out _ _ ⟨c0, c1, c2⟩ (fun _ => ?_)
      clear hK K
      refine wpAnyH_take (i := 12) (v := .string ((⟨#[letterI sn]⟩ : ByteArray) ++ ⟨#[98]⟩)) rfl (by kernel_rfl) (by kernel_rfl) (by kernel_rfl) (fun _ _ _ h => h) (Or.inl ⟨by kernel_rfl, fun _ _ => by go_simp⟩) ⟨c0, c1, c2⟩ ?_
      refine wpAnyH_take (i := 19) (v := .string ((⟨#[letterI sn]⟩ : ByteArray) ++ ⟨#[98]⟩ ++ ⟨#[digI on]⟩)) rfl (by kernel_rfl) (by kernel_rfl) (by kernel_rfl) (fun _ _ _ h => h) (Or.inl ⟨by kernel_rfl, fun _ _ => by go_simp⟩) ⟨c0, c1, c2⟩ ?_
      refine wpAnyH_take (i := 20) (v := .string ((⟨#[letterI sn]⟩ : ByteArray) ++ ⟨#[98]⟩ ++ ⟨#[digI on]⟩)) rfl (by kernel_rfl) (by kernel_rfl) (by kernel_rfl) (fun _ _ _ h => h) (Or.inl ⟨by kernel_rfl, fun _ _ => by go_simp⟩) ⟨c0, c1, c2⟩ ?_
      refine wpAnyH_take (i := 21) (v := .int .i64 0) rfl (by kernel_rfl) (by kernel_rfl) (by kernel_rfl) (fun _ _ _ h => h) (Or.inl ⟨by kernel_rfl, fun _ _ => by go_simp⟩) ⟨c0, c1, c2⟩ ?_
      refine wpAnyH_done (by kernel_rfl) ?_ _
      have hfin := Lib.hid (hok.out w2 _ (TP.out ⟨#[98]⟩ rfl) hB2.out)
      clear lc dc TP hok c0 c1 c2 d0
      go_wp2_with fail
      go_ret2
      exact hfin.out
    · go_enter Tryd.func29, Tryd.ntmps29
      go_wp2_with fail
      refine (C.out _).mono ?_
      rintro e w1 ⟨rfl, hb⟩
      have hB := Lib.hid (w_below (w_alloc (w_refl w) _) hb)
      obtain ⟨hin, c0, c1, c2, _, _, _⟩ := cell.out.later hb
      simp only at c0 c1 c2
      clear hb cell C
      go_wp2_with fail
      refine wp_region_held (S := fun W => W.cell? ⟨w.heap.size, 0, none⟩ = some (.int .i64 sn) ∧ W.cell? ⟨w.heap.size, 1, none⟩ = some (.int .i64 on) ∧ W.cell? ⟨w.heap.size, 2, none⟩ = some (.int .i64 0)) (by kernel_rfl) ?_
      change wpAnyH _ _ _ _ _ _ _ _ (World.drew _)
      generalize hw0 : World.drew w1 = w0
      have hB0 := Lib.hid (show Below w.heap.size w w0 by rw [← hw0]; exact hB.out.drew)
      replace c0 : w0.cell? ⟨w.heap.size, 0, none⟩ = some (.int .i64 sn) := by rw [← hw0]; exact c0
      replace c1 : w0.cell? ⟨w.heap.size, 1, none⟩ = some (.int .i64 on) := by rw [← hw0]; exact c1
      replace c2 : w0.cell? ⟨w.heap.size, 2, none⟩ = some (.int .i64 0) := by rw [← hw0]; exact c2
      clear hw0
      refine wpAnyH_take (i := 0) (v := .pointer (some ⟨w.heap.size, 0, none⟩)) rfl (by kernel_rfl) (by kernel_rfl) (by kernel_rfl) (fun _ _ _ h => h) (Or.inl ⟨by kernel_rfl, fun _ _ => by go_simp⟩) ⟨c0, c1, c2⟩ ?_
      refine wpAnyH_take (i := 1) (v := .int .i64 sn) rfl (by kernel_rfl) (by kernel_rfl) (by kernel_rfl) (fun _ _ _ h => h) (Or.inl ⟨by kernel_rfl, fun W hW => by (obtain ⟨hA, hB, hC⟩ := hW; go_simp)⟩) ⟨c0, c1, c2⟩ ?_
      refine wpAnyH_take (i := 2) (v := .pointer (some ⟨w.heap.size, 0, none⟩)) rfl (by kernel_rfl) (by kernel_rfl) (by kernel_rfl) (fun _ _ _ h => h) (Or.inl ⟨by kernel_rfl, fun _ _ => by go_simp⟩) ⟨c0, c1, c2⟩ ?_
      refine wpAnyH_take (i := 3) (v := .int .i64 sn) rfl (by kernel_rfl) (by kernel_rfl) (by kernel_rfl) (fun _ _ _ h => h) (Or.inl ⟨by kernel_rfl, fun W hW => by (obtain ⟨hA, hB, hC⟩ := hW; go_simp)⟩) ⟨c0, c1, c2⟩ ?_
      refine wpAnyH_take (i := 4) (v := .int .i64 (sn + 1)) rfl (by kernel_rfl) (by kernel_rfl) (by kernel_rfl) (fun _ _ _ h => h) (Or.inl ⟨by kernel_rfl, fun _ _ => by go_simp⟩) ⟨c0, c1, c2⟩ ?_
      refine wpAnyH_take (i := 5) (v := .string ⟨#[letterI sn]⟩) rfl (by kernel_rfl) (by kernel_rfl) (by kernel_rfl) (fun _ _ _ h => h) (Or.inl ⟨by kernel_rfl, fun _ _ => by go_simp⟩) ⟨c0, c1, c2⟩ ?_
      refine wpAnyH_take (i := 7) (v := .pointer (some ⟨w.heap.size, 2, none⟩)) rfl (by kernel_rfl) (by kernel_rfl) (by kernel_rfl) (fun _ _ _ h => h) (Or.inl ⟨by kernel_rfl, fun _ _ => by go_simp⟩) ⟨c0, c1, c2⟩ ?_
      refine wpAnyH_take (i := 8) (v := .int .i64 0) rfl (by kernel_rfl) (by kernel_rfl) (by kernel_rfl) (fun _ _ _ h => h) (Or.inl ⟨by kernel_rfl, fun W hW => by (obtain ⟨hA, hB, hC⟩ := hW; go_simp)⟩) ⟨c0, c1, c2⟩ ?_
      refine wpAnyH_take (i := 9) (v := .int .i64 1) rfl (by kernel_rfl) (by kernel_rfl) (by kernel_rfl) (fun _ _ _ h => h) (Or.inl ⟨by kernel_rfl, fun _ _ => by go_simp⟩) ⟨c0, c1, c2⟩ ?_
      refine wpAnyH_take (i := 13) (v := .pointer (some ⟨w.heap.size, 1, none⟩)) rfl (by kernel_rfl) (by kernel_rfl) (by kernel_rfl) (fun _ _ _ h => h) (Or.inl ⟨by kernel_rfl, fun _ _ => by go_simp⟩) ⟨c0, c1, c2⟩ ?_
      refine wpAnyH_take (i := 14) (v := .int .i64 on) rfl (by kernel_rfl) (by kernel_rfl) (by kernel_rfl) (fun _ _ _ h => h) (Or.inl ⟨by kernel_rfl, fun W hW => by (obtain ⟨hA, hB, hC⟩ := hW; go_simp)⟩) ⟨c0, c1, c2⟩ ?_
      refine wpAnyH_take (i := 15) (v := .pointer (some ⟨w.heap.size, 1, none⟩)) rfl (by kernel_rfl) (by kernel_rfl) (by kernel_rfl) (fun _ _ _ h => h) (Or.inl ⟨by kernel_rfl, fun _ _ => by go_simp⟩) ⟨c0, c1, c2⟩ ?_
      refine wpAnyH_take (i := 16) (v := .int .i64 on) rfl (by kernel_rfl) (by kernel_rfl) (by kernel_rfl) (fun _ _ _ h => h) (Or.inl ⟨by kernel_rfl, fun W hW => by (obtain ⟨hA, hB, hC⟩ := hW; go_simp)⟩) ⟨c0, c1, c2⟩ ?_
      refine wpAnyH_take (i := 17) (v := .int .i64 (on + 1)) rfl (by kernel_rfl) (by kernel_rfl) (by kernel_rfl) (fun _ _ _ h => h) (Or.inl ⟨by kernel_rfl, fun _ _ => by go_simp⟩) ⟨c0, c1, c2⟩ ?_
      refine wpAnyH_take (i := 18) (v := .string ⟨#[digI on]⟩) rfl (by kernel_rfl) (by kernel_rfl) (by kernel_rfl) (fun _ _ _ h => h) (Or.inl ⟨by kernel_rfl, fun _ _ => by go_simp⟩) ⟨c0, c1, c2⟩ ?_
      refine wpAnyH_ready (rs := [6]) (by kernel_rfl) (by simp) ?_
      refine AllReadyH.cons rfl (fun K hK => ?_) AllReadyH.nil
      rw [if_pos (by kernel_rfl)]
      go_simp
      generalize hw2 : World.alloc w0 (.cells #[.string ⟨#[98]⟩, .string ⟨#[]⟩, .string ⟨#[35]⟩] 9) = w2
      have d0 := show w2.cell? ⟨w0.heap.size, 1, none⟩ = some (.string ⟨#[]⟩) by (rw [← hw2]; clear hw2; go_simp)
      have hB2 := Lib.hid (show Below w.heap.size w w2 by rw [← hw2]; exact w_alloc hB0.out _)
      replace c0 : w2.cell? ⟨w.heap.size, 0, none⟩ = some (.int .i64 sn) := by rw [← hw2]; exact ka c0 _
      replace c1 : w2.cell? ⟨w.heap.size, 1, none⟩ = some (.int .i64 on) := by rw [← hw2]; exact ka c1 _
      replace c2 : w2.cell? ⟨w.heap.size, 2, none⟩ = some (.int .i64 0) := by rw [← hw2]; exact ka c2 _
      clear hw2
      refine hK.out _ _ ⟨c0, c1, c2⟩ (fun _ => ?_)
      clear hK K
      refine wpAnyH_take (i := 10) (v := .pointer (some ⟨w0.heap.size, 1, none⟩)) rfl (by kernel_rfl) (by kernel_rfl) (by kernel_rfl) (fun _ _ _ h => h) (Or.inl ⟨by kernel_rfl, fun _ _ => by go_simp⟩) ⟨c0, c1, c2⟩ ?_
      refine wpAnyH_ready (rs := [11]) (by kernel_rfl) (by simp) ?_
      refine AllReadyH.cons rfl (fun K hK => ?_) AllReadyH.nil
      rw [if_pos (by kernel_rfl)]
      go_simp
      refine hK.out _ _ ⟨c0, c1, c2⟩ (fun _ => ?_)
      clear hK K
      refine wpAnyH_take (i := 12) (v := .string ((⟨#[letterI sn]⟩ : ByteArray) ++ ⟨#[]⟩)) rfl (by kernel_rfl) (by kernel_rfl) (by kernel_rfl) (fun _ _ _ h => h) (Or.inl ⟨by kernel_rfl, fun _ _ => by go_simp⟩) ⟨c0, c1, c2⟩ ?_
      refine wpAnyH_take (i := 19) (v := .string ((⟨#[letterI sn]⟩ : ByteArray) ++ ⟨#[]⟩ ++ ⟨#[digI on]⟩)) rfl (by kernel_rfl) (by kernel_rfl) (by kernel_rfl) (fun _ _ _ h => h) (Or.inl ⟨by kernel_rfl, fun _ _ => by go_simp⟩) ⟨c0, c1, c2⟩ ?_
      refine wpAnyH_take (i := 20) (v := .string ((⟨#[letterI sn]⟩ : ByteArray) ++ ⟨#[]⟩ ++ ⟨#[digI on]⟩)) rfl (by kernel_rfl) (by kernel_rfl) (by kernel_rfl) (fun _ _ _ h => h) (Or.inl ⟨by kernel_rfl, fun _ _ => by go_simp⟩) ⟨c0, c1, c2⟩ ?_
      refine wpAnyH_take (i := 21) (v := .int .i64 0) rfl (by kernel_rfl) (by kernel_rfl) (by kernel_rfl) (fun _ _ _ h => h) (Or.inl ⟨by kernel_rfl, fun _ _ => by go_simp⟩) ⟨c0, c1, c2⟩ ?_
      refine wpAnyH_done (by kernel_rfl) ?_ _
      have hfin := Lib.hid (hok.out w2 _ (TP.out ⟨#[]⟩ rfl) hB2.out)
      clear lc dc TP hok c0 c1 c2 d0
      go_wp2_with fail
      go_ret2
      exact hfin.out
    · go_enter Tryd.func29, Tryd.ntmps29
      go_wp2_with fail
      refine (C.out _).mono ?_
      rintro e w1 ⟨rfl, hb⟩
      have hB := Lib.hid (w_below (w_alloc (w_refl w) _) hb)
      obtain ⟨hin, c0, c1, c2, _, _, _⟩ := cell.out.later hb
      simp only at c0 c1 c2
      clear hb cell C
      go_wp2_with fail
      refine wp_region_held (S := fun W => W.cell? ⟨w.heap.size, 0, none⟩ = some (.int .i64 sn) ∧ W.cell? ⟨w.heap.size, 1, none⟩ = some (.int .i64 on) ∧ W.cell? ⟨w.heap.size, 2, none⟩ = some (.int .i64 1)) (by kernel_rfl) ?_
      change wpAnyH _ _ _ _ _ _ _ _ (World.drew _)
      generalize hw0 : World.drew w1 = w0
      have hB0 := Lib.hid (show Below w.heap.size w w0 by rw [← hw0]; exact hB.out.drew)
      replace c0 : w0.cell? ⟨w.heap.size, 0, none⟩ = some (.int .i64 sn) := by rw [← hw0]; exact c0
      replace c1 : w0.cell? ⟨w.heap.size, 1, none⟩ = some (.int .i64 on) := by rw [← hw0]; exact c1
      replace c2 : w0.cell? ⟨w.heap.size, 2, none⟩ = some (.int .i64 1) := by rw [← hw0]; exact c2
      clear hw0
      refine wpAnyH_take (i := 0) (v := .pointer (some ⟨w.heap.size, 0, none⟩)) rfl (by kernel_rfl) (by kernel_rfl) (by kernel_rfl) (fun _ _ _ h => h) (Or.inl ⟨by kernel_rfl, fun _ _ => by go_simp⟩) ⟨c0, c1, c2⟩ ?_
      refine wpAnyH_take (i := 1) (v := .int .i64 sn) rfl (by kernel_rfl) (by kernel_rfl) (by kernel_rfl) (fun _ _ _ h => h) (Or.inl ⟨by kernel_rfl, fun W hW => by (obtain ⟨hA, hB, hC⟩ := hW; go_simp)⟩) ⟨c0, c1, c2⟩ ?_
      refine wpAnyH_take (i := 2) (v := .pointer (some ⟨w.heap.size, 0, none⟩)) rfl (by kernel_rfl) (by kernel_rfl) (by kernel_rfl) (fun _ _ _ h => h) (Or.inl ⟨by kernel_rfl, fun _ _ => by go_simp⟩) ⟨c0, c1, c2⟩ ?_
      refine wpAnyH_take (i := 3) (v := .int .i64 sn) rfl (by kernel_rfl) (by kernel_rfl) (by kernel_rfl) (fun _ _ _ h => h) (Or.inl ⟨by kernel_rfl, fun W hW => by (obtain ⟨hA, hB, hC⟩ := hW; go_simp)⟩) ⟨c0, c1, c2⟩ ?_
      refine wpAnyH_take (i := 4) (v := .int .i64 (sn + 1)) rfl (by kernel_rfl) (by kernel_rfl) (by kernel_rfl) (fun _ _ _ h => h) (Or.inl ⟨by kernel_rfl, fun _ _ => by go_simp⟩) ⟨c0, c1, c2⟩ ?_
      refine wpAnyH_take (i := 5) (v := .string ⟨#[letterI sn]⟩) rfl (by kernel_rfl) (by kernel_rfl) (by kernel_rfl) (fun _ _ _ h => h) (Or.inl ⟨by kernel_rfl, fun _ _ => by go_simp⟩) ⟨c0, c1, c2⟩ ?_
      refine wpAnyH_take (i := 7) (v := .pointer (some ⟨w.heap.size, 2, none⟩)) rfl (by kernel_rfl) (by kernel_rfl) (by kernel_rfl) (fun _ _ _ h => h) (Or.inl ⟨by kernel_rfl, fun _ _ => by go_simp⟩) ⟨c0, c1, c2⟩ ?_
      refine wpAnyH_take (i := 8) (v := .int .i64 1) rfl (by kernel_rfl) (by kernel_rfl) (by kernel_rfl) (fun _ _ _ h => h) (Or.inl ⟨by kernel_rfl, fun W hW => by (obtain ⟨hA, hB, hC⟩ := hW; go_simp)⟩) ⟨c0, c1, c2⟩ ?_
      refine wpAnyH_take (i := 9) (v := .int .i64 2) rfl (by kernel_rfl) (by kernel_rfl) (by kernel_rfl) (fun _ _ _ h => h) (Or.inl ⟨by kernel_rfl, fun _ _ => by go_simp⟩) ⟨c0, c1, c2⟩ ?_
      refine wpAnyH_take (i := 13) (v := .pointer (some ⟨w.heap.size, 1, none⟩)) rfl (by kernel_rfl) (by kernel_rfl) (by kernel_rfl) (fun _ _ _ h => h) (Or.inl ⟨by kernel_rfl, fun _ _ => by go_simp⟩) ⟨c0, c1, c2⟩ ?_
      refine wpAnyH_take (i := 14) (v := .int .i64 on) rfl (by kernel_rfl) (by kernel_rfl) (by kernel_rfl) (fun _ _ _ h => h) (Or.inl ⟨by kernel_rfl, fun W hW => by (obtain ⟨hA, hB, hC⟩ := hW; go_simp)⟩) ⟨c0, c1, c2⟩ ?_
      refine wpAnyH_take (i := 15) (v := .pointer (some ⟨w.heap.size, 1, none⟩)) rfl (by kernel_rfl) (by kernel_rfl) (by kernel_rfl) (fun _ _ _ h => h) (Or.inl ⟨by kernel_rfl, fun _ _ => by go_simp⟩) ⟨c0, c1, c2⟩ ?_
      refine wpAnyH_take (i := 16) (v := .int .i64 on) rfl (by kernel_rfl) (by kernel_rfl) (by kernel_rfl) (fun _ _ _ h => h) (Or.inl ⟨by kernel_rfl, fun W hW => by (obtain ⟨hA, hB, hC⟩ := hW; go_simp)⟩) ⟨c0, c1, c2⟩ ?_
      refine wpAnyH_take (i := 17) (v := .int .i64 (on + 1)) rfl (by kernel_rfl) (by kernel_rfl) (by kernel_rfl) (fun _ _ _ h => h) (Or.inl ⟨by kernel_rfl, fun _ _ => by go_simp⟩) ⟨c0, c1, c2⟩ ?_
      refine wpAnyH_take (i := 18) (v := .string ⟨#[digI on]⟩) rfl (by kernel_rfl) (by kernel_rfl) (by kernel_rfl) (fun _ _ _ h => h) (Or.inl ⟨by kernel_rfl, fun _ _ => by go_simp⟩) ⟨c0, c1, c2⟩ ?_
      refine wpAnyH_ready (rs := [6]) (by kernel_rfl) (by simp) ?_
      refine AllReadyH.cons rfl (fun K hK => ?_) AllReadyH.nil
      rw [if_pos (by kernel_rfl)]
      go_simp
      generalize hw2 : World.alloc w0 (.cells #[.string ⟨#[98]⟩, .string ⟨#[]⟩, .string ⟨#[35]⟩] 9) = w2
      have d0 := show w2.cell? ⟨w0.heap.size, 2, none⟩ = some (.string ⟨#[35]⟩) by (rw [← hw2]; clear hw2; go_simp)
      have hB2 := Lib.hid (show Below w.heap.size w w2 by rw [← hw2]; exact w_alloc hB0.out _)
      replace c0 : w2.cell? ⟨w.heap.size, 0, none⟩ = some (.int .i64 sn) := by rw [← hw2]; exact ka c0 _
      replace c1 : w2.cell? ⟨w.heap.size, 1, none⟩ = some (.int .i64 on) := by rw [← hw2]; exact ka c1 _
      replace c2 : w2.cell? ⟨w.heap.size, 2, none⟩ = some (.int .i64 1) := by rw [← hw2]; exact ka c2 _
      clear hw2
      refine hK.out _ _ ⟨c0, c1, c2⟩ (fun _ => ?_)
      clear hK K
      refine wpAnyH_take (i := 10) (v := .pointer (some ⟨w0.heap.size, 2, none⟩)) rfl (by kernel_rfl) (by kernel_rfl) (by kernel_rfl) (fun _ _ _ h => h) (Or.inl ⟨by kernel_rfl, fun _ _ => by go_simp⟩) ⟨c0, c1, c2⟩ ?_
      refine wpAnyH_ready (rs := [11]) (by kernel_rfl) (by simp) ?_
      refine AllReadyH.cons rfl (fun K hK => ?_) AllReadyH.nil
      rw [if_pos (by kernel_rfl)]
      go_simp
      refine hK.out _ _ ⟨c0, c1, c2⟩ (fun _ => ?_)
      clear hK K
      refine wpAnyH_take (i := 12) (v := .string ((⟨#[letterI sn]⟩ : ByteArray) ++ ⟨#[35]⟩)) rfl (by kernel_rfl) (by kernel_rfl) (by kernel_rfl) (fun _ _ _ h => h) (Or.inl ⟨by kernel_rfl, fun _ _ => by go_simp⟩) ⟨c0, c1, c2⟩ ?_
      refine wpAnyH_take (i := 19) (v := .string ((⟨#[letterI sn]⟩ : ByteArray) ++ ⟨#[35]⟩ ++ ⟨#[digI on]⟩)) rfl (by kernel_rfl) (by kernel_rfl) (by kernel_rfl) (fun _ _ _ h => h) (Or.inl ⟨by kernel_rfl, fun _ _ => by go_simp⟩) ⟨c0, c1, c2⟩ ?_
      refine wpAnyH_take (i := 20) (v := .string ((⟨#[letterI sn]⟩ : ByteArray) ++ ⟨#[35]⟩ ++ ⟨#[digI on]⟩)) rfl (by kernel_rfl) (by kernel_rfl) (by kernel_rfl) (fun _ _ _ h => h) (Or.inl ⟨by kernel_rfl, fun _ _ => by go_simp⟩) ⟨c0, c1, c2⟩ ?_
      refine wpAnyH_take (i := 21) (v := .int .i64 0) rfl (by kernel_rfl) (by kernel_rfl) (by kernel_rfl) (fun _ _ _ h => h) (Or.inl ⟨by kernel_rfl, fun _ _ => by go_simp⟩) ⟨c0, c1, c2⟩ ?_
      refine wpAnyH_done (by kernel_rfl) ?_ _
      have hfin := Lib.hid (hok.out w2 _ (TP.out ⟨#[35]⟩ rfl) hB2.out)
      clear lc dc TP hok c0 c1 c2 d0
      go_wp2_with fail
      go_ret2
      exact hfin.out
  · have hno := Lib.hid (fun w' hb => TextPost.no (w := w) (w' := w') h hb)
    rw [chkV_no h] at C
    clear h
    go_enter Tryd.func29, Tryd.ntmps29
    go_wp2_with fail
    refine (C.out _).mono ?_
    rintro e w1 ⟨rfl, hb⟩
    have hB := Lib.hid (w_below (w_alloc (w_refl w) _) hb)
    clear hb C
    go_wp2_with fail
    go_ret2
    exact hno.out _ hB.out

end Go.Proofs.YtpkihehacocbhaaDoor
