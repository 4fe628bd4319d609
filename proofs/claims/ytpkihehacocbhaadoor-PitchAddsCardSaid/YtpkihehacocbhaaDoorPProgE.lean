/- The program's text of a pitch. -/
import Derived.Test.YtpkihehacocbhaaDoorPProgD
import Derived.Test.YtpkihehacocbhaaDoorShelf
namespace Go.Proofs.YtpkihehacocbhaaDoor
open Go.RowKit

theorem dec_small {o : Nat} (h : o ≤ 8) : Lib.decDigits o = [digI o] := by
  have : o = 0 ∨ o = 1 ∨ o = 2 ∨ o = 3 ∨ o = 4 ∨ o = 5 ∨ o = 6 ∨ o = 7 ∨ o = 8 := by omega
  rcases this with rfl | rfl | rfl | rfl | rfl | rfl | rfl | rfl | rfl <;> decide +kernel
theorem itoa_any {o : Nat} (h : o ≤ 8) (w : World) : Calls Tryd.prog 37 #[.int .i64 o] w fun e w' => e = .returned (.string ⟨#[digI o]⟩) ∧ w = w' := by
  have := Tryd.strconv_Itoa_small o (by omega) w
  rw [dec_small h] at this
  exact this.mono fun e w' ⟨h1, h2⟩ => ⟨h1, h2.symm⟩

set_option maxHeartbeats 4000000 in
theorem wtext_any (p : Pi3) (w : World) (T : Tab w) : Calls Tryd.prog 28 #[pv p] w (TextPost p w) := by
  have C := Lib.hid (fun W => wcheck_any p W)
  by_cases h : okP p
  · have hok := Lib.hid (fun w' t ht hb => TextPost.ok (w := w) (w' := w') (t := t) h ht hb)
    have TH := Lib.hid T
    clear T
    rw [chkV_ok h] at C
    obtain ⟨s, o, a⟩ := p
    obtain ⟨⟨h1, h2⟩, ⟨h3, h4⟩, h5, h6⟩ := h
    simp only at h1 h2 h3 h4 h5 h6
    obtain ⟨sn, rfl⟩ := Int.eq_ofNat_of_zero_le h1
    obtain ⟨on, rfl⟩ := Int.eq_ofNat_of_zero_le h3
    have lc := letter_cut sn (by omega)
    have IT := Lib.hid (fun W => itoa_any (show on ≤ 8 by omega) W)
    have TP := Lib.hid (text_parts sn on a)
    have k1 : IntKind.i64.wrap ((sn : Int) + 1) = (sn : Int) + 1 := IntWalk.i64_in _ (by omega)
    have k3 : sn + 1 ≤ 7 := by omega
    have k5 : (sn : Int) + 1 ≤ 7 := by omega
    have n1 : (0 : Int) ≤ (sn : Int) + 1 := by omega
    have n2 : (sn : Int) ≤ (sn : Int) + 1 := by omega
    have v0 : IntKind.i64.wrap 0 = 0 := by decide
    have v1 : IntKind.i64.wrap 1 = 1 := by decide
    have v2 : IntKind.i64.wrap 2 = 2 := by decide
    clear h1 h3
    have ha : a = -1 ∨ a = 0 ∨ a = 1 := by omega
    clear h5 h6
    have cell := Lib.hid (Cell3.made w ((sn : Int), (on : Int), a) 23)
    rcases ha with rfl | rfl | rfl
    · go_enter Tryd.func28, Tryd.ntmps28
      go_wp2_with fail
      refine (C.out _).mono ?_
      rintro e w1 ⟨rfl, hb⟩
      have hB := Lib.hid ((w_below (w_alloc (w_refl w) _) hb).drew)
      have K := Lib.hid ((cell.out.later hb).later (w_refl w1).drew)
      have SG := Lib.hid ((TH.out.later (w_below (w_alloc (w_refl w) _) hb)).later (w_refl w1).drew)
      clear hb cell C TH
      go_wp2_with fail
      go_region_held3 (fun W => W.cell? ⟨w.heap.size, 0, none⟩ = some (.int .i64 sn) ∧ W.cell? ⟨w.heap.size, 1, none⟩ = some (.int .i64 on) ∧ W.cell? ⟨w.heap.size, 2, none⟩ = some (.int .i64 (-1)) ∧ W.cell? ⟨0, 0, none⟩ = some (.string ⟨#[98]⟩))
        (first
          | exact ⟨K.out.c0, K.out.c1, K.out.c2, SG.out.s0⟩
          | assumption)
        (first
          | (go_at_call 37; refine (IT.out _).mono ?_; rintro e wn ⟨rfl, rfl⟩)
          | fail)
      all_goals
        have hfin := Lib.hid (hok.out _ _ (TP.out ⟨#[98]⟩ rfl) hB.out)
        clear lc TP hok K SG IT
        go_wp2_with fail
        go_ret2
        exact hfin.out
    · go_enter Tryd.func28, Tryd.ntmps28
      go_wp2_with fail
      refine (C.out _).mono ?_
      rintro e w1 ⟨rfl, hb⟩
      have hB := Lib.hid ((w_below (w_alloc (w_refl w) _) hb).drew)
      have K := Lib.hid ((cell.out.later hb).later (w_refl w1).drew)
      have SG := Lib.hid ((TH.out.later (w_below (w_alloc (w_refl w) _) hb)).later (w_refl w1).drew)
      clear hb cell C TH
      go_wp2_with fail
      go_region_held3 (fun W => W.cell? ⟨w.heap.size, 0, none⟩ = some (.int .i64 sn) ∧ W.cell? ⟨w.heap.size, 1, none⟩ = some (.int .i64 on) ∧ W.cell? ⟨w.heap.size, 2, none⟩ = some (.int .i64 (0)) ∧ W.cell? ⟨0, 1, none⟩ = some (.string ⟨#[]⟩))
        (first
          | exact ⟨K.out.c0, K.out.c1, K.out.c2, SG.out.s1⟩
          | assumption)
        (first
          | (go_at_call 37; refine (IT.out _).mono ?_; rintro e wn ⟨rfl, rfl⟩)
          | fail)
      all_goals
        have hfin := Lib.hid (hok.out _ _ (TP.out ⟨#[]⟩ rfl) hB.out)
        clear lc TP hok K SG IT
        go_wp2_with fail
        go_ret2
        exact hfin.out
    · go_enter Tryd.func28, Tryd.ntmps28
      go_wp2_with fail
      refine (C.out _).mono ?_
      rintro e w1 ⟨rfl, hb⟩
      have hB := Lib.hid ((w_below (w_alloc (w_refl w) _) hb).drew)
      have K := Lib.hid ((cell.out.later hb).later (w_refl w1).drew)
      have SG := Lib.hid ((TH.out.later (w_below (w_alloc (w_refl w) _) hb)).later (w_refl w1).drew)
      clear hb cell C TH
      go_wp2_with fail
      go_region_held3 (fun W => W.cell? ⟨w.heap.size, 0, none⟩ = some (.int .i64 sn) ∧ W.cell? ⟨w.heap.size, 1, none⟩ = some (.int .i64 on) ∧ W.cell? ⟨w.heap.size, 2, none⟩ = some (.int .i64 (1)) ∧ W.cell? ⟨0, 2, none⟩ = some (.string ⟨#[35]⟩))
        (first
          | exact ⟨K.out.c0, K.out.c1, K.out.c2, SG.out.s2⟩
          | assumption)
        (first
          | (go_at_call 37; refine (IT.out _).mono ?_; rintro e wn ⟨rfl, rfl⟩)
          | fail)
      all_goals
        have hfin := Lib.hid (hok.out _ _ (TP.out ⟨#[35]⟩ rfl) hB.out)
        clear lc TP hok K SG IT
        go_wp2_with fail
        go_ret2
        exact hfin.out
  · have hno := Lib.hid (fun w' hb => TextPost.no (w := w) (w' := w') h hb)
    rw [chkV_no h] at C
    clear h T
    go_enter Tryd.func28, Tryd.ntmps28
    go_wp2_with fail
    refine (C.out _).mono ?_
    rintro e w1 ⟨rfl, hb⟩
    have hB := Lib.hid (w_below (w_alloc (w_refl w) _) hb)
    clear hb C
    go_wp2_with fail
    go_ret2
    exact hno.out _ hB.out

end Go.Proofs.YtpkihehacocbhaaDoor
