/- The reference: whether a pitch is in a hexachord, smooth mutations, costs. -/
import Derived.Test.YtaldbjhalpgkeaaDoorGRefA
namespace Go.Proofs.YtaldbjhalpgkeaaDoor
open Go.RowKit

theorem inH_pos {p : Pi3} {h k : Int} (h1 : 1 ≤ k) (h2 : k ≤ 6) (e : madeS (h, k) = p) : inH p h = true := by
  have : k = 1 ∨ k = 2 ∨ k = 3 ∨ k = 4 ∨ k = 5 ∨ k = 6 := by omega
  unfold inH
  apply decide_eq_true
  rcases this with rfl | rfl | rfl | rfl | rfl | rfl <;> simp [e]
theorem inH_neg {p : Pi3} {h : Int} (e : ∀ k : Int, 1 ≤ k → k < 7 → madeS (h, k) ≠ p) : inH p h = false := by
  unfold inH
  apply decide_eq_false
  rintro (x | x | x | x | x | x)
  · exact e 1 (by omega) (by omega) x
  · exact e 2 (by omega) (by omega) x
  · exact e 3 (by omega) (by omega) x
  · exact e 4 (by omega) (by omega) x
  · exact e 5 (by omega) (by omega) x
  · exact e 6 (by omega) (by omega) x

/-- Where two pitches differ. -/
theorem ne3 {q p : Pi3} (e : q ≠ p) : ((q.1 == p.1) = false ∧ ¬ q.1 = p.1) ∨ (q.1 = p.1 ∧ (q.2.1 == p.2.1) = false ∧ ¬ q.2.1 = p.2.1) ∨ (q.1 = p.1 ∧ q.2.1 = p.2.1 ∧ (q.2.2 == p.2.2) = false ∧ ¬ q.2.2 = p.2.2) := by
  by_cases h1 : q.1 = p.1
  · by_cases h2 : q.2.1 = p.2.1
    · have h3 : ¬ q.2.2 = p.2.2 := fun x => e (Prod.ext h1 (Prod.ext h2 x))
      exact .inr (.inr ⟨h1, h2, by simp [h3], h3⟩)
    · exact .inr (.inl ⟨h1, by simp [h2], h2⟩)
  · exact .inl ⟨by simp [h1], h1⟩

set_option maxHeartbeats 2000000 in
theorem rin_any (p : Pi3) (h : Int) (hh : 1 ≤ h ∧ h ≤ 7) (w : World) : Calls Tryd.prog 74 #[pv p, .int .i64 h] w fun e w' => e = .returned (.bool (inH p h)) ∧ Below w.heap.size w w' := by
  have M := Lib.hid (fun k (h1 : 1 ≤ k ∧ k ≤ 6) W => rmade_any (h, k) ⟨hh, h1⟩ W)
  have K := Lib.hid (Cell3.made w p 23)
  go_enter Tryd.func74, Tryd.ntmps74
  go_wp2_with fail
  go_loopw [5] (fun i wr => ∃ k : Int, 1 ≤ k ∧ k ≤ 7 ∧ i = .int .i64 k ∧ Hid (Below (w.alloc (pO p)).heap.size (w.alloc (pO p)) wr) ∧ Hid (∀ j : Int, 1 ≤ j → j < k → madeS (h, j) ≠ p)) (fun i _ => (7 - intOf i).toNat)
  case atStart => exact ⟨1, by omega, by omega, rfl, Lib.hid (w_refl _), Lib.hid (fun j h1 h2 => by omega)⟩
  case round =>
    obtain ⟨k, hk1, hk2, rfl, hb, hall⟩ := hrel
    by_cases hlt : k ≤ 6
    · have C := Lib.hid (fun W => M.out k ⟨hk1, hlt⟩ W)
      have FX := Lib.hid (show Cell3 wr.drew w.heap.size p ∧ Below (w.alloc (pO p)).heap.size (w.alloc (pO p)) wr.drew from ⟨(K.out.later hb.out).later (w_refl _).drew, hb.out.drew⟩)
      by_cases e : madeS (h, k) = p
      · have hv := inH_pos hk1 hlt e
        rw [e] at C
        clear e hall
        go_wp2_with fail
        go_region_held3 (fun W => W.cell? ⟨w.heap.size, 0, none⟩ = some (.int .i64 p.1) ∧ W.cell? ⟨w.heap.size, 1, none⟩ = some (.int .i64 p.2.1) ∧ W.cell? ⟨w.heap.size, 2, none⟩ = some (.int .i64 p.2.2))
          (first
            | exact ⟨FX.out.1.c0, FX.out.1.c1, FX.out.1.c2⟩
            | fail)
          (first
            | (go_at_call 49; refine (C.out _).mono ?_; rintro e wn ⟨rfl, hb2⟩; replace FX := Lib.hid (show _ ∧ _ from ⟨FX.out.1.later hb2, w_below FX.out.2 hb2⟩); clear hb2)
            | fail)
        go_wp2_with fail
        go_ret
        exact ⟨by first | rfl | (rw [hv]; rfl), w_below (w_alloc (w_refl w) _) FX.out.2⟩
      · have hN := Lib.hid (show ∀ j : Int, 1 ≤ j → j < k + 1 → madeS (h, j) ≠ p from fun j h1 h2 => by
          by_cases e2 : j = k
          · rw [e2]; exact e
          · exact hall.out j h1 (by omega))
        generalize madeS (h, k) = q at *
        have hd := ne3 e
        clear e hall
        rcases hd with ⟨e1, e2⟩ | ⟨e0, e1, e2⟩ | ⟨e0, e3, e1, e2⟩
        all_goals
          go_wp2_with fail
          go_region_held3 (fun W => W.cell? ⟨w.heap.size, 0, none⟩ = some (.int .i64 p.1) ∧ W.cell? ⟨w.heap.size, 1, none⟩ = some (.int .i64 p.2.1) ∧ W.cell? ⟨w.heap.size, 2, none⟩ = some (.int .i64 p.2.2))
            (first
              | exact ⟨FX.out.1.c0, FX.out.1.c1, FX.out.1.c2⟩
              | fail)
            (first
              | (go_at_call 49; refine (C.out _).mono ?_; rintro e wn ⟨rfl, hb2⟩; replace FX := Lib.hid (show _ ∧ _ from ⟨FX.out.1.later hb2, w_below FX.out.2 hb2⟩); clear hb2)
              | fail)
          have hb9 := Lib.hid FX.out.2
          clear FX
          go_wp2_with fail
          go_roundw
          case rel => exact ⟨k + 1, by omega, by omega, by go_num, hb9, hN⟩
          case measure => simp [intOf]; omega
    · obtain rfl : k = 7 := by omega
      have hv := inH_neg hall.out
      have hfin := Lib.hid (w_below (w_alloc (w_refl w) (pO p)) hb.out)
      clear hall
      go_wp2_with fail
      go_ret
      exact ⟨by first | rfl | (rw [hv]; rfl), hfin.out⟩

set_option maxHeartbeats 2000000 in
theorem rsmooth_any (a b : Sy) (ha : okS a) (hb : okS b) (w : World) : Calls Tryd.prog 60 #[sv a, sv b] w fun e w' => e = .returned (.bool (smoothB a b)) ∧ Below w.heap.size w w' := by
  have MB := Lib.hid (fun W => rmade_any b hb W)
  have MA := Lib.hid (fun W => rmade_any a ha W)
  have IA := Lib.hid (fun W => rin_any (madeS b) a.1 ha.1 W)
  have IB := Lib.hid (fun W => rin_any (madeS a) b.1 hb.1 W)
  have e : smoothB a b = (inH (madeS b) a.1 || inH (madeS a) b.1) := rfl
  rw [e]
  clear e ha hb
  generalize inH (madeS b) a.1 = x at *
  generalize inH (madeS a) b.1 = y at *
  generalize madeS a = p at *
  generalize madeS b = q at *
  have FX := Lib.hid (show Below w.heap.size w ((w.alloc (sO a)).alloc (sO b)).drew ∧ Cell2 ((w.alloc (sO a)).alloc (sO b)).drew w.heap.size a ∧ Cell2 ((w.alloc (sO a)).alloc (sO b)).drew (w.heap.size + 1) b from
    ⟨(w_alloc (w_alloc (w_refl w) _) _).drew, (boxesC w a (sO b) _).later (w_refl _).drew, (boxesD w a b _).later (w_refl _).drew⟩)
  cases x with
  | true =>
    go_enter Tryd.func60, Tryd.ntmps60
    go_wp2_with fail
    refine wp_region_held (S := fun W => W.cell? ⟨w.heap.size, 0, none⟩ = some (.int .i64 a.1) ∧ W.cell? ⟨w.heap.size, 1, none⟩ = some (.int .i64 a.2) ∧ W.cell? ⟨w.heap.size + 1, 0, none⟩ = some (.int .i64 b.1) ∧ W.cell? ⟨w.heap.size + 1, 1, none⟩ = some (.int .i64 b.2)) (by kernel_rfl) ?_
    change wpAnyH _ _ _ _ _ _ _ _ (World.drew _)
    generalize hw0 : World.drew (World.alloc _ _) = w0
    replace FX := Lib.hid (show Below w.heap.size w w0 ∧ Cell2 w0 w.heap.size a ∧ Cell2 w0 (w.heap.size + 1) b by rw [← hw0]; exact FX.out)
    clear hw0
    refine wpAnyH_take (i := 0) (v := sv b) rfl (by kernel_rfl) (by kernel_rfl) (by kernel_rfl) (fun _ _ _ h => h) (Or.inl ⟨by kernel_rfl, fun W hW => by (obtain ⟨hA, hB, hC, hD⟩ := hW; go_simp)⟩) ⟨FX.out.2.1.c0, FX.out.2.1.c1, FX.out.2.2.c0, FX.out.2.2.c1⟩ ?_
    refine wpAnyH_take (i := 2) (v := .pointer (some ⟨w.heap.size, 0, none⟩)) rfl (by kernel_rfl) (by kernel_rfl) (by kernel_rfl) (fun _ _ _ h => h) (Or.inl ⟨by kernel_rfl, fun _ _ => by go_simp⟩) ⟨FX.out.2.1.c0, FX.out.2.1.c1, FX.out.2.2.c0, FX.out.2.2.c1⟩ ?_
    refine wpAnyH_take (i := 3) (v := .int .i64 a.1) rfl (by kernel_rfl) (by kernel_rfl) (by kernel_rfl) (fun _ _ _ h => h) (Or.inl ⟨by kernel_rfl, fun W hW => by (obtain ⟨hA, hB, hC, hD⟩ := hW; go_simp)⟩) ⟨FX.out.2.1.c0, FX.out.2.1.c1, FX.out.2.2.c0, FX.out.2.2.c1⟩ ?_
    refine wpAnyH_ready (rs := [1]) (by kernel_rfl) (by simp) ?_
    refine AllReadyH.cons rfl (fun K hK => ?_) AllReadyH.nil
    rw [if_pos (by kernel_rfl)]
    go_simp
    go_at_call 49
    refine (MB.out _).mono ?_
    rintro e wn ⟨rfl, hb2⟩
    replace FX := Lib.hid (show _ ∧ _ ∧ _ from ⟨w_below FX.out.1 hb2, FX.out.2.1.later hb2, FX.out.2.2.later hb2⟩)
    clear hb2
    go_simp
    refine hK.out _ _ ⟨FX.out.2.1.c0, FX.out.2.1.c1, FX.out.2.2.c0, FX.out.2.2.c1⟩ (fun _ => ?_)
    clear hK K
    refine wpAnyH_ready (rs := [4]) (by kernel_rfl) (by simp) ?_
    refine AllReadyH.cons rfl (fun K hK => ?_) AllReadyH.nil
    rw [if_pos (by kernel_rfl)]
    go_simp
    go_at_call 74
    refine (IA.out _).mono ?_
    rintro e wm ⟨rfl, hb2⟩
    replace FX := Lib.hid (show _ ∧ _ ∧ _ from ⟨w_below FX.out.1 hb2, FX.out.2.1.later hb2, FX.out.2.2.later hb2⟩)
    clear hb2
    go_simp
    refine hK.out _ _ ⟨FX.out.2.1.c0, FX.out.2.1.c1, FX.out.2.2.c0, FX.out.2.2.c1⟩ (fun _ => ?_)
    clear hK K
    refine wpAnyH_take (i := 5) (v := .bool true) rfl (by kernel_rfl) (by kernel_rfl) (by kernel_rfl) (fun _ _ _ h => h) (Or.inl ⟨by kernel_rfl, fun _ _ => by go_simp⟩) ⟨FX.out.2.1.c0, FX.out.2.1.c1, FX.out.2.2.c0, FX.out.2.2.c1⟩ ?_
    refine wpAnyH_take (i := 6) (v := undef) rfl (by kernel_rfl) (by kernel_rfl) (by kernel_rfl) (fun _ _ _ h => h) (Or.inr ⟨by kernel_rfl, rfl⟩) ⟨FX.out.2.1.c0, FX.out.2.1.c1, FX.out.2.2.c0, FX.out.2.2.c1⟩ ?_
    refine wpAnyH_take (i := 7) (v := undef) rfl (by kernel_rfl) (by kernel_rfl) (by kernel_rfl) (fun _ _ _ h => h) (Or.inr ⟨by kernel_rfl, rfl⟩) ⟨FX.out.2.1.c0, FX.out.2.1.c1, FX.out.2.2.c0, FX.out.2.2.c1⟩ ?_
    refine wpAnyH_take (i := 8) (v := undef) rfl (by kernel_rfl) (by kernel_rfl) (by kernel_rfl) (fun _ _ _ h => h) (Or.inr ⟨by kernel_rfl, rfl⟩) ⟨FX.out.2.1.c0, FX.out.2.1.c1, FX.out.2.2.c0, FX.out.2.2.c1⟩ ?_
    refine wpAnyH_take (i := 9) (v := undef) rfl (by kernel_rfl) (by kernel_rfl) (by kernel_rfl) (fun _ _ _ h => h) (Or.inr ⟨by kernel_rfl, rfl⟩) ⟨FX.out.2.1.c0, FX.out.2.1.c1, FX.out.2.2.c0, FX.out.2.2.c1⟩ ?_
    refine wpAnyH_take (i := 10) (v := undef) rfl (by kernel_rfl) (by kernel_rfl) (by kernel_rfl) (fun _ _ _ h => h) (Or.inr ⟨by kernel_rfl, rfl⟩) ⟨FX.out.2.1.c0, FX.out.2.1.c1, FX.out.2.2.c0, FX.out.2.2.c1⟩ ?_
    refine wpAnyH_take (i := 11) (v := .bool true) rfl (by kernel_rfl) (by kernel_rfl) (by kernel_rfl) (fun _ _ _ h => h) (Or.inl ⟨by kernel_rfl, fun _ _ => by go_simp⟩) ⟨FX.out.2.1.c0, FX.out.2.1.c1, FX.out.2.2.c0, FX.out.2.2.c1⟩ ?_
    refine wpAnyH_take (i := 12) (v := .bool true) rfl (by kernel_rfl) (by kernel_rfl) (by kernel_rfl) (fun _ _ _ h => h) (Or.inl ⟨by kernel_rfl, fun _ _ => by go_simp⟩) ⟨FX.out.2.1.c0, FX.out.2.1.c1, FX.out.2.2.c0, FX.out.2.2.c1⟩ ?_
    refine wpAnyH_done (by kernel_rfl) ?_ _
    go_wp2_with fail
    go_ret
    exact ⟨by kernel_rfl, FX.out.1⟩
  | false =>
    go_enter Tryd.func60, Tryd.ntmps60
    go_wp2_with fail
    refine wp_region_held (S := fun W => W.cell? ⟨w.heap.size, 0, none⟩ = some (.int .i64 a.1) ∧ W.cell? ⟨w.heap.size, 1, none⟩ = some (.int .i64 a.2) ∧ W.cell? ⟨w.heap.size + 1, 0, none⟩ = some (.int .i64 b.1) ∧ W.cell? ⟨w.heap.size + 1, 1, none⟩ = some (.int .i64 b.2)) (by kernel_rfl) ?_
    change wpAnyH _ _ _ _ _ _ _ _ (World.drew _)
    generalize hw0 : World.drew (World.alloc _ _) = w0
    replace FX := Lib.hid (show Below w.heap.size w w0 ∧ Cell2 w0 w.heap.size a ∧ Cell2 w0 (w.heap.size + 1) b by rw [← hw0]; exact FX.out)
    clear hw0
    refine wpAnyH_take (i := 0) (v := sv b) rfl (by kernel_rfl) (by kernel_rfl) (by kernel_rfl) (fun _ _ _ h => h) (Or.inl ⟨by kernel_rfl, fun W hW => by (obtain ⟨hA, hB, hC, hD⟩ := hW; go_simp)⟩) ⟨FX.out.2.1.c0, FX.out.2.1.c1, FX.out.2.2.c0, FX.out.2.2.c1⟩ ?_
    refine wpAnyH_take (i := 2) (v := .pointer (some ⟨w.heap.size, 0, none⟩)) rfl (by kernel_rfl) (by kernel_rfl) (by kernel_rfl) (fun _ _ _ h => h) (Or.inl ⟨by kernel_rfl, fun _ _ => by go_simp⟩) ⟨FX.out.2.1.c0, FX.out.2.1.c1, FX.out.2.2.c0, FX.out.2.2.c1⟩ ?_
    refine wpAnyH_take (i := 3) (v := .int .i64 a.1) rfl (by kernel_rfl) (by kernel_rfl) (by kernel_rfl) (fun _ _ _ h => h) (Or.inl ⟨by kernel_rfl, fun W hW => by (obtain ⟨hA, hB, hC, hD⟩ := hW; go_simp)⟩) ⟨FX.out.2.1.c0, FX.out.2.1.c1, FX.out.2.2.c0, FX.out.2.2.c1⟩ ?_
    refine wpAnyH_ready (rs := [1]) (by kernel_rfl) (by simp) ?_
    refine AllReadyH.cons rfl (fun K hK => ?_) AllReadyH.nil
    rw [if_pos (by kernel_rfl)]
    go_simp
    go_at_call 49
    refine (MB.out _).mono ?_
    rintro e wn ⟨rfl, hb2⟩
    replace FX := Lib.hid (show _ ∧ _ ∧ _ from ⟨w_below FX.out.1 hb2, FX.out.2.1.later hb2, FX.out.2.2.later hb2⟩)
    clear hb2
    go_simp
    refine hK.out _ _ ⟨FX.out.2.1.c0, FX.out.2.1.c1, FX.out.2.2.c0, FX.out.2.2.c1⟩ (fun _ => ?_)
    clear hK K
    refine wpAnyH_ready (rs := [4]) (by kernel_rfl) (by simp) ?_
    refine AllReadyH.cons rfl (fun K hK => ?_) AllReadyH.nil
    rw [if_pos (by kernel_rfl)]
    go_simp
    go_at_call 74
    refine (IA.out _).mono ?_
    rintro e wm ⟨rfl, hb2⟩
    replace FX := Lib.hid (show _ ∧ _ ∧ _ from ⟨w_below FX.out.1 hb2, FX.out.2.1.later hb2, FX.out.2.2.later hb2⟩)
    clear hb2
    go_simp
    refine hK.out _ _ ⟨FX.out.2.1.c0, FX.out.2.1.c1, FX.out.2.2.c0, FX.out.2.2.c1⟩ (fun _ => ?_)
    clear hK K
    refine wpAnyH_take (i := 5) (v := .bool false) rfl (by kernel_rfl) (by kernel_rfl) (by kernel_rfl) (fun _ _ _ h => h) (Or.inl ⟨by kernel_rfl, fun _ _ => by go_simp⟩) ⟨FX.out.2.1.c0, FX.out.2.1.c1, FX.out.2.2.c0, FX.out.2.2.c1⟩ ?_
    refine wpAnyH_take (i := 6) (v := sv a) rfl (by kernel_rfl) (by kernel_rfl) (by kernel_rfl) (fun _ _ _ h => h) (Or.inl ⟨by kernel_rfl, fun W hW => by (obtain ⟨hA, hB, hC, hD⟩ := hW; go_simp)⟩) ⟨FX.out.2.1.c0, FX.out.2.1.c1, FX.out.2.2.c0, FX.out.2.2.c1⟩ ?_
    refine wpAnyH_take (i := 8) (v := .pointer (some ⟨w.heap.size + 1, 0, none⟩)) rfl (by kernel_rfl) (by kernel_rfl) (by kernel_rfl) (fun _ _ _ h => h) (Or.inl ⟨by kernel_rfl, fun _ _ => by go_simp⟩) ⟨FX.out.2.1.c0, FX.out.2.1.c1, FX.out.2.2.c0, FX.out.2.2.c1⟩ ?_
    refine wpAnyH_take (i := 9) (v := .int .i64 b.1) rfl (by kernel_rfl) (by kernel_rfl) (by kernel_rfl) (fun _ _ _ h => h) (Or.inl ⟨by kernel_rfl, fun W hW => by (obtain ⟨hA, hB, hC, hD⟩ := hW; go_simp)⟩) ⟨FX.out.2.1.c0, FX.out.2.1.c1, FX.out.2.2.c0, FX.out.2.2.c1⟩ ?_
    refine wpAnyH_ready (rs := [7]) (by kernel_rfl) (by simp) ?_
    refine AllReadyH.cons rfl (fun K hK => ?_) AllReadyH.nil
    rw [if_pos (by kernel_rfl)]
    go_simp
    go_at_call 49
    refine (MA.out _).mono ?_
    rintro e wk ⟨rfl, hb2⟩
    replace FX := Lib.hid (show _ ∧ _ ∧ _ from ⟨w_below FX.out.1 hb2, FX.out.2.1.later hb2, FX.out.2.2.later hb2⟩)
    clear hb2
    go_simp
    refine hK.out _ _ ⟨FX.out.2.1.c0, FX.out.2.1.c1, FX.out.2.2.c0, FX.out.2.2.c1⟩ (fun _ => ?_)
    clear hK K
    refine wpAnyH_ready (rs := [10]) (by kernel_rfl) (by simp) ?_
    refine AllReadyH.cons rfl (fun K hK => ?_) AllReadyH.nil
    rw [if_pos (by kernel_rfl)]
    go_simp
    go_at_call 74
    refine (IB.out _).mono ?_
    rintro e wl ⟨rfl, hb2⟩
    replace FX := Lib.hid (show _ ∧ _ ∧ _ from ⟨w_below FX.out.1 hb2, FX.out.2.1.later hb2, FX.out.2.2.later hb2⟩)
    clear hb2
    go_simp
    refine hK.out _ _ ⟨FX.out.2.1.c0, FX.out.2.1.c1, FX.out.2.2.c0, FX.out.2.2.c1⟩ (fun _ => ?_)
    clear hK K
    refine wpAnyH_take (i := 11) (v := .bool y) rfl (by kernel_rfl) (by kernel_rfl) (by kernel_rfl) (fun _ _ _ h => h) (Or.inl ⟨by kernel_rfl, fun _ _ => by go_simp⟩) ⟨FX.out.2.1.c0, FX.out.2.1.c1, FX.out.2.2.c0, FX.out.2.2.c1⟩ ?_
    refine wpAnyH_take (i := 12) (v := .bool y) rfl (by kernel_rfl) (by kernel_rfl) (by kernel_rfl) (fun _ _ _ h => h) (Or.inl ⟨by kernel_rfl, fun _ _ => by go_simp⟩) ⟨FX.out.2.1.c0, FX.out.2.1.c1, FX.out.2.2.c0, FX.out.2.2.c1⟩ ?_
    refine wpAnyH_done (by kernel_rfl) ?_ _
    go_wp2_with fail
    go_ret
    exact ⟨by kernel_rfl, FX.out.1⟩

end Go.Proofs.YtaldbjhalpgkeaaDoor
