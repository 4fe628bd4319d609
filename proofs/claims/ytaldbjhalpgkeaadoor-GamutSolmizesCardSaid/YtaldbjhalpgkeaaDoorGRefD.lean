/- The reference's ways to sing a pitch. -/
import Derived.Test.YtaldbjhalpgkeaaDoorGRefC
import Derived.Maps.AppendAt
import Derived.Deep.Onto
namespace Go.Proofs.YtaldbjhalpgkeaaDoor
open Go.RowKit

set_option maxHeartbeats 4000000 in
theorem rmadeways_own (p : Pi3) (w : World) : Calls Tryd.prog 45 #[pv p] w fun e w' => ∃ v, e = .returned v ∧ w'.ownsRow w.heap.size 25 2 v (waysL p).length (flatS (waysL p)) ∧ Below w.heap.size w w' := by
  have M := Lib.hid (fun s (hs : okS s) W => rmade_any s hs W)
  obtain ⟨i0, hi0, hz0, hz1, hz2⟩ := info_parts info_syl
  have K := Lib.hid (Cell3.made w p 23)
  have B0 := Lib.hid (w_alloc (w_refl w) (pO p))
  go_enter Tryd.func45, Tryd.ntmps45
  go_wp2_with fail
  generalize w.alloc (.cells #[.int .i64 p.1, .int .i64 p.2.1, .int .i64 p.2.2] 23) = w0 at *
  go_loopw [3, 4] (fun v i wr => ∃ h : Int, 1 ≤ h ∧ h ≤ 8 ∧ i = .int .i64 h ∧ (∃ q c, v = .slice q (wayTo p h 1).length c) ∧ Hid (OwnL w0 wr 25 2 v (wayTo p h 1).length (flatS (wayTo p h 1)))) (fun _ i _ => (8 - intOf i).toNat)
  case atStart => exact ⟨1, by omega, by omega, rfl, ⟨none, 0, rfl⟩, Lib.hid (OwnL.start _ _ _)⟩
  case round =>
    obtain ⟨h, h1, h2, rfl, ⟨q, c, rfl⟩, ho⟩ := hrel
    by_cases hlt : h ≤ 7
    · go_wp2_with fail
      go_loopw [3, 5] (fun v j wr => ∃ y : Int, 1 ≤ y ∧ y ≤ 7 ∧ j = .int .i64 y ∧ (∃ q c, v = .slice q (wayTo p h y).length c) ∧ Hid (OwnL w0 wr 25 2 v (wayTo p h y).length (flatS (wayTo p h y)))) (fun _ j _ => (7 - intOf j).toNat)
      case atStart => exact ⟨1, by omega, by omega, rfl, ⟨q, c, rfl⟩, ho⟩
      case round =>
        obtain ⟨y, y1, y2, rfl, ⟨q', c', rfl⟩, ho2⟩ := hrel
        by_cases hy : y ≤ 6
        · have C := Lib.hid (fun W => M.out (h, y) ⟨⟨h1, hlt⟩, y1, hy⟩ W)
          have next := Lib.hid (way_next p h1 hlt y1 hy)
          have hlen := way_len p h y
          have FX := Lib.hid (show Cell2 (wr.alloc (.cells #[.int .i64 h, .int .i64 y] 25)).drew wr.heap.size (h, y) ∧ Cell3 (wr.alloc (.cells #[.int .i64 h, .int .i64 y] 25)).drew w.heap.size p ∧ Below wr.heap.size wr (wr.alloc (.cells #[.int .i64 h, .int .i64 y] 25)).drew from
            ⟨(Cell2.made wr (h, y) _).later (w_refl _).drew, (((K.out.later ho2.out.bel).later (w_alloc (w_refl _) _)).later (w_refl _).drew), (w_alloc (w_refl _) _).drew⟩)
          by_cases e : madeS (h, y) = p
          · rw [if_pos e] at next
            rw [e] at C
            clear e
            generalize wayTo p h y = L at *
            obtain ⟨L', hL'⟩ : ∃ L', wayTo p h (y + 1) = L' := ⟨_, rfl⟩
            rw [hL'] at next
            have hE := Lib.hid hL'
            clear hL'
            go_wp2_with fail
            go_region_held3 (fun W => W.cell? ⟨w.heap.size, 0, none⟩ = some (.int .i64 p.1) ∧ W.cell? ⟨w.heap.size, 1, none⟩ = some (.int .i64 p.2.1) ∧ W.cell? ⟨w.heap.size, 2, none⟩ = some (.int .i64 p.2.2) ∧ W.cell? ⟨wr.heap.size, 0, none⟩ = some (.int .i64 h) ∧ W.cell? ⟨wr.heap.size, 1, none⟩ = some (.int .i64 y))
              (first
                | exact ⟨FX.out.2.1.c0, FX.out.2.1.c1, FX.out.2.1.c2, FX.out.1.c0, FX.out.1.c1⟩
                | fail)
              (first
                | (go_at_call 49; refine (C.out _).mono ?_; rintro e wn ⟨rfl, hb2⟩; replace FX := Lib.hid (show _ ∧ _ ∧ _ from ⟨FX.out.1.later hb2, FX.out.2.1.later hb2, w_below FX.out.2.2 hb2⟩); clear hb2)
                | fail)
            obtain ⟨_, c0, c1, _, _⟩ := FX.out.1
            have HB := Lib.hid (show Below wr.heap.size wr (wn.alloc (.cells #[.int .i64 h, .int .i64 y] 25)) from w_alloc FX.out.2.2 _)
            have HO := Lib.hid (ho2.out.later HB.out)
            go_wp2_with (at_builtin; refine wpList_append_own_at _ rfl _ _ 29 rfl w0.heap.size 25 i0 (.agg #[.int .i64 0, .int .i64 0]) 2 16 Tryd.underlying29 hi0 hz0 hz1 hz2 rfl (by decide) _ L.length (flatS L) rfl HO.out.row ⟨wn.heap.size, 0, none⟩ 1 1 (flatS [(h, y)]) rfl rfl (lit_new _ _ _) (flatS_one _) (by unfold maxLen; omega) (by omega) HO.out.bel.size ?_)
            intro v' w3 hown hgrow _ _
            have HN := Lib.hid (show OwnL w0 w3 25 2 v' L'.length (flatS L') by
              have := ho2.out.app HB.out hown hgrow
              rw [next.out, flatS_app, List.length_append]; exact this)
            obtain ⟨q2, c2, hv⟩ := HN.out.val
            subst hv
            clear hown hgrow HO HB FX
            go_wp2_with fail
            go_roundw
            case rel => exact ⟨y + 1, by omega, by omega, by go_num, ⟨q2, c2, by rw [hE.out]⟩, by rw [hE.out]; exact HN⟩
            case measure => simp [intOf]; omega
          · rw [if_neg e, List.append_nil] at next
            have hd := ne3 e
            clear e
            generalize madeS (h, y) = r at *
            generalize wayTo p h y = L at *
            rcases hd with ⟨e1, e2⟩ | ⟨e0, e1, e2⟩ | ⟨e0, e3, e1, e2⟩
            all_goals
              go_wp2_with fail
              go_region_held3 (fun W => W.cell? ⟨w.heap.size, 0, none⟩ = some (.int .i64 p.1) ∧ W.cell? ⟨w.heap.size, 1, none⟩ = some (.int .i64 p.2.1) ∧ W.cell? ⟨w.heap.size, 2, none⟩ = some (.int .i64 p.2.2) ∧ W.cell? ⟨wr.heap.size, 0, none⟩ = some (.int .i64 h) ∧ W.cell? ⟨wr.heap.size, 1, none⟩ = some (.int .i64 y))
                (first
                  | exact ⟨FX.out.2.1.c0, FX.out.2.1.c1, FX.out.2.1.c2, FX.out.1.c0, FX.out.1.c1⟩
                  | fail)
                (first
                  | (go_at_call 49; refine (C.out _).mono ?_; rintro e wn ⟨rfl, hb2⟩; replace FX := Lib.hid (show _ ∧ _ ∧ _ from ⟨FX.out.1.later hb2, FX.out.2.1.later hb2, w_below FX.out.2.2 hb2⟩); clear hb2)
                  | fail)
              have HN := Lib.hid (ho2.out.later FX.out.2.2)
              clear FX
              go_wp2_with fail
              go_roundw
              case rel => exact ⟨y + 1, by omega, by omega, by go_num, ⟨q', c', by rw [next.out]⟩, by rw [next.out]; exact HN⟩
              case measure => simp [intOf]; omega
        · obtain rfl : y = 7 := by omega
          have hrow := Lib.hid (way_row p h1 hlt)
          go_wp2_with fail
          go_roundw
          case rel => exact ⟨h + 1, by omega, by omega, by go_num, ⟨q', c', by rw [hrow.out]⟩, by rw [hrow.out]; exact ho2⟩
          case measure => simp [intOf]; omega
    · obtain rfl : h = 8 := by omega
      have hfin := Lib.hid (show wr.ownsRow w.heap.size 25 2 (.slice q (wayTo p 8 1).length c) (waysL p).length (flatS (waysL p)) ∧ Below w.heap.size w wr from by
        rw [← way_end p]
        exact ⟨ho.out.row.mono B0.out.size, w_below B0.out ho.out.bel⟩)
      go_wp2_with fail
      go_ret
      exact ⟨_, rfl, hfin.out⟩

theorem rmadeways_any (p : Pi3) (w : World) : Calls Tryd.prog 45 #[pv p] w fun e w' => ∃ v, e = .returned v ∧ SylV w' v (waysL p) ∧ Below w.heap.size w w' :=
  (rmadeways_own p w).mono fun _ _ ⟨v, h1, h2, h3⟩ => ⟨v, h1, SylV.of_own h2, h3⟩

end Go.Proofs.YtaldbjhalpgkeaaDoor
