/- The program's Between. -/
import Derived.Test.YtpkihehacocbhaaDoorPProgC
namespace Go.Proofs.YtpkihehacocbhaaDoor
open Go.RowKit

abbrev put2 (w : World) (b : Nat) (i : Int × Int) : World := (w.setCell ⟨b, 0, none⟩ (.int .i64 i.1)).setCell ⟨b, 1, none⟩ (.int .i64 i.2)
theorem Cell3.other2 {w : World} {b c : Nat} {p : Pi3} (h : Cell3 w b p) (q : Int × Int) (hc : b ≠ c) : Cell3 (put2 w c q) b p := by
  refine ⟨by simp; exact h.inb, pkept (pkept h.c0 (.inl hc)) (.inl hc), pkept (pkept h.c1 (.inl hc)) (.inl hc), pkept (pkept h.c2 (.inl hc)) (.inl hc), ?_, ?_, ?_⟩
  · rw [World.frozen?_setCell, World.frozen?_setCell]; exact h.f0
  · rw [World.frozen?_setCell, World.frozen?_setCell]; exact h.f1
  · rw [World.frozen?_setCell, World.frozen?_setCell]; exact h.f2

/-- Two pitches in boxes and an interval that is written. -/
theorem boxesI (w : World) (p q : Pi3) (t u : TypeId) :
    Cell3 (((w.alloc (.cells #[.int .i64 p.1, .int .i64 p.2.1, .int .i64 p.2.2] t)).alloc (.cells #[.int .i64 q.1, .int .i64 q.2.1, .int .i64 q.2.2] t)).alloc (.cells #[.int .i64 0, .int .i64 0] u)) w.heap.size p ∧
    Cell3 (((w.alloc (.cells #[.int .i64 p.1, .int .i64 p.2.1, .int .i64 p.2.2] t)).alloc (.cells #[.int .i64 q.1, .int .i64 q.2.1, .int .i64 q.2.2] t)).alloc (.cells #[.int .i64 0, .int .i64 0] u)) (w.heap.size + 1) q ∧
    CellI (((w.alloc (.cells #[.int .i64 p.1, .int .i64 p.2.1, .int .i64 p.2.2] t)).alloc (.cells #[.int .i64 q.1, .int .i64 q.2.1, .int .i64 q.2.2] t)).alloc (.cells #[.int .i64 0, .int .i64 0] u)) (w.heap.size + 1 + 1) 0 0 := by
  refine ⟨(boxes w p q t _).1, (boxes w p q t _).2, ?_⟩
  have := CellI.made ((w.alloc (.cells #[.int .i64 p.1, .int .i64 p.2.1, .int .i64 p.2.2] t)).alloc (.cells #[.int .i64 q.1, .int .i64 q.2.1, .int .i64 q.2.2] t)) 0 0 u
  rwa [World.size_alloc, World.size_alloc] at this

/-- What stands while the region is walked. -/
structure FrI (w W : World) (bp bq b : Nat) (p q : Pi3) : Prop where
  bel : Below w.heap.size w W
  tab : Tab W
  P : Cell3 W bp p
  Q : Cell3 W bq q
  R : CellI W b 0 0
theorem FrI.later {w W W' : World} {bp bq b : Nat} {p q : Pi3} (h : FrI w W bp bq b p q) (k : Below W.heap.size W W') : FrI w W' bp bq b p q :=
  ⟨w_below h.bel k, h.tab.later k, h.P.later k, h.Q.later k, h.R.later k⟩

set_option maxHeartbeats 8000000 in
theorem wbetween_any (p q : Pi3) (w : World) (T : Tab w) : Calls Tryd.prog 16 #[pv p, pv q] w (BetPost (betV p q) w) := by
  have C := Lib.hid (fun W => wboth_any p q W)
  have K := Lib.hid (boxesI w p q 23 33)
  have TH := Lib.hid T
  clear T
  by_cases h : okP p ∧ okP q
  · rw [betV_ok h.1 h.2]
    rw [bothV_ok h.1 h.2] at C
    obtain ⟨op, oq⟩ := h
    have n1 := num_bd op
    have n2 := num_bd oq
    have n3 := hei_bd op
    have n4 := hei_bd oq
    have x1 : IntKind.i64.wrap (numI q - numI p) = numI q - numI p := IntWalk.i64_in _ (by omega)
    have x2 : IntKind.i64.wrap (heiI q - heiI p) = heiI q - heiI p := IntWalk.i64_in _ (by omega)
    clear n1 n2 n3 n4
    have OP := Lib.hid op
    have OQ := Lib.hid oq
    clear op oq
    go_enter Tryd.func16, Tryd.ntmps16
    go_wp2_with fail
    refine (C.out _).mono ?_
    rintro e w1 ⟨rfl, hb⟩
    have FX := Lib.hid (show FrI w w1.drew w.heap.size (w.heap.size + 1) (w.heap.size + 1 + 1) p q from
      have b := w_below (w_alloc (w_alloc (w_alloc (w_refl w) _) _) _) hb
      FrI.later ⟨b, TH.out.later b, K.out.1.later hb, K.out.2.1.later hb, K.out.2.2.later hb⟩ (w_refl w1).drew)
    obtain ⟨_, d0, d1, f0, f1⟩ := FX.out.R
    clear hb K C TH
    go_wp2_with fail
    go_region_held3 (fun W => W.cell? ⟨w.heap.size, 0, none⟩ = some (.int .i64 p.1) ∧ W.cell? ⟨w.heap.size, 1, none⟩ = some (.int .i64 p.2.1) ∧ W.cell? ⟨w.heap.size, 2, none⟩ = some (.int .i64 p.2.2) ∧ W.cell? ⟨w.heap.size + 1, 0, none⟩ = some (.int .i64 q.1) ∧ W.cell? ⟨w.heap.size + 1, 1, none⟩ = some (.int .i64 q.2.1) ∧ W.cell? ⟨w.heap.size + 1, 2, none⟩ = some (.int .i64 q.2.2))
      (first
        | exact ⟨FX.out.P.c0, FX.out.P.c1, FX.out.P.c2, FX.out.Q.c0, FX.out.Q.c1, FX.out.Q.c2⟩
        | exact (let F := FX.out.P.other2 (numI q - numI p, heiI q - heiI p) (by omega); let G := FX.out.Q.other2 (numI q - numI p, heiI q - heiI p) (by omega); ⟨F.c0, F.c1, F.c2, G.c0, G.c1, G.c2⟩))
      (first
        | (go_at_call 33; refine (wnum_any _ (by first | exact OP.out | exact OQ.out) _).mono ?_; rintro e wn ⟨rfl, hb⟩; replace FX := Lib.hid (FX.out.later hb); clear hb d0 d1 f0 f1; obtain ⟨_, d0, d1, f0, f1⟩ := FX.out.R)
        | (go_at_call 34; refine (whei_any _ (by first | exact OP.out | exact OQ.out) _ FX.out.tab).mono ?_; rintro e wn ⟨rfl, hb⟩; replace FX := Lib.hid (FX.out.later hb); clear hb d0 d1 f0 f1; obtain ⟨_, d0, d1, f0, f1⟩ := FX.out.R)
        | fail)
    all_goals
      go_wp2_with fail
      refine bodyPost_ret (v := .tuple #[iv (numI q - numI p, heiI q - heiI p), .int .i64 0]) (by simp [results, Tryd.results16, go_sem, d0, d1]) rfl ⟨rfl, ?_⟩
      exact w_set (w_set FX.out.bel (by show _ ≤ _ + 1 + 1; omega) _) (by show _ ≤ _ + 1 + 1; omega) _
  · have hm : betV p q = ((0, 0), 2) := if_neg h
    rw [hm]
    rw [bothV_no h] at C
    clear h hm TH
    go_enter Tryd.func16, Tryd.ntmps16
    go_wp2_with fail
    refine (C.out _).mono ?_
    rintro e w1 ⟨rfl, hb⟩
    have hB := Lib.hid (w_below (w_alloc (w_alloc (w_alloc (w_refl w) _) _) _) hb)
    obtain ⟨hin, d0, d1, f0, f1⟩ := K.out.2.2.later hb
    clear hb K C
    go_wp2_with fail
    refine bodyPost_ret (v := .tuple #[iv (0, 0), .int .i64 2]) (by simp [results, Tryd.results16, go_sem, d0, d1]) rfl ⟨rfl, ?_⟩
    exact w_set (w_set hB.out (by show _ ≤ _ + 1 + 1; omega) _) (by show _ ≤ _ + 1 + 1; omega) _

end Go.Proofs.YtpkihehacocbhaaDoor
