/- The program's Mirror and Between. -/
import Derived.Test.YtpkihehacocbhaaDoorPProgB
namespace Go.Proofs.YtpkihehacocbhaaDoor
open Go.RowKit

theorem bothV_ok {p q : Pi3} (h : okP p) (k : okP q) : bothV p q = 0 := by unfold bothV; rw [if_pos h, chkV_ok k]
theorem bothV_no {p q : Pi3} (h : ¬ (okP p ∧ okP q)) : bothV p q = 2 := by
  unfold bothV
  by_cases hp : okP p
  · rw [if_pos hp, chkV_no (fun k => h ⟨hp, k⟩)]
  · rw [if_neg hp]

set_option maxHeartbeats 4000000 in
theorem wmirror_any (p q : Pi3) (w : World) : Calls Tryd.prog 15 #[pv p, pv q] w (OfPost (mirV p q) w) := by
  have C := Lib.hid (fun W => wboth_any p q W)
  have K := Lib.hid (boxes3 w p q (0, 0, 0) 23)
  by_cases h : okP p ∧ okP q
  · rw [mirV_ok h.1 h.2]
    rw [bothV_ok h.1 h.2] at C
    obtain ⟨op, oq⟩ := h
    have n1 := num_bd op
    have n2 := num_bd oq
    have x1 : IntKind.i64.wrap (2 * numI q) = 2 * numI q := IntWalk.i64_in _ (by omega)
    have x2 : IntKind.i64.wrap (2 * numI q - numI p) = 2 * numI q - numI p := IntWalk.i64_in _ (by omega)
    have x3 : IntKind.i64.wrap (-p.2.2) = -p.2.2 := IntWalk.i64_in _ (by have := op.2.2; omega)
    have O := Lib.hid (fun W => wof_any (2 * numI q - numI p) (-p.2.2) W (by omega) (by omega))
    unfold OfPost at O
    generalize ofV (2 * numI q - numI p) (-p.2.2) = r at *
    obtain ⟨⟨r1, r2, r3⟩, re⟩ := r
    clear n1 n2
    have OP := Lib.hid op
    have OQ := Lib.hid oq
    clear op oq
    go_enter Tryd.func15, Tryd.ntmps15
    go_wp2_with fail
    refine (C.out _).mono ?_
    rintro e w1 ⟨rfl, hb⟩
    have FX := Lib.hid (show Fr w w1.drew w.heap.size (w.heap.size + 1) (w.heap.size + 1 + 1) p q (0, 0, 0) from
      Fr.later ⟨w_below (w_alloc (w_alloc (w_alloc (w_refl w) _) _) _) hb, K.out.1.later hb, K.out.2.1.later hb, K.out.2.2.later hb⟩ (w_refl w1).drew)
    obtain ⟨_, d0, d1, d2, f0, f1, f2⟩ := FX.out.R
    clear hb K C
    go_wp2_with fail
    go_region_held3 (fun W => W.cell? ⟨w.heap.size, 0, none⟩ = some (.int .i64 p.1) ∧ W.cell? ⟨w.heap.size, 1, none⟩ = some (.int .i64 p.2.1) ∧ W.cell? ⟨w.heap.size, 2, none⟩ = some (.int .i64 p.2.2) ∧ W.cell? ⟨w.heap.size + 1, 0, none⟩ = some (.int .i64 q.1) ∧ W.cell? ⟨w.heap.size + 1, 1, none⟩ = some (.int .i64 q.2.1) ∧ W.cell? ⟨w.heap.size + 1, 2, none⟩ = some (.int .i64 q.2.2))
      (first
        | exact ⟨FX.out.P.c0, FX.out.P.c1, FX.out.P.c2, FX.out.Q.c0, FX.out.Q.c1, FX.out.Q.c2⟩
        | exact (let F := FX.out.P.other (r1, r2, r3) (by omega); let G := FX.out.Q.other (r1, r2, r3) (by omega); ⟨F.c0, F.c1, F.c2, G.c0, G.c1, G.c2⟩))
      (first
        | (go_at_call 33; refine (wnum_any _ (by first | exact OP.out | exact OQ.out) _).mono ?_; rintro e wn ⟨rfl, hb⟩; replace FX := Lib.hid (FX.out.later hb); clear hb d0 d1 d2 f0 f1 f2; obtain ⟨_, d0, d1, d2, f0, f1, f2⟩ := FX.out.R)
        | (go_at_call 12; refine (O.out _).mono ?_; rintro e wn ⟨rfl, hb⟩; replace FX := Lib.hid (FX.out.later hb); clear hb d0 d1 d2 f0 f1 f2; obtain ⟨_, d0, d1, d2, f0, f1, f2⟩ := FX.out.R)
        | fail)
    all_goals
      go_wp2_with fail
      refine bodyPost_ret (v := .tuple #[pv (r1, r2, r3), .int .i64 re]) (by simp [results, Tryd.results15, go_sem, d0, d1, d2]) rfl ⟨rfl, ?_⟩
      exact w_set (w_set (w_set FX.out.bel (by show _ ≤ _ + 1 + 1; omega) _) (by show _ ≤ _ + 1 + 1; omega) _) (by show _ ≤ _ + 1 + 1; omega) _
  · have hm : mirV p q = ((0, 0, 0), 2) := if_neg h
    rw [hm]
    rw [bothV_no h] at C
    clear h hm
    go_enter Tryd.func15, Tryd.ntmps15
    go_wp2_with fail
    refine (C.out _).mono ?_
    rintro e w1 ⟨rfl, hb⟩
    have hB := Lib.hid (w_below (w_alloc (w_alloc (w_alloc (w_refl w) _) _) _) hb)
    obtain ⟨hin, d0, d1, d2, f0, f1, f2⟩ := K.out.2.2.later hb
    simp only at d0 d1 d2
    clear hb K C
    go_wp2_with fail
    refine bodyPost_ret (v := .tuple #[pv (0, 0, 0), .int .i64 2]) (by simp [results, Tryd.results15, go_sem, d0, d1, d2]) rfl ⟨rfl, ?_⟩
    exact w_set (w_set (w_set hB.out (by show _ ≤ _ + 1 + 1; omega) _) (by show _ ≤ _ + 1 + 1; omega) _) (by show _ ≤ _ + 1 + 1; omega) _

end Go.Proofs.YtpkihehacocbhaaDoor
