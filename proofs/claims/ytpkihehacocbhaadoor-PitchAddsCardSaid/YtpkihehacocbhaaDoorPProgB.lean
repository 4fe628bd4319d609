/- The program's Of and Move. -/
import Derived.Test.YtpkihehacocbhaaDoorPProg
import Derived.Test.YtpkihehacocbhaaDoorPRefF
namespace Go.Proofs.YtpkihehacocbhaaDoor
open Go.RowKit

theorem neg_parts {n : Int} (h : n < 0) : n.tmod 7 = -((-n) % 7) ∧ n.tdiv 7 = -((-n) / 7) := by
  have e : n = -(-n) := by omega
  constructor
  · conv => lhs; rw [e]
    rw [Int.neg_tmod, Int.tmod_eq_emod_of_nonneg (by omega)]
  · conv => lhs; rw [e]
    rw [Int.neg_tdiv, Int.tdiv_eq_ediv_of_nonneg (by omega)]
theorem of_parts (n k : Int) : okP (n.tmod 7, n.tdiv 7, k) ↔ (0 ≤ n ∧ n ≤ 62) ∧ (-1 ≤ k ∧ k ≤ 1) := by
  unfold okP
  simp only
  by_cases h : 0 ≤ n
  · rw [Int.tmod_eq_emod_of_nonneg h, Int.tdiv_eq_ediv_of_nonneg h]; omega
  · rw [(neg_parts (by omega)).1, (neg_parts (by omega)).2]; omega
theorem part_bd {n : Int} (h1 : -9223372036854775808 ≤ n) (h2 : n ≤ 9223372036854775807) : (-9223372036854775808 ≤ n.tmod 7 ∧ n.tmod 7 ≤ 9223372036854775807) ∧ (-9223372036854775808 ≤ n.tdiv 7 ∧ n.tdiv 7 ≤ 9223372036854775807) := by
  by_cases h : 0 ≤ n
  · rw [Int.tmod_eq_emod_of_nonneg h, Int.tdiv_eq_ediv_of_nonneg h]; omega
  · rw [(neg_parts (by omega)).1, (neg_parts (by omega)).2]; omega

/-- Two pitches in boxes of their own. -/
theorem boxes2 (w : World) (p q : Pi3) (t : TypeId) :
    Cell3 ((w.alloc (.cells #[.int .i64 p.1, .int .i64 p.2.1, .int .i64 p.2.2] t)).alloc (.cells #[.int .i64 q.1, .int .i64 q.2.1, .int .i64 q.2.2] t)) w.heap.size p ∧
    Cell3 ((w.alloc (.cells #[.int .i64 p.1, .int .i64 p.2.1, .int .i64 p.2.2] t)).alloc (.cells #[.int .i64 q.1, .int .i64 q.2.1, .int .i64 q.2.2] t)) (w.heap.size + 1) q := by
  refine ⟨(Cell3.made w p t).later (w_alloc (w_refl _) _), ?_⟩
  have := Cell3.made (w.alloc (.cells #[.int .i64 p.1, .int .i64 p.2.1, .int .i64 p.2.2] t)) q t
  rwa [World.size_alloc] at this

set_option maxHeartbeats 1000000 in
theorem wof_any (n k : Int) (w : World) (h1 : -9223372036854775808 ≤ n) (h2 : n ≤ 9223372036854775807) : Calls Tryd.prog 12 #[.int .i64 n, .int .i64 k] w (OfPost (ofV n k) w) := by
  have bd := part_bd h1 h2
  have hp := of_parts n k
  have C := Lib.hid (fun W => wcheck_any (n.tmod 7, n.tdiv 7, k) W)
  have x1 : IntKind.i64.wrap (n.tmod 7) = n.tmod 7 := IntWalk.i64_in _ (by omega)
  have x2 : IntKind.i64.wrap (n.tdiv 7) = n.tdiv 7 := IntWalk.i64_in _ (by omega)
  by_cases h : (0 ≤ n ∧ n ≤ 62) ∧ (-1 ≤ k ∧ k ≤ 1)
  · rw [chkV_ok (hp.2 h)] at C
    rw [of_ok h]
    rw [← Int.tmod_eq_emod_of_nonneg h.1.1, ← Int.tdiv_eq_ediv_of_nonneg h.1.1]
    clear hp h bd h1 h2
    obtain ⟨s, hs⟩ : ∃ s, n.tmod 7 = s := ⟨_, rfl⟩
    obtain ⟨o, ho⟩ : ∃ o, n.tdiv 7 = o := ⟨_, rfl⟩
    rw [hs] at x1 C ⊢
    rw [ho] at x2 C ⊢
    have K := Lib.hid (boxes2 w (0, 0, 0) (s, o, k) 23)
    go_enter Tryd.func12, Tryd.ntmps12
    go_wp2_with fail
    refine (C.out _).mono ?_
    rintro e w1 ⟨rfl, hb⟩
    have hB := Lib.hid (w_below (w_alloc (w_alloc (w_refl w) _) _) hb)
    obtain ⟨hin, d0, d1, d2, f0, f1, f2⟩ := K.out.1.later hb
    obtain ⟨_, c0, c1, c2, _, _, _⟩ := K.out.2.later hb
    simp only at d0 d1 d2 f0 f1 f2 c0 c1 c2
    clear hb K C
    go_wp2_with fail
    refine bodyPost_ret (v := .tuple #[pv (s, o, k), .int .i64 0]) (by simp [results, Tryd.results12, go_sem, d0, d1, d2]) rfl ⟨rfl, ?_⟩
    exact w_set (w_set (w_set hB.out (by simp) _) (by simp) _) (by simp) _
  · rw [chkV_no (fun x => h (hp.1 x))] at C
    rw [of_no h]
    clear hp h bd h1 h2
    obtain ⟨s, hs⟩ : ∃ s, n.tmod 7 = s := ⟨_, rfl⟩
    obtain ⟨o, ho⟩ : ∃ o, n.tdiv 7 = o := ⟨_, rfl⟩
    rw [hs] at x1 C
    rw [ho] at x2 C
    have K := Lib.hid (boxes2 w (0, 0, 0) (s, o, k) 23)
    go_enter Tryd.func12, Tryd.ntmps12
    go_wp2_with fail
    refine (C.out _).mono ?_
    rintro e w1 ⟨rfl, hb⟩
    have hB := Lib.hid (w_below (w_alloc (w_alloc (w_refl w) _) _) hb)
    obtain ⟨hin, d0, d1, d2, f0, f1, f2⟩ := K.out.1.later hb
    obtain ⟨_, c0, c1, c2, _, _, _⟩ := K.out.2.later hb
    simp only at d0 d1 d2 f0 f1 f2 c0 c1 c2
    clear hb K C
    go_wp2_with fail
    refine bodyPost_ret (v := .tuple #[pv (0, 0, 0), .int .i64 2]) (by simp [results, Tryd.results12, go_sem, d0, d1, d2]) rfl ⟨rfl, ?_⟩
    exact w_set (w_set (w_set hB.out (by simp) _) (by simp) _) (by simp) _

/-- Three pitches in boxes of their own. -/
theorem boxes3 (w : World) (p q r : Pi3) (t : TypeId) :
    Cell3 (((w.alloc (.cells #[.int .i64 p.1, .int .i64 p.2.1, .int .i64 p.2.2] t)).alloc (.cells #[.int .i64 q.1, .int .i64 q.2.1, .int .i64 q.2.2] t)).alloc (.cells #[.int .i64 r.1, .int .i64 r.2.1, .int .i64 r.2.2] t)) w.heap.size p ∧
    Cell3 (((w.alloc (.cells #[.int .i64 p.1, .int .i64 p.2.1, .int .i64 p.2.2] t)).alloc (.cells #[.int .i64 q.1, .int .i64 q.2.1, .int .i64 q.2.2] t)).alloc (.cells #[.int .i64 r.1, .int .i64 r.2.1, .int .i64 r.2.2] t)) (w.heap.size + 1) q ∧
    Cell3 (((w.alloc (.cells #[.int .i64 p.1, .int .i64 p.2.1, .int .i64 p.2.2] t)).alloc (.cells #[.int .i64 q.1, .int .i64 q.2.1, .int .i64 q.2.2] t)).alloc (.cells #[.int .i64 r.1, .int .i64 r.2.1, .int .i64 r.2.2] t)) (w.heap.size + 1 + 1) r := by
  refine ⟨(boxes w p q t _).1, (boxes w p q t _).2, ?_⟩
  have := Cell3.made ((w.alloc (.cells #[.int .i64 p.1, .int .i64 p.2.1, .int .i64 p.2.2] t)).alloc (.cells #[.int .i64 q.1, .int .i64 q.2.1, .int .i64 q.2.2] t)) r t
  rwa [World.size_alloc, World.size_alloc] at this

theorem wrap_over {x : Int} (h1 : 9223372036854775807 < x) (h2 : x ≤ 9223372036854775807 + 62) : IntKind.i64.wrap x = x - 18446744073709551616 := by
  rw [IntKind.wrap_i64]; omega

/-- A sum that wraps around is refused as the true one would be. -/
theorem of_wrap {m n k : Int} (hm : 0 ≤ m ∧ m ≤ 62) (h1 : -9223372036854775808 ≤ n) (h2 : n ≤ 9223372036854775807) :
    ofV (IntKind.i64.wrap (m + n)) k = ofV (m + n) k := by
  by_cases h : m + n ≤ 9223372036854775807
  · rw [IntWalk.i64_in _ (by omega)]
  · rw [wrap_over (by omega) (by omega), of_no (by omega), of_no (by omega)]

theorem wrap_bd (x : Int) : -9223372036854775808 ≤ IntKind.i64.wrap x ∧ IntKind.i64.wrap x ≤ 9223372036854775807 := by
  rw [IntKind.wrap_i64]; omega

theorem reframe {Q : Exit → Act → World → Prop} {a b : Act} {w : World} (h : a = b) (hQ : Q .normal b w) : Q .normal a w := h ▸ hQ
theorem pkept {W : World} {b j k c : Nat} {u v : Value} (h : W.cell? ⟨b, j, none⟩ = some u) (hj : b ≠ c ∨ j ≠ k) : (W.setCell ⟨c, k, none⟩ v).cell? ⟨b, j, none⟩ = some u := by
  rw [World.cell?_setCell_other _ _ _ _ (by intro e; injection e with e1 e2 _; rcases hj with x | x; exact x e1.symm; exact x e2.symm)]; exact h
abbrev put3 (w : World) (b : Nat) (p : Pi3) : World := ((w.setCell ⟨b, 0, none⟩ (.int .i64 p.1)).setCell ⟨b, 1, none⟩ (.int .i64 p.2.1)).setCell ⟨b, 2, none⟩ (.int .i64 p.2.2)
/-- A pitch is laid down where another one was. -/
theorem Cell3.put {w : World} {b : Nat} {p : Pi3} (h : Cell3 w b p) (q : Pi3) : Cell3 (put3 w b q) b q := by
  have s0 : (w.setCell ⟨b, 0, none⟩ (.int .i64 q.1)).cell? ⟨b, 0, none⟩ = some (.int .i64 q.1) := World.cell?_setCell_same' _ _ _ (by rw [h.c0]; rfl)
  have s1 : ((w.setCell ⟨b, 0, none⟩ (.int .i64 q.1)).setCell ⟨b, 1, none⟩ (.int .i64 q.2.1)).cell? ⟨b, 1, none⟩ = some (.int .i64 q.2.1) := World.cell?_setCell_same' _ _ _ (by rw [pkept h.c1 (.inr (by decide))]; rfl)
  refine ⟨by simp; exact h.inb, pkept (pkept s0 (.inr (by decide))) (.inr (by decide)), pkept s1 (.inr (by decide)), World.cell?_setCell_same' _ _ _ (by rw [pkept (pkept h.c2 (.inr (by decide))) (.inr (by decide))]; rfl), ?_, ?_, ?_⟩
  · rw [World.frozen?_setCell, World.frozen?_setCell, World.frozen?_setCell]; exact h.f0
  · rw [World.frozen?_setCell, World.frozen?_setCell, World.frozen?_setCell]; exact h.f1
  · rw [World.frozen?_setCell, World.frozen?_setCell, World.frozen?_setCell]; exact h.f2
theorem Cell3.other {w : World} {b c : Nat} {p : Pi3} (h : Cell3 w b p) (q : Pi3) (hc : b ≠ c) : Cell3 (put3 w c q) b p := by
  refine ⟨by simp; exact h.inb, pkept (pkept (pkept h.c0 (.inl hc)) (.inl hc)) (.inl hc), pkept (pkept (pkept h.c1 (.inl hc)) (.inl hc)) (.inl hc), pkept (pkept (pkept h.c2 (.inl hc)) (.inl hc)) (.inl hc), ?_, ?_, ?_⟩
  · rw [World.frozen?_setCell, World.frozen?_setCell, World.frozen?_setCell]; exact h.f0
  · rw [World.frozen?_setCell, World.frozen?_setCell, World.frozen?_setCell]; exact h.f1
  · rw [World.frozen?_setCell, World.frozen?_setCell, World.frozen?_setCell]; exact h.f2

/-- What stands while a region is walked: two pitches that are read, and the pitch that is written. -/
structure Fr (w W : World) (bp bq b : Nat) (p q r : Pi3) : Prop where
  bel : Below w.heap.size w W
  P : Cell3 W bp p
  Q : Cell3 W bq q
  R : Cell3 W b r
theorem Fr.later {w W W' : World} {bp bq b : Nat} {p q r : Pi3} (h : Fr w W bp bq b p q r) (k : Below W.heap.size W W') : Fr w W' bp bq b p q r :=
  ⟨w_below h.bel k, h.P.later k, h.Q.later k, h.R.later k⟩

set_option maxHeartbeats 4000000 in
theorem wmove_any (p : Pi3) (n : Int) (w : World) (h1 : -9223372036854775808 ≤ n) (h2 : n ≤ 9223372036854775807) : Calls Tryd.prog 14 #[pv p, .int .i64 n] w (OfPost (moveV p n) w) := by
  have C := Lib.hid (fun W => wcheck_any p W)
  have K := Lib.hid (boxes2 w p (0, 0, 0) 23)
  by_cases h : okP p
  · rw [moveV_ok h]
    rw [chkV_ok h] at C
    have N := Lib.hid (fun W => wnum_any p h W)
    rw [← of_wrap (num_bd h) h1 h2]
    clear h h1 h2
    generalize numI p = m at *
    have O := Lib.hid (fun W => wof_any (IntKind.i64.wrap (m + n)) p.2.2 W (wrap_bd _).1 (wrap_bd _).2)
    unfold OfPost at O
    generalize ofV (IntKind.i64.wrap (m + n)) p.2.2 = r at *
    obtain ⟨⟨r1, r2, r3⟩, re⟩ := r
    go_enter Tryd.func14, Tryd.ntmps14
    go_wp2_with fail
    refine (C.out _).mono ?_
    rintro e w1 ⟨rfl, hb⟩
    have FX := Lib.hid (show Fr w w1.drew w.heap.size w.heap.size (w.heap.size + 1) p p (0, 0, 0) from
      Fr.later ⟨w_below (w_alloc (w_alloc (w_refl w) _) _) hb, K.out.1.later hb, K.out.1.later hb, K.out.2.later hb⟩ (w_refl w1).drew)
    obtain ⟨_, d0, d1, d2, f0, f1, f2⟩ := FX.out.R
    clear hb K C
    go_wp2_with fail
    go_region_held3 (fun W => W.cell? ⟨w.heap.size, 0, none⟩ = some (.int .i64 p.1) ∧ W.cell? ⟨w.heap.size, 1, none⟩ = some (.int .i64 p.2.1) ∧ W.cell? ⟨w.heap.size, 2, none⟩ = some (.int .i64 p.2.2))
      (first
        | exact ⟨FX.out.P.c0, FX.out.P.c1, FX.out.P.c2⟩
        | exact (let F := FX.out.P.other (r1, r2, r3) (by omega); ⟨F.c0, F.c1, F.c2⟩))
      (first
        | (go_at_call 33; refine (N.out _).mono ?_; rintro e wn ⟨rfl, hb⟩; replace FX := Lib.hid (FX.out.later hb); clear hb d0 d1 d2 f0 f1 f2; obtain ⟨_, d0, d1, d2, f0, f1, f2⟩ := FX.out.R)
        | (go_at_call 12; refine (O.out _).mono ?_; rintro e wn ⟨rfl, hb⟩; replace FX := Lib.hid (FX.out.later hb); clear hb d0 d1 d2 f0 f1 f2; obtain ⟨_, d0, d1, d2, f0, f1, f2⟩ := FX.out.R)
        | fail)
    go_wp2_with fail
    refine bodyPost_ret (v := .tuple #[pv (r1, r2, r3), .int .i64 re]) (by simp [results, Tryd.results14, go_sem, d0, d1, d2]) rfl ⟨rfl, ?_⟩
    exact w_set (w_set (w_set FX.out.bel (by simp) _) (by simp) _) (by simp) _
  · rw [moveV_no h]
    rw [chkV_no h] at C
    clear h
    go_enter Tryd.func14, Tryd.ntmps14
    go_wp2_with fail
    refine (C.out _).mono ?_
    rintro e w1 ⟨rfl, hb⟩
    have hB := Lib.hid (w_below (w_alloc (w_alloc (w_refl w) _) _) hb)
    obtain ⟨hin, d0, d1, d2, f0, f1, f2⟩ := K.out.2.later hb
    simp only at d0 d1 d2
    clear hb K C
    go_wp2_with fail
    refine bodyPost_ret (v := .tuple #[pv (0, 0, 0), .int .i64 2]) (by simp [results, Tryd.results14, go_sem, d0, d1, d2]) rfl ⟨rfl, ?_⟩
    exact w_set (w_set (w_set hB.out (by simp) _) (by simp) _) (by simp) _

end Go.Proofs.YtpkihehacocbhaaDoor
