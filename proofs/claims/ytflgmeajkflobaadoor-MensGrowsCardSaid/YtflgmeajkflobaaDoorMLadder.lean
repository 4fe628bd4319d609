/- Each value is its parts times the next one. -/
import Derived.Test.YtflgmeajkflobaaDoorMKnown
namespace Go.Proofs.YtflgmeajkflobaaDoor
open Go.RowKit

theorem of_ok (n : Int) : okM (ofN (n % 16)) := by
  have := ofN_ok (n := (n % 16).toNat) (by omega)
  rwa [show (((n % 16).toNat : Nat) : Int) = n % 16 by omega] at this
theorem lad_facts {q : Q4} (h : okM q) {v : Int} (hv : 1 ≤ v ∧ v ≤ 7) :
    (1 ≤ minI q v ∧ minI q v ≤ 81) ∧ (1 ≤ minI q (v + 1) ∧ minI q (v + 1) ≤ 81) ∧ (1 ≤ pieI v ∧ pieI v ≤ 8) ∧ (1 ≤ pieI (v + 1) ∧ pieI (v + 1) ≤ 8) ∧
    IntKind.i64.wrap (minI q v * pieI (v + 1)) = minI q v * pieI (v + 1) ∧ IntKind.i64.wrap (pI q v * minI q (v + 1) * pieI v) = minI q v * pieI (v + 1) := by
  have hall : ∀ q ∈ mensL, ∀ v ∈ ([1, 2, 3, 4, 5, 6, 7] : List Int), IntKind.i64.wrap (minI q v * pieI (v + 1)) = minI q v * pieI (v + 1) ∧ IntKind.i64.wrap (pI q v * minI q (v + 1) * pieI v) = minI q v * pieI (v + 1) := by decide +kernel
  obtain ⟨h1, h2⟩ := hall q ((mens_iff q).2 h) v (by simp only [List.mem_cons, List.not_mem_nil, or_false]; omega)
  exact ⟨min_bd h (by omega), min_bd h (by omega), pie_bd (by omega), pie_bd (by omega), h1, h2⟩
theorem ful_last {q : Q4} (h : okM q) : fulV q 8 = (1, 8, 0) := by
  have hall : ∀ q ∈ mensL, fulV q 8 = (1, 8, 0) := by decide +kernel
  exact hall q ((mens_iff q).2 h)
theorem kn_g18 : (1 : Int) / gcdI 1 8 = 1 ∧ (8 : Int) / gcdI 1 8 = 8 := by decide +kernel
theorem parV_ok {q : Q4} {v : Int} (h : valE q v = 0) : parV q v = pI q v := if_pos h

set_option maxRecDepth 100000 in
set_option maxHeartbeats 8000000 in
theorem ladder_any (n : Int) (hn : -9223372036854775808 ≤ n ∧ n ≤ 9223372036854775807) (w : World) : Calls Tryd.prog 7 #[.int .i64 n] w fun e w' => e = .returned (.bool true) ∧ Below w.heap.size w w' := by
  have KN := Lib.hid (fun W => known_any W)
  have KM := Lib.hid (fun W => kmens_any n hn W)
  have hq := of_ok n
  generalize ofN (n % 16) = q at *
  have F := Lib.hid (show ∀ v, 1 ≤ v ∧ v ≤ 8 → ∀ W, Calls Tryd.prog 12 #[mv q, .int .i64 v] W fun e w' => e = .returned (tev (minI q v, pieI v, 0)) ∧ Below W.heap.size W w' from fun v hv W => by
    have := full_any q v W
    rw [fulV_ok (valE_ok hq hv)] at this; exact this)
  have PA := Lib.hid (show ∀ v, 1 ≤ v ∧ v ≤ 8 → ∀ W, Calls Tryd.prog 10 #[mv q, .int .i64 v] W fun e w' => e = .returned (.tuple #[.int .i64 (pI q v), .int .i64 0]) ∧ Below W.heap.size W w' from fun v hv W => by
    have := parts_any q v W
    rw [parV_ok (valE_ok hq hv), valE_ok hq hv] at this; exact this)
  have L8 := Lib.hid (fun W => full_at (ful_last hq) W)
  have FA := Lib.hid (fun v (hv : 1 ≤ v ∧ v ≤ 7) => lad_facts hq hv)
  have PT := Lib.hid (fun g => pI_two hq g)
  have T8 : Hid (∀ W : World, Calls Tryd.prog 34 #[.int .i64 1, .int .i64 8] W fun e w' => e = .returned (.agg #[.int .i64 1, .int .i64 8]) ∧ Below W.heap.size W w') := Lib.hid (fun W => t_at 1 8 1 8 W kn_g18 (by decide) (by decide))
  clear hq hn
  generalize minI q = mi at *
  generalize pI q = pq at *
  obtain ⟨a, b, c, d⟩ := q
  go_enter Tryd.func7, Tryd.ntmps7
  go_wp2_with fail
  refine (KN.out _).mono ?_
  rintro e w1 ⟨rfl, hb⟩
  have hB := Lib.hid hb
  clear hb KN
  go_wp2_with fail
  refine (KM.out _).mono ?_
  rintro e w2 ⟨rfl, hb⟩
  replace hB := Lib.hid (w_alloc (w_below hB.out hb) (mO (a, b, c, d)))
  have K := Lib.hid (Cell4.made w2 (a, b, c, d) 23)
  clear hb KM
  go_wp2_with fail
  go_loopw [5] (fun s5 wr => ∃ k : Nat, k ≤ 7 ∧ s5 = .int .i64 ((k + 1 : Nat) : Int) ∧ Hid (Cell4 wr w2.heap.size (a, b, c, d)) ∧ Hid (Below w.heap.size w wr)) (fun s5 _ => (8 - intOf s5).toNat)
  case atStart => exact ⟨0, by omega, rfl, K, hB⟩
  case round =>
    clear K hB
    obtain ⟨k, hk, rfl, K, hbr⟩ := hrel
    by_cases hlt : k < 7
    · obtain ⟨g, hg⟩ : ∃ g, ((k + 1 : Nat) : Int) = g := ⟨_, rfl⟩
      have hg1 : ((k + 1 + 1 : Nat) : Int) = g + 1 := by omega
      have hgb : 1 ≤ g ∧ g ≤ 7 := by omega
      have F1 := Lib.hid (fun W => F.out g (by omega) W)
      have F2 := Lib.hid (fun W => F.out (g + 1) (by omega) W)
      have P1 := Lib.hid (fun W => PA.out g (by omega) W)
      obtain ⟨⟨m1, m2⟩, ⟨m3, m4⟩, ⟨d1, d2⟩, ⟨d3, d4⟩, x1, x2⟩ := FA.out g hgb
      have pt := PT.out g
      rw [hg]
      clear F PA FA PT L8 T8
      generalize mi g = M at *
      generalize mi (g + 1) = M2 at *
      generalize pieI g = D at *
      generalize pieI (g + 1) = D2 at *
      generalize pq g = p at *
      obtain ⟨X, hX⟩ : ∃ X, M * D2 = X := ⟨_, rfl⟩
      rw [hX] at x1 x2
      have x1' : IntKind.i64.wrap (M * D2) = X := by rw [hX]; exact x1
      clear x1 hX
      obtain ⟨_, c0, c1, c2, c3, _, _, _, _⟩ := K.out
      simp only at c0 c1 c2 c3
      rcases pt with rfl | rfl
      all_goals
        go_wp2_with fail
        refine (F1.out _).mono ?_
        rintro e w3 ⟨rfl, hb⟩
        have hB1 := Lib.hid (w_alloc (w_below hbr.out hb) (.cells #[.int .i64 M, .int .i64 D] 28))
        have K1 := Lib.hid (K.out.later (w_alloc hb (.cells #[.int .i64 M, .int .i64 D] 28)))
        have TA := Lib.hid (Own2.made w3 M D 28)
        clear hb F1 c0 c1 c2 c3 K hbr
        obtain ⟨_, c0, c1, c2, c3, _, _, _, _⟩ := K1.out
        simp only at c0 c1 c2 c3
        go_wp2_with fail
        refine (F2.out _).mono ?_
        rintro e w4 ⟨rfl, hb⟩
        have hb9 := w_alloc hb (.cells #[.int .i64 M2, .int .i64 D2] 28)
        replace hB1 := Lib.hid (w_below hB1.out hb9)
        have K2 := Lib.hid (K1.out.later hb9)
        replace TA := Lib.hid (TA.out.later hb9)
        have TB := Lib.hid (Own2.made w4 M2 D2 28)
        clear hb hb9 F2 c0 c1 c2 c3 K1
        obtain ⟨_, c0, c1, c2, c3, _, _, _, _⟩ := K2.out
        simp only at c0 c1 c2 c3
        go_wp2_with fail
        refine (P1.out _).mono ?_
        rintro e w5 ⟨rfl, hb⟩
        replace hB1 := Lib.hid (w_below hB1.out hb)
        have K3 := Lib.hid (K2.out.later hb)
        obtain ⟨_, a0, a1, _, _⟩ := TA.out.later hb
        obtain ⟨_, b0, b1, _, _⟩ := TB.out.later hb
        clear hb P1 c0 c1 c2 c3 K2 TA TB
        go_wp2_with fail
        go_roundw
        case rel => exact ⟨k + 1, by omega, by rw [hg1], K3, hB1⟩
        case measure => simp [intOf]; omega
    · obtain rfl : k = 7 := by omega
      obtain ⟨_, c0, c1, c2, c3, _, _, _, _⟩ := K.out
      simp only at c0 c1 c2 c3
      clear F PA FA PT
      go_wp2_with fail
      refine (L8.out _).mono ?_
      rintro e w3 ⟨rfl, hb⟩
      have FX := Lib.hid (show _ ∧ _ from ⟨(w_alloc (w_below hbr.out hb) (.cells #[.int .i64 1, .int .i64 8] 28)).drew, (Own2.made w3 1 8 28).later (w_refl _).drew⟩)
      clear hb c0 c1 c2 c3 K hbr L8
      go_wp2_with fail
      go_region_held3 (fun W => W.cell? ⟨w3.heap.size, 0, none⟩ = some (.int .i64 1) ∧ W.cell? ⟨w3.heap.size, 1, none⟩ = some (.int .i64 8))
        (first
          | exact ⟨FX.out.2.c0, FX.out.2.c1⟩
          | fail)
        (first
          | (go_at_call 34; refine (T8.out _).mono ?_; rintro e wn ⟨rfl, hb⟩; replace FX := Lib.hid (show _ ∧ _ from ⟨w_below FX.out.1 hb, FX.out.2.later hb⟩); clear hb T8)
          | fail)
      all_goals
        go_wp2_with fail
        go_ret
        exact ⟨rfl, FX.out.1⟩

end Go.Proofs.YtflgmeajkflobaaDoor
