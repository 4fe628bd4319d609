/- GamutBack: a pitch is sung in exactly the ways whose pitch it is. -/
import Derived.Test.YtaldbjhalpgkeaaDoorGLawE
import Derived.Deep.RegionHeld3
namespace Go.Proofs.YtaldbjhalpgkeaaDoor
open Go.RowKit

theorem pre_prefix : ∀ h : Fin 7, ∀ y : Fin 6, (preL ((h.val : Int) + 1) ((y.val : Int) + 1 + 1)).isPrefixOf pairsL = true := by decide +kernel
theorem way_prefix (p : Pi3) {h y : Int} (h1 : 1 ≤ h) (h2 : h ≤ 7) (y1 : 1 ≤ y) (y2 : y ≤ 6) : wayTo p h (y + 1) <+: waysL p := by
  have := pre_prefix ⟨(h - 1).toNat, by omega⟩ ⟨(y - 1).toNat, by omega⟩
  simp only at this
  rw [show (((h - 1).toNat : Nat) : Int) + 1 = h by omega, show (((y - 1).toNat : Nat) : Int) + 1 = y by omega] at this
  have hp := List.isPrefixOf_iff_prefix.1 this
  unfold wayTo waysL
  exact hp.filter _
theorem way_hit {p : Pi3} {h y : Int} (h1 : 1 ≤ h) (h2 : h ≤ 7) (y1 : 1 ≤ y) (y2 : y ≤ 6) (e : madeS (h, y) = p) : (waysL p)[(wayTo p h y).length]? = some (h, y) := by
  obtain ⟨t, ht⟩ := way_prefix p h1 h2 y1 y2
  have n := way_next p h1 h2 y1 y2
  rw [if_pos e] at n
  rw [← ht, n]
  simp
theorem back_len' : ∀ u : Fin 189, (waysL (((u.val : Int) % 7, (u.val : Int) / 7 % 9, (u.val : Int) / 63 - 1))).length ≤ 3 := by decide +kernel
theorem back_len {u : Int} (h0 : 0 ≤ u) (h1 : u < 189) : (waysL (u % 7, u / 7 % 9, u / 63 - 1)).length ≤ 3 := by
  have := back_len' ⟨u.toNat, by omega⟩
  simp only at this
  rwa [show ((u.toNat : Nat) : Int) = u by omega] at this
theorem back_ok {u : Int} (h0 : 0 ≤ u) (h1 : u < 189) : okP (u % 7, u / 7 % 9, u / 63 - 1) := by
  unfold okP; simp only; omega
theorem pitv_ok {s : Sy} (h : okS s) : pitV s = (madeS s, 0) := by unfold pitV; rw [if_pos h]

set_option maxRecDepth 100000 in
set_option maxHeartbeats 8000000 in
theorem gback_any (n : Int) (w : World) (hn : -9223372036854775808 ≤ n ∧ n ≤ 9223372036854775807) (tab : TabG w)
    (KN : ∀ W, Below w.heap.size w W → Calls Tryd.prog 6 #[] W fun e w' => e = .returned (.bool true) ∧ Below W.heap.size W w') :
    Calls Tryd.prog 7 #[.int .i64 n] w fun e w' => e = .returned (.bool true) ∧ Below w.heap.size w w' := by
  have TB := Lib.hid (fun W (b : Below w.heap.size w W) => tab.later b)
  have KK := Lib.hid KN
  have MO := Lib.hid (fun W => mod_any n 189 W hn.1 hn.2 (by decide) (by decide))
  have u0 : 0 ≤ n % 189 := by omega
  have u1 : n % 189 < 189 := by omega
  generalize n % 189 = u at *
  clear tab KN hn
  have hok := back_ok u0 u1
  have hl := back_len u0 u1
  have WA := Lib.hid (fun W (b : Below w.heap.size w W) => wways_any (u % 7, u / 7 % 9, u / 63 - 1) W (TB.out W b))
  unfold WaysPost at WA
  rw [if_pos hok, chkV_ok hok] at WA
  have t1 : u.tmod 7 = u % 7 := Int.tmod_eq_emod_of_nonneg u0
  have t2 : u.tdiv 7 = u / 7 := Int.tdiv_eq_ediv_of_nonneg u0
  have t3 : (u / 7).tmod 9 = u / 7 % 9 := Int.tmod_eq_emod_of_nonneg (by omega)
  have t4 : u.tdiv 63 = u / 63 := Int.tdiv_eq_ediv_of_nonneg u0
  have x1 : IntKind.i64.wrap (u % 7) = u % 7 := IntWalk.i64_in _ (by omega)
  have x2 : IntKind.i64.wrap (u / 7) = u / 7 := IntWalk.i64_in _ (by omega)
  have x3 : IntKind.i64.wrap (u / 7 % 9) = u / 7 % 9 := IntWalk.i64_in _ (by omega)
  have x4 : IntKind.i64.wrap (u / 63) = u / 63 := IntWalk.i64_in _ (by omega)
  have x5 : IntKind.i64.wrap (u / 63 - 1) = u / 63 - 1 := IntWalk.i64_in _ (by omega)
  clear hok
  obtain ⟨a, ha⟩ : ∃ a, u % 7 = a := ⟨_, rfl⟩
  obtain ⟨b, hb⟩ : ∃ b, u / 7 % 9 = b := ⟨_, rfl⟩
  obtain ⟨c, hc⟩ : ∃ c, u / 63 - 1 = c := ⟨_, rfl⟩
  rw [ha] at t1 x1
  rw [hb] at t3 x3
  rw [hc] at x5
  rw [ha, hb, hc] at WA hl
  have t5 := hc
  clear ha hb hc
  obtain ⟨p, hp⟩ : ∃ p : Pi3, (a, b, c) = p := ⟨_, rfl⟩
  have E1 : a = p.1 := by rw [← hp]
  have E2 : b = p.2.1 := by rw [← hp]
  have E3 : c = p.2.2 := by rw [← hp]
  rw [hp] at WA hl
  clear hp
  subst E1 E2 E3
  have SY := Lib.hid (fun a b W => syl_any a b W)
  have PI := Lib.hid (fun s (hs : okS s) W (b : Below w.heap.size w W) => (show Calls Tryd.prog 16 #[sv s] W fun e w' => e = .returned (.tuple #[pv (madeS s), .int .i64 0]) ∧ Below W.heap.size W w' by
    have := wpitch_any s W (TB.out W b)
    rw [pitv_ok hs] at this
    exact this))
  obtain ⟨l, hwl⟩ : ∃ l, waysL p = l := ⟨_, rfl⟩
  rw [hwl] at WA hl
  have HIT := Lib.hid (fun (h y : Int) (h1 : 1 ≤ h) (h2 : h ≤ 7) (y1 : 1 ≤ y) (y2 : y ≤ 6) (e : madeS (h, y) = p) => (show l[(wayTo p h y).length]? = some (h, y) by rw [← hwl]; exact way_hit h1 h2 y1 y2 e))
  have END := Lib.hid (show wayTo p 8 1 = l by rw [way_end, hwl])
  clear hwl
  go_enter Tryd.func7, Tryd.ntmps7
  go_wp2_with fail
  refine (KK.out _ (w_refl w)).mono ?_
  rintro e w1 ⟨rfl, hb⟩
  have B1 := Lib.hid hb
  clear hb KK
  go_wp2_with fail
  refine (MO.out _).mono ?_
  rintro e w2 ⟨rfl, rfl⟩
  clear MO
  go_wp2_with fail
  have K1 := Lib.hid (Cell3.made w1 p 23)
  have B2 := Lib.hid (w_alloc B1.out (pO p))
  refine (WA.out _ B2.out).mono ?_
  rintro e w3 ⟨v, rfl, ⟨q, cq, rfl, hs⟩, hb⟩
  have B3 := Lib.hid (w_below B2.out hb)
  have K3 := Lib.hid (K1.out.later hb)
  have S3 := Lib.hid hs
  have f1 := hs.fit
  have f2 := hs.max
  have hl' : ¬ (3 < l.length) := by omega
  have hl'' : ¬ ((3 : Int) < l.length) := by omega
  clear hb hs WA B2 K1 t1 t2 t3 t4 t5 x1 x2 x3 x4 x5
  go_wp2_with fail
  go_loopw [7, 8] (fun at_ i wr => ∃ h : Int, 1 ≤ h ∧ h ≤ 8 ∧ i = .int .i64 h ∧ at_ = .int .i64 ((wayTo p h 1).length : Int) ∧ Hid (Below w3.heap.size w3 wr)) (fun _ i _ => (8 - intOf i).toNat)
  case atStart => exact ⟨1, by omega, by omega, rfl, by rw [way_start]; rfl, Lib.hid (w_refl _)⟩
  case round =>
    obtain ⟨h, h1, h2, rfl, rfl, ho⟩ := hrel
    by_cases hlt : h ≤ 7
    · have y1 : IntKind.i64.wrap (h + 1) = h + 1 := IntWalk.i64_in _ (by omega)
      go_wp2_with fail
      go_loopw [7, 9] (fun at_ j wr => ∃ y : Int, 1 ≤ y ∧ y ≤ 7 ∧ j = .int .i64 y ∧ at_ = .int .i64 ((wayTo p h y).length : Int) ∧ Hid (Below w3.heap.size w3 wr)) (fun _ j _ => (7 - intOf j).toNat)
      case atStart => exact ⟨1, by omega, by omega, rfl, rfl, ho⟩
      case round =>
        obtain ⟨y, yy1, yy2, rfl, rfl, ho2⟩ := hrel
        by_cases hy : y ≤ 6
        · have z1 : IntKind.i64.wrap (y + 1) = y + 1 := IntWalk.i64_in _ (by omega)
          have C := Lib.hid (fun W b => PI.out (h, y) ⟨⟨h1, hlt⟩, yy1, hy⟩ W b)
          have next := Lib.hid (way_next p h1 hlt yy1 hy)
          have hlen := way_len p h y
          go_wp2_with fail
          refine (SY.out h y _).mono ?_
          rintro e w4 ⟨rfl, hb⟩
          have D4 := Lib.hid (w_below ho2.out hb)
          clear hb ho2
          go_wp2_with fail
          refine (C.out _ (w_below B3.out D4.out)).mono ?_
          rintro e w5 ⟨rfl, hb⟩
          have D5 := Lib.hid (w_below D4.out hb)
          have K5 := Lib.hid (K3.out.later D5.out)
          have S5 := Lib.hid (S3.out.later D5.out)
          clear hb D4 C
          obtain ⟨hlt5, c0, c1, c2, _, _, _⟩ := K5.out
          by_cases e : madeS (h, y) = p
          · rw [if_pos e] at next
            have hit := HIT.out h y h1 hlt yy1 hy e
            have nxt := Lib.hid (show (wayTo p h (y + 1)).length = (wayTo p h y).length + 1 by rw [next.out]; simp)
            obtain ⟨bq, oq, rfl, hbq, g0, g1⟩ := S5.out.way hit
            have hal := (List.getElem?_eq_some_iff.1 hit).1
            rw [e]
            clear hit next e
            generalize (wayTo p h y).length = at_ at *
            have hal' : (at_ : Int) < l.length := by omega
            have hal2 : ¬ ((l.length : Int) ≤ at_) := by omega
            have hal3 : decide ((l.length : Int) ≤ at_) = false := decide_eq_false hal2
            have hal4 : ¬ (l.length ≤ at_) := by omega
            have hal5 : decide (l.length ≤ at_) = false := decide_eq_false hal4
            have a1 : IntKind.i64.wrap ((at_ : Int) + 1) = (at_ : Int) + 1 := IntWalk.i64_in _ (by omega)
            go_wp2_with fail
            have FX := Lib.hid (show _ ∧ _ ∧ _ from ⟨cell_later (w_alloc (w_refl w5) (pO p)).drew g0, cell_later (w_alloc (w_refl w5) (pO p)).drew g1, w_below D5.out (w_alloc (w_refl w5) (pO p)).drew⟩)
            clear c0 c1 c2 g0 g1 D5 K5 S5
            go_region_held3 (fun W => W.cell? ⟨bq, oq + at_ * 2, none⟩ = some (.int .i64 h) ∧ W.cell? ⟨bq, oq + at_ * 2 + 1, none⟩ = some (.int .i64 y))
              (first
                | exact ⟨FX.out.1, FX.out.2.1⟩
                | fail)
              (first
                | (go_at_call 32; refine (SY.out _ _ _).mono ?_; rintro e wn ⟨rfl, hb⟩; replace FX := Lib.hid (show _ ∧ _ ∧ _ from ⟨cell_later hb FX.out.1, cell_later hb FX.out.2.1, w_below FX.out.2.2 hb⟩); clear hb)
                | fail)
            all_goals
              go_wp2_with fail
              go_roundw
              case rel => exact ⟨y + 1, by omega, by omega, by go_num, by rw [nxt.out]; go_num, Lib.hid FX.out.2.2⟩
              case measure => simp [intOf]; omega
          · rw [if_neg e, List.append_nil] at next
            have hd := ne3 e
            clear e
            generalize madeS (h, y) = r at *
            have nxt := Lib.hid (show (wayTo p h (y + 1)).length = (wayTo p h y).length by rw [next.out])
            generalize (wayTo p h y).length = at_ at *
            clear next
            rcases hd with ⟨e1, e2⟩ | ⟨e0, e1, e2⟩ | ⟨e0, e3, e1, e2⟩
            all_goals
              go_wp2_with fail
              go_roundw
              case rel => exact ⟨y + 1, by omega, by omega, by go_num, by rw [nxt.out], Lib.hid (w_alloc D5.out _)⟩
              case measure => simp [intOf]; omega
        · obtain rfl : y = 7 := by omega
          have hrow := Lib.hid (way_row p h1 hlt)
          go_wp2_with fail
          go_roundw
          case rel => exact ⟨h + 1, by omega, by omega, by go_num, by rw [hrow.out], ho2⟩
          case measure => simp [intOf]; omega
    · obtain rfl : h = 8 := by omega
      rw [END.out]
      have B4 := Lib.hid (w_below B3.out ho.out)
      go_wp2_with fail
      go_ret
      exact ⟨rfl, B4.out⟩

end Go.Proofs.YtaldbjhalpgkeaaDoor
