/- Full durations, of the program and of the reference. -/
import Derived.Test.YtcomjcflllfobaaDoorMProgA
import Derived.Test.YtcomjcflllfobaaDoorMSpan
namespace Go.Proofs.YtcomjcflllfobaaDoor
open Go.RowKit

def pwI (k : Nat) : Int := 2 ^ k
theorem pw_step (k : Nat) (h : k ≤ 2) : IntKind.i64.wrap (pwI k * 2) = pwI (k + 1) ∧ IntKind.i64.wrap (2 * pwI k) = pwI (k + 1) := by
  have hall : ∀ k ∈ List.range 3, IntKind.i64.wrap (pwI k * 2) = pwI (k + 1) ∧ IntKind.i64.wrap (2 * pwI k) = pwI (k + 1) := by decide +kernel
  exact hall k (by simp only [List.mem_range]; omega)
theorem pw_bd (k : Nat) (h : k ≤ 3) : 1 ≤ pwI k ∧ pwI k ≤ 8 := by
  have hall : ∀ k ∈ List.range 4, 1 ≤ pwI k ∧ pwI k ≤ 8 := by decide +kernel
  exact hall k (by simp only [List.mem_range]; omega)
theorem make_full {q : Q4} (hq : okM q) {v : Int} (hv : 1 ≤ v ∧ v ≤ 8) : makeV (minI q v) (pieI v) = (minI q v, pieI v, 0) := by
  have hall : ∀ q ∈ mensL, ∀ v ∈ valsL, makeV (minI q v) (pieI v) = (minI q v, pieI v, 0) := by decide +kernel
  exact hall q ((mens_iff q).2 hq) v ((vals_iff v).2 hv)

theorem Own2.kept {w w1 : World} {row : Option Nat} {b : Nat} {n d : Int} (h : Own2 w b n d) (hg : w.grownBy w1 row) (hne : some b ≠ row) : Own2 w1 b n d := by
  have e := hg.block b h.inb hne
  exact ⟨Nat.lt_of_lt_of_le h.inb hg.size, (World.cell?_of_block (a := ⟨b, 0, none⟩) e).trans h.c0, (World.cell?_of_block (a := ⟨b, 1, none⟩) e).trans h.c1,
    (World.frozen?_of_block (a := ⟨b, 0, none⟩) e).trans h.f0, (World.frozen?_of_block (a := ⟨b, 1, none⟩) e).trans h.f1⟩
theorem time_put {w1 : World} {b : Nat} {n0 d0 : Int} (h : Own2 w1 b n0 d0) (M D : Int) :
    (w1.setCell ⟨b, 0, none⟩ (.int .i64 M)).cell? ⟨b, 0, none⟩ = some (.int .i64 M) ∧ ((w1.setCell ⟨b, 0, none⟩ (.int .i64 M)).setCell ⟨b, 1, none⟩ (.int .i64 D)).cell? ⟨b, 1, none⟩ = some (.int .i64 D) :=
  ⟨World.cell?_setCell_same' _ _ _ (by rw [h.c0]; rfl), World.cell?_setCell_same' _ _ _ (by rw [gkept h.c1 (.inr (by decide))]; rfl)⟩
set_option maxHeartbeats 4000000 in
theorem nfull_any (q : Q4) (hq : okM q) (v : Int) (hv : 1 ≤ v ∧ v ≤ 8) (w : World) :
    Calls Tryd.prog 64 #[mv q, .int .i64 v] w fun e w' => e = .returned (tev (minI q v, pieI v, 0)) ∧ Below w.heap.size w w' := by
  have P := Lib.hid (fun g hg W => nparts_any q g hg W)
  have hst := Lib.hid (fun k => up_step hq hv.1 k)
  have hbd := min_bd hq hv
  have hpd := pie_bd hv
  have mk := Lib.hid (make_full hq hv)
  have MK := Lib.hid (fun W => make_any (minI q v) (pieI v) W (by omega) (by omega))
  rw [mk.out] at MK
  clear mk hq
  have K := Lib.hid (Cell4.made w q 82)
  have hK2 := Lib.hid (fun W (b : Below (w.heap.size + 1) (w.alloc (nO q)) W) => K.out.later (by rw [World.size_alloc]; exact b))
  have hmin := Lib.hid (show upI q v (5 - v).toNat = minI q v from rfl)
  have hpie := Lib.hid (show pwI (v - 5).toNat = pieI v from rfl)
  generalize minI q v = M at *
  generalize pieI v = D at *
  generalize hu : upI q v = U at *
  have hU0 : U 0 = 1 := by rw [← hu]; rfl
  clear hu K
  have hps := Lib.hid (fun g (hg : 5 ≤ g) => pI_small q hg)
  generalize hpp : pI q = pq at *
  clear hpp
  obtain ⟨a, b, c, d⟩ := q
  obtain ⟨hv1, hv2⟩ := hv
  go_enter Tryd.func64, Tryd.ntmps64
  go_wp2_with fail
  go_loopw [6, 8] (fun s6 s8 wr => ∃ k : Nat, k ≤ (5 - v).toNat ∧ s6 = .int .i64 (U k) ∧ s8 = .int .i64 (v + (k : Int)) ∧ Hid (Below (w.heap.size + 1) (w.alloc (nO (a, b, c, d))) wr) ∧ Hid (Own2 wr (w.heap.size + 1) 0 0)) (fun _ s8 _ => (5 - intOf s8).toNat)
  case atStart =>
    refine ⟨0, by omega, by rw [hU0], by simp, Lib.hid ?_, Lib.hid ?_⟩
    · have := w_alloc (w_refl (w.alloc (nO (a, b, c, d)))) (.cells #[.int .i64 0, .int .i64 0] 32)
      rwa [World.size_alloc] at this
    · have := Own2.made (w.alloc (nO (a, b, c, d))) 0 0 32
      rwa [World.size_alloc] at this
  case round =>
    obtain ⟨k, hk, rfl, rfl, hbr, hO⟩ := hrel
    obtain ⟨_, c0, c1, c2, c3, _, _, _, _⟩ := hK2.out _ hbr.out
    obtain ⟨g, hg⟩ : ∃ g, v + (k : Int) = g := ⟨_, rfl⟩
    rw [hg]
    by_cases hlt : g < 5
    · have x1 := hst.out k (by omega)
      rw [hg] at x1
      have P1 := Lib.hid (fun W => P.out g (by omega) W)
      obtain ⟨m2, hm2⟩ : ∃ m2, U (k + 1) = m2 := ⟨_, rfl⟩
      rw [hm2] at x1
      generalize U k = m at *
      generalize pq g = p at *
      clear hst P MK hmin hpie hps
      go_wp2_with fail
      refine (P1.out _).mono ?_
      rintro e w1 ⟨rfl, hb⟩
      have hB := Lib.hid (hbr.out.trans (hb.mono (by have := hbr.out.size; simp at this; omega)))
      have hO2 := Lib.hid (hO.out.later hb)
      clear hb P1
      go_wp2_with fail
      go_roundw
      case rel => exact ⟨k + 1, by omega, by rw [hm2], by go_num, hB, hO2⟩
      case measure => simp [intOf]; omega
    · have hkk : k = (5 - v).toNat := by omega
      have hm : U k = M := by rw [hkk]; exact hmin.out
      rw [hm]
      clear hm hkk hmin hst c0 c1 c2 c3
      go_wp2_with fail
      go_loopw [7, 9] (fun s7 s9 wr => ∃ k : Nat, (5 : Int) + k ≤ max 5 v ∧ s7 = .int .i64 (pwI k) ∧ s9 = .int .i64 (5 + (k : Int)) ∧ Hid (Below (w.heap.size + 1) (w.alloc (nO (a, b, c, d))) wr) ∧ Hid (Own2 wr (w.heap.size + 1) 0 0)) (fun _ s9 _ => (8 - intOf s9).toNat)
      case atStart => exact ⟨0, by simp; omega, rfl, rfl, hbr, hO⟩
      case round =>
        clear hbr hO
        rename World => w'
        obtain ⟨j, hj, rfl, rfl, hbr, hO⟩ := hrel
        obtain ⟨_, c0, c1, c2, c3, _, _, _, _⟩ := hK2.out _ hbr.out
        obtain ⟨f, hf⟩ : ∃ f, (5 : Int) + (j : Int) = f := ⟨_, rfl⟩
        rw [hf]
        by_cases hl2 : f < v
        · have x1 := (pw_step j (by omega)).1
          have P1 := Lib.hid (fun W => P.out f (by omega) W)
          rw [hps.out f (by omega)] at P1
          obtain ⟨m2, hm2⟩ : ∃ m2, pwI (j + 1) = m2 := ⟨_, rfl⟩
          rw [hm2] at x1
          generalize pwI j = m at *
          clear P MK hpie hps
          go_wp2_with fail
          refine (P1.out _).mono ?_
          rintro e w1 ⟨rfl, hb⟩
          have hB := Lib.hid (hbr.out.trans (hb.mono (by have := hbr.out.size; simp at this; omega)))
          have hO2 := Lib.hid (hO.out.later hb)
          clear hb P1
          go_wp2_with fail
          go_roundw
          case rel => exact ⟨j + 1, by omega, by rw [hm2], by go_num, hB, hO2⟩
          case measure => simp [intOf]; omega
        · have hm : pwI j = D := by rw [show j = (v - 5).toNat by omega]; exact hpie.out
          rw [hm]
          clear hm hpie P hps c0 c1 c2 c3
          go_wp2_with fail
          refine (MK.out _).mono ?_
          rintro e w1 ⟨rfl, hb⟩
          have hB := Lib.hid (hbr.out.trans (hb.mono (by have := hbr.out.size; simp at this; omega)))
          have hb' := hb
          obtain ⟨hi, o0, o1, g0, g1⟩ := hO.out.later hb
          clear MK
          go_wp2_with fail
          obtain ⟨d0, d1⟩ := time_put (hO.out.later hb') M D
          refine bodyPost_ret (v := tev (M, D, 0)) (by simp [results, Tryd.results64, go_sem, d0, d1]) rfl ⟨rfl, ?_⟩
          exact bs (bs ((ba (br w) _).trans (hB.out.mono (by omega))) (by simp) _) (by simp) _


theorem fulV_ok {q : Q4} {v : Int} (h : valE q v = 0) : fulV q v = (minI q v, pieI v, 0) := by unfold fulV; rw [if_pos h]
theorem fulV_no {q : Q4} {v : Int} (h : ¬ valE q v = 0) : fulV q v = (0, 0, valE q v) := by unfold fulV; rw [if_neg h]

set_option maxHeartbeats 4000000 in
theorem full_any (q : Q4) (v : Int) (w : World) : Calls Tryd.prog 41 #[mv q, .int .i64 v] w fun e w' => e = .returned (tev (fulV q v)) ∧ Below w.heap.size w w' := by
  have C := Lib.hid (fun W => mboth_any q v W)
  have K := Lib.hid (Cell4.made w q 23)
  have hK2 := Lib.hid (fun W (b : Below (w.heap.size + 1) (w.alloc (mO q)) W) => K.out.later (by rw [World.size_alloc]; exact b))
  have hO := Lib.hid (Own2.made (w.alloc (mO q)) 0 0 32)
  have hB0 := Lib.hid (w_alloc (w_refl (w.alloc (mO q))) (.cells #[.int .i64 0, .int .i64 0] 32))
  rw [World.size_alloc] at hO hB0
  clear K
  by_cases h : valE q v = 0
  · have hf := Lib.hid (fulV_ok h)
    obtain ⟨hq, hv⟩ := valE_zero h
    have F := Lib.hid (fun W => nfull_any q hq v hv W)
    have NU := Lib.hid (fun W => numsOf_any q W)
    rw [h] at C
    rw [hf.out]
    clear h hf hq hv
    generalize minI q v = M at *
    generalize pieI v = D at *
    obtain ⟨a, b, c, d⟩ := q
    go_enter Tryd.func41, Tryd.ntmps41
    go_wp2_with fail
    refine (C.out _).mono ?_
    rintro e w1 ⟨rfl, hb⟩
    have hB := Lib.hid (hB0.out.trans (hb.mono (by simp)))
    replace hO := Lib.hid (hO.out.later hb)
    obtain ⟨_, c0, c1, c2, c3, _, _, _, _⟩ := hK2.out _ hB.out
    clear hb C hB0
    go_wp2_with fail
    refine (NU.out _).mono ?_
    rintro e w2 ⟨rfl, hb⟩
    replace hB := Lib.hid (hB.out.trans (hb.mono (by have := hB.out.size; simp at this; omega)))
    replace hO := Lib.hid (hO.out.later hb)
    clear hb NU c0 c1 c2 c3 hK2
    go_wp2_with fail
    refine (F.out _).mono ?_
    rintro e w3 ⟨rfl, hb⟩
    replace hB := Lib.hid (hB.out.trans (hb.mono (by have := hB.out.size; simp at this; omega)))
    replace hO := Lib.hid (hO.out.later hb)
    obtain ⟨hi, o0, o1, g0, g1⟩ := hO.out
    obtain ⟨d0, d1⟩ := time_put hO.out M D
    clear hb F
    go_wp2_with fail
    refine bodyPost_ret (v := tev (M, D, 0)) (by simp [results, Tryd.results41, go_sem, d0, d1]) rfl ⟨rfl, ?_⟩
    exact bs (bs ((ba (br w) _).trans (hB.out.mono (by omega))) (by simp) _) (by simp) _
  · have hf := Lib.hid (fulV_no h)
    rw [hf.out]
    have hne : (valE q v != 0) = true := by simp [h]
    have hne2 : (valE q v == 0) = false := by simp [h]
    clear h hf
    generalize valE q v = E at *
    obtain ⟨a, b, c, d⟩ := q
    go_enter Tryd.func41, Tryd.ntmps41
    go_wp2_with fail
    refine (C.out _).mono ?_
    rintro e w1 ⟨rfl, hb⟩
    have hB := Lib.hid (hB0.out.trans (hb.mono (by simp)))
    replace hO := Lib.hid (hO.out.later hb)
    obtain ⟨hi, o0, o1, g0, g1⟩ := hO.out
    obtain ⟨d0, d1⟩ := time_put hO.out 0 0
    clear hb C hB0 hK2
    go_wp2_with fail
    refine bodyPost_ret (v := tev (0, 0, E)) (by simp [results, Tryd.results41, go_sem, d0, d1]) rfl ⟨rfl, ?_⟩
    exact bs (bs ((ba (br w) _).trans (hB.out.mono (by omega))) (by simp) _) (by simp) _

set_option maxHeartbeats 4000000 in
theorem rfull_any (q : Q4) (v : Int) (w : World) : Calls Tryd.prog 43 #[mv q, .int .i64 v] w fun e w' => e = .returned (tev (fulV q v)) ∧ Below w.heap.size w w' := by
  have C := Lib.hid (fun W => rmval_any q v W)
  have K := Lib.hid (Cell4.made w q 23)
  have hK2 := Lib.hid (fun W (b : Below (w.heap.size + 1) (w.alloc (mO q)) W) => K.out.later (by rw [World.size_alloc]; exact b))
  have hO := Lib.hid (Own2.made (w.alloc (mO q)) 0 0 32)
  have hB0 := Lib.hid (w_alloc (w_refl (w.alloc (mO q))) (.cells #[.int .i64 0, .int .i64 0] 32))
  rw [World.size_alloc] at hO hB0
  clear K
  by_cases h : valE q v = 0
  · have hf := Lib.hid (fulV_ok h)
    obtain ⟨hq, hv⟩ := valE_zero h
    have P := Lib.hid (fun g hg W => rp_any q g hg W)
    have hst := Lib.hid (fun k => up_step hq hv.1 k)
    have hbd := min_bd hq hv
    have hpd := pie_bd hv
    rw [h] at C
    rw [hf.out]
    clear h hf
    have hmin := Lib.hid (show upI q v (5 - v).toNat = minI q v from rfl)
    have hpie := Lib.hid (show pwI (v - 5).toNat = pieI v from rfl)
    generalize minI q v = M at *
    generalize pieI v = D at *
    generalize hu : upI q v = U at *
    have hU0 : U 0 = 1 := by rw [← hu]; rfl
    clear hu hq
    generalize hpp : pI q = pq at *
    clear hpp
    obtain ⟨a, b, c, d⟩ := q
    obtain ⟨hv1, hv2⟩ := hv
    go_enter Tryd.func43, Tryd.ntmps43
    go_wp2_with fail
    refine (C.out _).mono ?_
    rintro e w1 ⟨rfl, hb⟩
    have hB := Lib.hid (hB0.out.trans (hb.mono (by simp)))
    replace hO := Lib.hid (hO.out.later hb)
    clear hb C hB0
    go_wp2_with fail
    go_loopw [7, 9] (fun s6 s8 wr => ∃ k : Nat, k ≤ (5 - v).toNat ∧ s6 = .int .i64 (U k) ∧ s8 = .int .i64 (v + (k : Int)) ∧ Hid (Below (w.heap.size + 1) (w.alloc (mO (a, b, c, d))) wr) ∧ Hid (Own2 wr (w.heap.size + 1) 0 0)) (fun _ s8 _ => (5 - intOf s8).toNat)
    case atStart => exact ⟨0, by omega, by rw [hU0], by simp, hB, hO⟩
    case round =>
      clear hB hO
      rename World => wr
      obtain ⟨k, hk, rfl, rfl, hbr, hO⟩ := hrel
      obtain ⟨_, c0, c1, c2, c3, _, _, _, _⟩ := hK2.out _ hbr.out
      obtain ⟨g, hg⟩ : ∃ g, v + (k : Int) = g := ⟨_, rfl⟩
      rw [hg]
      by_cases hlt : g < 5
      · have x1 := hst.out k (by omega)
        rw [hg] at x1
        have P1 := Lib.hid (fun W => P.out g (by omega) W)
        obtain ⟨m2, hm2⟩ : ∃ m2, U (k + 1) = m2 := ⟨_, rfl⟩
        rw [hm2] at x1
        generalize U k = m at *
        generalize pq g = p at *
        clear hst P hmin hpie
        go_wp2_with fail
        refine (P1.out _).mono ?_
        rintro e w1 ⟨rfl, hb⟩
        have hB := Lib.hid (hbr.out.trans (hb.mono (by have := hbr.out.size; simp at this; omega)))
        have hO2 := Lib.hid (hO.out.later hb)
        clear hb P1
        go_wp2_with fail
        go_roundw
        case rel => exact ⟨k + 1, by omega, by rw [hm2], by go_num, hB, hO2⟩
        case measure => simp [intOf]; omega
      · have hkk : k = (5 - v).toNat := by omega
        have hm : U k = M := by rw [hkk]; exact hmin.out
        rw [hm]
        clear hm hkk hmin hst c0 c1 c2 c3 P
        go_wp2_with fail
        go_loopw [8, 10] (fun s7 s9 wr => ∃ k : Nat, k ≤ (v - 5).toNat ∧ s7 = .int .i64 (pwI k) ∧ s9 = .int .i64 (v - (k : Int)) ∧ Hid (Below (w.heap.size + 1) (w.alloc (mO (a, b, c, d))) wr) ∧ Hid (Own2 wr (w.heap.size + 1) 0 0)) (fun _ s9 _ => (intOf s9).toNat)
        case atStart => exact ⟨0, by omega, rfl, by simp, hbr, hO⟩
        case round =>
          clear hbr hO
          rename World => w'
          obtain ⟨j, hj, rfl, rfl, hbr, hO⟩ := hrel
          obtain ⟨f, hf⟩ : ∃ f, v - (j : Int) = f := ⟨_, rfl⟩
          rw [hf]
          by_cases hl2 : 5 < f
          · have x1 := (pw_step j (by omega)).2
            obtain ⟨m2, hm2⟩ : ∃ m2, pwI (j + 1) = m2 := ⟨_, rfl⟩
            rw [hm2] at x1
            generalize pwI j = m at *
            clear hpie
            go_wp2_with fail
            go_roundw
            case rel => exact ⟨j + 1, by omega, by rw [hm2], by go_num, hbr, hO⟩
            case measure => simp [intOf]; omega
          · have hm : pwI j = D := by rw [show j = (v - 5).toNat by omega]; exact hpie.out
            rw [hm]
            clear hm hpie
            obtain ⟨hi, o0, o1, g0, g1⟩ := hO.out
            obtain ⟨d0, d1⟩ := time_put hO.out M D
            go_wp2_with fail
            refine bodyPost_ret (v := tev (M, D, 0)) (by simp [results, Tryd.results43, go_sem, d0, d1]) rfl ⟨rfl, ?_⟩
            exact bs (bs ((ba (br w) _).trans (hbr.out.mono (by omega))) (by simp) _) (by simp) _
  · have hf := Lib.hid (fulV_no h)
    rw [hf.out]
    have hne : (valE q v != 0) = true := by simp [h]
    have hne2 : (valE q v == 0) = false := by simp [h]
    clear h hf
    generalize valE q v = E at *
    obtain ⟨a, b, c, d⟩ := q
    go_enter Tryd.func43, Tryd.ntmps43
    go_wp2_with fail
    refine (C.out _).mono ?_
    rintro e w1 ⟨rfl, hb⟩
    have hB := Lib.hid (hB0.out.trans (hb.mono (by simp)))
    replace hO := Lib.hid (hO.out.later hb)
    obtain ⟨hi, o0, o1, g0, g1⟩ := hO.out
    obtain ⟨d0, d1⟩ := time_put hO.out 0 0
    clear hb C hB0 hK2
    go_wp2_with fail
    refine bodyPost_ret (v := tev (0, 0, E)) (by simp [results, Tryd.results43, go_sem, d0, d1]) rfl ⟨rfl, ?_⟩
    exact bs (bs ((ba (br w) _).trans (hB.out.mono (by omega))) (by simp) _) (by simp) _

end Go.Proofs.YtcomjcflllfobaaDoor
