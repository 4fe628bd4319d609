/- DotTwo: one or two meanings, and the rule's among them. -/
import Derived.Test.YthokapebcplmkaaDMade
import Derived.Test.YthokapebcplmkaaDKnown
namespace Go.Proofs.Ythokapebcplmkaa
open Go.RowKit

theorem ofN_ok {n : Int} (h : 0 ≤ n ∧ n ≤ 15) : okM (ofN n) := by
  refine (mens_iff _).1 ?_
  obtain ⟨k, rfl⟩ : ∃ k : Nat, n = (k : Int) := ⟨n.toNat, by omega⟩
  exact List.mem_map.2 ⟨k, List.mem_range.2 (by omega), rfl⟩

theorem len_two {α : Type} : ∀ {l : List α}, l.length = 2 → ∃ a b, l = [a, b]
  | [a, b], _ => ⟨a, b, rfl⟩
set_option maxRecDepth 100000 in
set_option maxHeartbeats 8000000 in
theorem ldtwo_any (which : Int) (hw1 : -9223372036854775808 ≤ which) (hw2 : which ≤ 9223372036854775807) (nums : List Int) (hb : ∀ z ∈ nums, -9223372036854775808 ≤ z ∧ z ≤ 9223372036854775807) (p : Option Addr) (cap : Nat) (w : World) (h : SlP w 1 p nums.length cap (ints nums)) :
    Calls Try.prog 6 #[.int .i64 which, .slice p nums.length cap] w fun e w' => e = .returned (.bool true) ∧ Below w.heap.size w w' := by
  have HP := Lib.hid h
  have KN := Lib.hid (dknown_any w)
  have MA := Lib.hid (fun p cap W hh => made_any nums hb p cap W hh)
  have KM := Lib.hid (fun W => kmens_any which ⟨hw1, hw2⟩ W)
  have hq : okM (ofN (which % 16)) := ofN_ok (by omega)
  generalize ofN (which % 16) = q at *
  have hml := made_len nums
  have hc := made_ok hq nums
  have RU := Lib.hid (fun p cap W hh => prul_any q (madeD nums) (by omega) p cap W hh)
  have MN := Lib.hid (fun p cap W hh => pmns_any q (madeD nums) (by omega) p cap W hh)
  have HS := Lib.hid (fun p cap l x W hh => has_any p cap l x W hh)
  unfold RuPost at RU
  unfold MnPost at MN
  rw [hc] at RU MN
  rw [mnD_ok hc] at MN
  have HIN := Lib.hid (fun i hi => ruD_in hc i hi)
  have HRL := Lib.hid (ruD_len hc)
  rw [mnD_ok hc] at HIN HRL
  have HONE := Lib.hid (mnP_one (chkD_zero hc).2 _ (Nat.le_refl _))
  have HASC := Lib.hid (mnP_asc q (madeD nums) (madeD nums).length)
  have hpl := mnP_len q (madeD nums) (madeD nums).length
  have DOT := Lib.hid (fun k h => mnP_dot (q := q) (l := madeD nums) (k := k) h)
  have NOT := Lib.hid (fun k h => mnP_not (q := q) (l := madeD nums) (k := k) h)
  have hpk := Lib.hid (fun k => mnP_len q (madeD nums) k)
  have hT0 := Lib.hid (show (mnP q (madeD nums) 0).length = 0 from rfl)
  clear h hb hq hc hw1 hw2
  generalize ruD q (madeD nums) = R at *
  generalize madeD nums = M at *
  generalize hPP : mnP q M = P at *
  clear hPP
  obtain ⟨q1, q2, q3, q4⟩ := q
  go_enter Try.func6, Try.ntmps6
  go_wp2_with fail
  refine KN.out.mono ?_
  rintro e w1 ⟨rfl, hb⟩
  have B := Lib.hid hb
  clear hb KN
  go_wp2_with fail
  refine (KM.out _).mono ?_
  rintro e w2 ⟨rfl, hb⟩
  have KQ := Lib.hid (Cell4.made w2 (q1, q2, q3, q4) 23)
  replace B := Lib.hid (w_alloc (w_below B.out hb) (mO (q1, q2, q3, q4)))
  clear hb KM
  go_upto_region 3 with (fail)
  obtain ⟨bm, hbm⟩ : ∃ bm, w2.heap.size = bm := ⟨_, rfl⟩
  rw [hbm] at KQ ⊢
  generalize w2.alloc (.cells #[.int .i64 q1, .int .i64 q2, .int .i64 q3, .int .i64 q4] 23) = y at *
  clear hbm
  go_wp2_with fail
  refine (MA.out _ _ _ (HP.out.later B.out)).mono ?_
  rintro e w3 ⟨v, rfl, ho⟩
  obtain ⟨pm, cm, rfl⟩ := ho.val
  have HM := Lib.hid (show SlP w3 17 pm M.length cm (flatG M) from own_sl ho.row rfl)
  replace B := Lib.hid (w_below B.out ho.bel)
  replace KQ := Lib.hid (KQ.out.later ho.bel)
  have f1 := HM.out.fit
  have f2 := HM.out.max
  clear ho MA
  go_wp2_with fail
  go_loopw [8, 9] (fun s8 s9 wr => ∃ k : Nat, k ≤ M.length ∧ s9 = .int .i64 k ∧ s8 = .int .i64 ((P k).length : Int) ∧ w3 = wr) (fun _ s9 _ => M.length - (intOf s9).toNat)
  case atStart => exact ⟨0, by omega, rfl, by rw [hT0.out]; rfl, rfl⟩
  case round =>
    obtain ⟨k, hk, rfl, rfl, rfl⟩ := hrel
    by_cases hlt : k < M.length
    · have hlt' : (k : Int) < M.length := by omega
      have hk0 : (0 : Int) ≤ k := by omega
      obtain ⟨bb, off, rfl, -, hsg⟩ := HM.out.sg (sg_some hlt)
      have e0 := hsg.e0
      have hkp := hpk.out k
      clear hsg
      by_cases h3 : (M.getD k zS).kind = 3
      · have hE := DOT.out k h3
        have hE2 := Lib.hid (show (P (k + 1)).length = (P k).length + 1 by rw [hE, List.length_append]; rfl)
        rw [h3] at e0
        clear hE h3
        generalize P k = Pk at *
        go_wp2_with fail
        exact ⟨⟨k + 1, by omega, by go_num, by rw [hE2.out]; go_num, trivial⟩, by simp [intOf]; omega⟩
      · have hE2 := Lib.hid (NOT.out k h3)
        have h31 : ((M.getD k zS).kind == 3) = false := beq_eq_false_iff_ne.2 h3
        clear h3
        generalize (M.getD k zS).kind = kk at *
        generalize hPk : P k = Pk at *
        go_wp2_with fail
        exact ⟨⟨k + 1, by omega, by go_num, by rw [hE2.out], trivial⟩, by simp [intOf]; omega⟩
    · obtain rfl : k = M.length := by omega
      have hlt' : ¬ ((M.length : Int) < M.length) := by omega
      clear DOT NOT hpk hT0
      generalize P M.length = T at *
      obtain ⟨_, k0, k1, k2, k3, _⟩ := KQ.out
      simp only at k0 k1 k2 k3
      go_wp2_with fail
      refine (MN.out _ _ _ HM.out).mono ?_
      rintro e w4 ⟨v, rfl, ⟨pa, ca, va, rfl, hA⟩, hb⟩
      replace B := Lib.hid (w_below B.out hb)
      replace KQ := Lib.hid (KQ.out.later hb)
      replace HM := Lib.hid (HM.out.later hb)
      have HA := Lib.hid hA
      clear hb hA MN k0 k1 k2 k3
      obtain ⟨_, k0, k1, k2, k3, _⟩ := KQ.out
      simp only at k0 k1 k2 k3
      go_wp2_with fail
      refine (RU.out _ _ _ HM.out).mono ?_
      rintro e w5 ⟨v, rfl, ⟨pr, cr, rfl, hR⟩, hb⟩
      replace B := Lib.hid (w_below B.out hb)
      replace HA := Lib.hid (HA.out.later hb)
      have HR := Lib.hid hR
      have hrl := HRL.out
      have g1 := HA.out.sl.fit
      have g2 := HA.out.sl.max
      have g3 := HR.out.fit
      have g4 := HR.out.max
      clear hb hR RU k0 k1 k2 k3 KQ HM
      have hrl1 : ((R.length : Int) != (T.length : Int)) = false := by simp; omega
      have hrl2 := Lib.hid hrl
      clear hrl
      go_wp2_with fail
      go_loopw [14] (fun s14 wr => ∃ k : Nat, k ≤ T.length ∧ s14 = .int .i64 k ∧ Hid (Below w5.heap.size w5 wr)) (fun s14 _ => T.length - (intOf s14).toNat)
      case atStart => exact ⟨0, by omega, rfl, Lib.hid (w_refl _)⟩
      case round =>
        rename World => wr
        obtain ⟨k, hk, rfl, hB⟩ := hrel
        by_cases hlt : k < T.length
        · have hlt' : (k : Int) < T.length := by omega
          have hk0 : (0 : Int) ≤ k := by omega
          have hkr : k < R.length := by rw [hrl2.out]; exact hlt
          have hkr' : (k : Int) < R.length := by omega
          have hLr := HA.out.later hB.out
          have hRr := HR.out.later hB.out
          obtain ⟨b, off, rfl, -, -⟩ := hLr.sl.at_ (by omega)
          obtain ⟨b2, off2, rfl, -, -⟩ := hRr.at_ (by omega)
          obtain ⟨u, hu, pu, cu, rfl, hus⟩ := hLr.at_ k _ (List.getElem?_eq_getElem hlt)
          have c0 := cell_at hLr.sl hu
          have c1 := int_at hRr hkr
          have hin := HIN.out k hlt
          have hone := HONE.out _ (List.getElem_mem hlt)
          have hasc := HASC.out _ (List.getElem_mem hlt)
          rw [show T.getD k [] = T[k] by rw [List.getD_eq_getElem?_getD, List.getElem?_eq_getElem hlt]; rfl] at hin
          obtain ⟨x, hx⟩ : ∃ x, R.getD k 0 = x := ⟨_, rfl⟩
          rw [hx] at c1 hin
          have KH := Lib.hid (show ∀ n : Grown wr, Calls Try.prog 40 #[.slice pu T[k].length cu, .int .i64 x] n.W fun e w' => e = .returned (.bool true) ∧ Grew wr w' from fun n => (HS.out _ _ _ _ n.W (hus.later n.b)).mono fun e w' ⟨h1, h2⟩ => ⟨by rw [h1, decide_eq_true hin], n, h2.symm⟩)
          obtain ⟨b3, o3, rfl, -, -⟩ := hus.at_ (by omega)
          have hint := fun i hi => int_at hus (i := i) hi
          clear hx hkr hu hLr hRr HIN HONE HASC HS hin hus
          generalize T[k] = X at *
          rcases (show X.length = 1 ∨ X.length = 2 by omega) with h1 | h2
          · obtain ⟨x0, rfl⟩ := List.length_eq_one_iff.1 h1
            have t0 : ∀ n : Grown wr, n.W.cell? ⟨b, off + k, none⟩ = some (.slice (some ⟨b3, o3, none⟩) 1 cu) := fun n => cell_later n.b c0
            have t1 : ∀ n : Grown wr, n.W.cell? ⟨b2, off2 + k, none⟩ = some (.int .i64 x) := fun n => cell_later n.b c1
            clear c0 c1 hint hone hasc h1
            go_wp2_with fail
            refine wp_region_grown (by kernel_rfl) (by kernel_rfl) ?_
            repeat (go_big_quiet_step (exact KH.out _))
            refine wpQuiet_nil ?_
            intro n
            have hB2 := Lib.hid (w_below hB.out n.b)
            clear KH t0 t1
            go_wp2_with fail
            exact ⟨⟨k + 1, by omega, by go_num, hB2⟩, by simp [intOf]; omega⟩
          · obtain ⟨x0, x1, rfl⟩ := len_two h2
            have hlt2 := hasc x0 x1 rfl
            have hle2 : ¬ x1 ≤ x0 := by omega
            have d0 := hint 0 (by simp)
            have d1 := hint 1 (by simp)
            have t0 : ∀ n : Grown wr, n.W.cell? ⟨b, off + k, none⟩ = some (.slice (some ⟨b3, o3, none⟩) 2 cu) := fun n => cell_later n.b c0
            have t1 : ∀ n : Grown wr, n.W.cell? ⟨b2, off2 + k, none⟩ = some (.int .i64 x) := fun n => cell_later n.b c1
            have t2 : ∀ n : Grown wr, n.W.cell? ⟨b3, o3, none⟩ = some (.int .i64 x0) := fun n => cell_later n.b d0
            have t3 : ∀ n : Grown wr, n.W.cell? ⟨b3, o3 + 1, none⟩ = some (.int .i64 x1) := fun n => cell_later n.b d1
            clear c0 c1 d0 d1 hint hone hasc h2 hlt2
            go_wp2_with fail
            refine wp_region_grown (by kernel_rfl) (by kernel_rfl) ?_
            repeat (go_big_quiet_step (exact KH.out _))
            refine wpQuiet_nil ?_
            intro n
            have hB2 := Lib.hid (w_below hB.out n.b)
            clear KH t0 t1 t2 t3
            go_wp2_with fail
            exact ⟨⟨k + 1, by omega, by go_num, hB2⟩, by simp [intOf]; omega⟩
        · obtain rfl : k = T.length := by omega
          have hlt' : ¬ ((T.length : Int) < T.length) := by omega
          clear HIN HONE HASC HS
          go_wp2_with fail
          go_ret
          exact ⟨rfl, w_below B.out hB.out⟩

end Go.Proofs.Ythokapebcplmkaa
