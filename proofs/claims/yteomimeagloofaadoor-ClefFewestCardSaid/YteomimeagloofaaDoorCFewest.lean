/- Statement ClefFewest, as a walk. -/
import Derived.Test.YteomimeagloofaaDoorCLines
namespace Go.Proofs.YteomimeagloofaaDoor
open Go.RowKit

def pitF (z : Int) : Pi3 := ((14 + z % 30) % 7, (14 + z % 30) / 7, 0)
def fewL (zs : List Int) : List Pi3 := (zs.take 12).map pitF
theorem few_ok (zs : List Int) : ∀ q ∈ fewL zs, okP q := by
  intro q hq
  unfold fewL at hq
  rw [List.mem_map] at hq
  obtain ⟨z, _, rfl⟩ := hq
  unfold okP pitF
  simp only
  omega
theorem few_len (zs : List Int) : (fewL zs).length ≤ 12 := by unfold fewL; rw [List.length_map, List.length_take]; omega
theorem ned_iff (c : Cl) : ∀ l, nedB c l = true ↔ ∀ q ∈ l, onP (atI c q)
  | [] => by simp [nedB]
  | p :: t => by
    have ih := ned_iff c t
    show (decide (onP (atI c p)) && nedB c t) = true ↔ _
    rw [Bool.and_eq_true, decide_eq_true_eq, ih]
    simp
theorem pla_iff {c : Cl} {k : Int} {q : Pi3} (hc : okC c) (hk : 0 ≤ k ∧ k ≤ 2) (hq : okP q) : plaE c k q = 0 ↔ onP (atI c q) := by
  refine ⟨pla_zero, fun h => ?_⟩
  unfold plaE
  rw [if_pos (keyE_ok hc hk), if_pos (chkV_ok hq), if_pos h]
theorem lin_ned {c : Cl} {k : Int} {l : List Pi3} (hc : okC c) (hk : 0 ≤ k ∧ k ≤ 2) (hl : ∀ q ∈ l, okP q) : linB c k l = nedB c l ∧ (nedB c l = true → linV c k l = nedS c l) := by
  have e : linB c k l = nedB c l := by
    have h : linB c k l = true ↔ nedB c l = true := by
      rw [ned_iff]
      unfold linB
      rw [decide_eq_true_eq]
      exact ⟨fun h q hq => (pla_iff hc hk (hl q hq)).1 (h q hq), fun h q hq => (pla_iff hc hk (hl q hq)).2 (h q hq)⟩
    cases h1 : linB c k l <;> cases h2 : nedB c l <;> simp [h1, h2] at h ⊢
  exact ⟨e, fun h => if_pos (by rw [e]; exact h)⟩
theorem few_case {k : Int} {l : List Pi3} (hk : 0 ≤ k ∧ k ≤ 2) (hl : ∀ q ∈ l, okP q) :
    (besE k l = 0 ∧ linB (besC k l) k l = true ∧ ∀ i, i < 15 → linB (clefN i) k l = true → linV (besC k l) k l ≤ linV (clefN i) k l) ∨ (besE k l = 18 ∧ ∀ i, i < 15 → linB (clefN i) k l = false) := by
  rcases best_inv l 15 (Nat.le_refl _) with ⟨h1, h2⟩ | ⟨h1, h2, h3, h4, h5⟩
  · exact .inr ⟨(bes_none hk hl h1).1, fun i hi => by rw [(lin_ned (clefN_ok i hi) hk hl).1]; exact h2 i hi⟩
  · obtain ⟨e1, e2⟩ := bes_ok hk hl h1
    refine .inl ⟨e1, ?_, fun i hi hb => ?_⟩
    · rw [e2, (lin_ned h2 hk hl).1]; exact h3
    · rw [(lin_ned (clefN_ok i hi) hk hl).1] at hb
      rw [e2, (lin_ned h2 hk hl).2 h3, (lin_ned (clefN_ok i hi) hk hl).2 hb, h4]
      exact h5 i hi hb
theorem bes_rev (k : Int) (l : List Pi3) : besE k l.reverse = besE k l ∧ besC k l.reverse = besC k l := by
  have hb := best_congr (l := l.reverse) (m := l) (fun c => ned_rev c l) 15
  have hp : (∀ p ∈ l.reverse, okP p) ↔ ∀ p ∈ l, okP p := by simp only [List.mem_reverse]
  have e : besE k l.reverse = besE k l := by
    unfold besE
    rw [hb]
    by_cases h : ∀ p ∈ l, okP p
    · rw [if_pos (hp.2 h), if_pos h]
    · rw [if_neg (fun x => h (hp.1 x)), if_neg h]
  refine ⟨e, ?_⟩
  unfold besC
  rw [e, hb]

set_option maxRecDepth 100000 in
set_option maxHeartbeats 8000000 in
theorem lfewest_any (k0 : Int) (hk0 : -9223372036854775808 ≤ k0 ∧ k0 ≤ 9223372036854775807) (p : Option Addr) (cap : Nat) (zs : List Int) (w : World) (T : TabC w) (h : SlP w 1 p zs.length cap (ints zs)) (hz : ∀ z ∈ zs, -9223372036854775808 ≤ z ∧ z ≤ 9223372036854775807) :
    Calls Tryd.prog 9 #[.int .i64 k0, .slice p zs.length cap] w fun e w' => e = .returned (.bool true) ∧ Below w.heap.size w w' := by
  obtain ⟨i0, hi0, hz0, hz1, hz2⟩ := info_parts info_pitch
  have f1 := h.fit
  have f2 := h.max
  have HS := Lib.hid h
  have HZ := Lib.hid hz
  have KN := Lib.hid (fun W (b : Below w.heap.size w W) => cknown_any W (T.later b))
  have MK := Lib.hid (fun W => mod_any k0 3 W hk0.1 hk0.2 (by decide) (by decide))
  have MO := Lib.hid (fun z a b W => mod_any z 30 W a b (by decide) (by decide))
  have hkb : 0 ≤ k0 % 3 ∧ k0 % 3 ≤ 2 := by omega
  generalize k0 % 3 = k at *
  have TB := Lib.hid (fun W (b : Below w.heap.size w W) => T.later b)
  clear h hz T
  obtain ⟨l, hl⟩ : ∃ l, fewL zs = l := ⟨_, rfl⟩
  have hln : l.length ≤ 12 := by rw [← hl]; exact few_len zs
  have hlo : ∀ q ∈ l, okP q := by rw [← hl]; exact few_ok zs
  have hls : ∀ k : Nat, k ≤ zs.length → k ≤ 12 → ¬ (k < zs.length ∧ k < 12) → (zs.take k).map pitF = l := fun k h1 h2 h3 => by
    rw [← hl]
    unfold fewL
    congr 1
    by_cases a : k = 12
    · rw [a]
    · rw [List.take_of_length_le (by omega), List.take_of_length_le (by omega)]
  have HL := Lib.hid hls
  clear hls hl
  go_enter Tryd.func9, Tryd.ntmps9
  go_wp2_with fail
  refine (KN.out _ (w_refl w)).mono ?_
  rintro e w1 ⟨rfl, hb⟩
  have hB := Lib.hid hb
  clear hb KN
  go_wp2_with fail
  refine (MK.out _).mono ?_
  rintro e w2 ⟨rfl, rfl⟩
  clear MK
  go_wp2_with fail
  go_loopw [6, 8] (fun v i wr => ∃ k : Nat, k ≤ zs.length ∧ k ≤ 12 ∧ i = .int .i64 k ∧ (∃ q c, v = .slice q k c) ∧ Hid (OwnL w1 wr 25 3 v k (flatP ((zs.take k).map pitF)))) (fun _ i _ => zs.length - (intOf i).toNat)
  case atStart => exact ⟨0, by omega, by omega, rfl, ⟨none, 0, rfl⟩, Lib.hid (OwnL.start _ _ _)⟩
  case round =>
    rename World => wr
    obtain ⟨j, hk, hk12, rfl, ⟨q, c, rfl⟩, ho⟩ := hrel
    by_cases hgo : j < zs.length ∧ j < 12
    · obtain ⟨hlt, h12⟩ := hgo
      have hlt' : (j : Int) < zs.length := by omega
      have h12' : (j : Int) < 12 := by omega
      obtain ⟨z, hzk⟩ : ∃ z, zs[j]? = some z := ⟨zs[j], List.getElem?_eq_getElem hlt⟩
      have bd := HZ.out z (List.mem_of_getElem? hzk)
      have C := Lib.hid (fun W => MO.out z bd.1 bd.2 W)
      obtain ⟨b, off, rfl, _, hc⟩ := (HS.out.later (w_below hB.out ho.out.bel)).at_ (by omega)
      have c0 := hc j (.int .i64 z) (by rw [List.getElem?_map, hzk]; rfl)
      have hE := Lib.hid (show flatP ((zs.take (j + 1)).map pitF) = flatP ((zs.take j).map pitF) ++ flatP [pitF z] by
        rw [List.take_add_one, hzk, List.map_append, flatP_app]; rfl)
      have r0 : 0 ≤ z % 30 := by omega
      have r1 : z % 30 < 30 := by omega
      have hw : pitF z = ((14 + z % 30) % 7, (14 + z % 30) / 7, 0) := rfl
      rw [hw] at hE
      clear hw hc hzk bd HL
      obtain ⟨u, hu⟩ : ∃ u, 14 + z % 30 = u := ⟨_, rfl⟩
      rw [hu] at hE
      generalize z % 30 = m at *
      have t0 : IntKind.i64.wrap (14 + m) = u := by rw [IntWalk.i64_in _ (by omega)]; exact hu
      have t1 : u.tmod 7 = u % 7 := Int.tmod_eq_emod_of_nonneg (by omega)
      have t2 : u.tdiv 7 = u / 7 := Int.tdiv_eq_ediv_of_nonneg (by omega)
      have x1 : IntKind.i64.wrap (u / 7) = u / 7 := IntWalk.i64_in _ (by omega)
      have x2 : IntKind.i64.wrap (u % 7) = u % 7 := IntWalk.i64_in _ (by omega)
      go_wp2_with fail
      refine (C.out _).mono ?_
      rintro e w3 ⟨rfl, rfl⟩
      clear C c0
      have HO := Lib.hid (ho.out.later (w_alloc (w_refl wr) (.cells #[.int .i64 (u % 7), .int .i64 (u / 7), .int .i64 0] 25)))
      go_wp2_with (at_builtin; refine wpList_append_own_at _ rfl _ _ 38 rfl w1.heap.size 25 i0 (.agg #[.int .i64 0, .int .i64 0, .int .i64 0]) 3 24 Tryd.underlying38 hi0 hz0 hz1 hz2 rfl (by decide) _ j (flatP ((zs.take j).map pitF)) rfl HO.out.row ⟨wr.heap.size, 0, none⟩ 1 1 (flatP [(u % 7, u / 7, 0)]) rfl rfl (lit_new _ _ _) (flatP_one _) (by unfold maxLen; omega) (by omega) HO.out.bel.size ?_)
      intro v' w3 hown hgrow _ _
      have HN := Lib.hid (show OwnL w1 w3 25 3 v' (j + 1) (flatP ((zs.take (j + 1)).map pitF)) by
        rw [hE.out]
        exact ho.out.app (w_alloc (w_refl wr) _) (by rw [List.map_take]; exact hown) hgrow)
      obtain ⟨q2, c2, hv⟩ := HN.out.val
      subst hv
      clear hown hgrow HO
      go_wp2_with fail
      go_roundw
      case rel => exact ⟨j + 1, by omega, by omega, by go_num, ⟨q2, c2, rfl⟩, HN⟩
      case measure => simp [intOf]; omega
    · have hkl : j = l.length := by rw [← HL.out j hk hk12 hgo, List.length_map, List.length_take]; omega
      have HA := Lib.hid (show SlP wr 3 q l.length c (flatP l) ∧ Below w.heap.size w wr from ⟨by
        have h1 := ho.out.row
        rw [HL.out j hk hk12 hgo] at h1
        rw [hkl] at h1
        obtain ⟨p', c', e, hs⟩ := SlP.of_own h1 (flatP_len l) (flatP_one l)
        injection e with e1 e2 e3
        subst e1 e3
        exact hs, w_below hB.out ho.out.bel⟩)
      have two : (¬ ((j : Int) < zs.length)) ∨ ((j : Int) < zs.length ∧ ¬ ((j : Int) < 12)) := by omega
      have g1 := HA.out.1.fit
      have g2 := HA.out.1.max
      have hlr : (l.length : Int) ≤ 12 := by omega
      have x0 : IntKind.i64.wrap ((l.length : Int) - 1) = (l.length : Int) - 1 := IntWalk.i64_in _ (by omega)
      clear ho HL hgo hk hk12 HS HZ MO hB f1 f2
      subst hkl
      rcases two with e1 | ⟨e1, e2⟩
      all_goals
        go_wp2_with fail
        go_loopw [7, 10] (fun v i wx => ∃ m : Nat, m ≤ l.length ∧ i = .int .i64 ((m : Int) - 1) ∧ (∃ q c, v = .slice q (l.length - m) c) ∧ Hid (OwnL wr wx 25 3 v (l.length - m) (flatP (l.reverse.take (l.length - m))))) (fun _ i _ => (intOf i + 1).toNat)
        case atStart => exact ⟨l.length, Nat.le_refl _, rfl, ⟨none, 0, by rw [Nat.sub_self]⟩, Lib.hid (by rw [Nat.sub_self]; exact OwnL.start _ _ _)⟩
        case round =>
          rename World => wx
          obtain ⟨m, hm, rfl, ⟨q3, c3, rfl⟩, ho⟩ := hrel
          by_cases hm0 : 0 < m
          · obtain ⟨n, rfl⟩ : ∃ n, m = n + 1 := ⟨m - 1, by omega⟩
            obtain ⟨s, hs⟩ : ∃ s, l[n]? = some s := ⟨l[n], List.getElem?_eq_getElem (by omega)⟩
            obtain ⟨b, off, rfl, _, a0, a1, a2⟩ := (HA.out.1.later ho.out.bel).pit hs
            have hE := Lib.hid (show flatP (l.reverse.take (l.length - n)) = flatP (l.reverse.take (l.length - (n + 1))) ++ flatP [s] by
              rw [show l.length - n = l.length - (n + 1) + 1 by omega, List.take_add_one, List.getElem?_reverse (by omega), show l.length - 1 - (l.length - (n + 1)) = n by omega, hs, flatP_app]; rfl)
            have hn1 : ((n + 1 : Nat) : Int) - 1 = (n : Int) := by omega
            have hn0 : (0 : Int) ≤ n := by omega
            have hn2 : (n : Int) < l.length := by omega
            have x5 : IntKind.i64.wrap ((n : Int) - 1) = (n : Int) - 1 := IntWalk.i64_in _ (by omega)
            have hnn : l.length - n = l.length - (n + 1) + 1 := by omega
            rw [hn1]
            clear hs
            have HO := Lib.hid (ho.out.later (w_alloc (w_refl wx) (pO s)))
            obtain ⟨ss, so, sa⟩ := s
            simp only at a0 a1 a2
            go_wp2_with (at_builtin; refine wpList_append_own_at _ rfl _ _ 38 rfl wr.heap.size 25 i0 (.agg #[.int .i64 0, .int .i64 0, .int .i64 0]) 3 24 Tryd.underlying38 hi0 hz0 hz1 hz2 rfl (by decide) _ (l.length - (n + 1)) (flatP (l.reverse.take (l.length - (n + 1)))) rfl HO.out.row ⟨wx.heap.size, 0, none⟩ 1 1 (flatP [(ss, so, sa)]) rfl rfl (lit_new _ _ _) (flatP_one _) (by unfold maxLen; omega) (by omega) HO.out.bel.size ?_)
            intro v' w3 hown hgrow _ _
            have HN := Lib.hid (show OwnL wr w3 25 3 v' (l.length - n) (flatP (l.reverse.take (l.length - n))) by
              rw [hE.out, hnn]
              exact ho.out.app (w_alloc (w_refl wx) _) hown hgrow)
            obtain ⟨q4, c4, hv⟩ := HN.out.val
            subst hv
            clear hown hgrow HO a0 a1 a2
            go_wp2_with fail
            go_roundw
            case rel => exact ⟨n, by omega, rfl, ⟨q4, c4, rfl⟩, HN⟩
            case measure => (simp [intOf]; try omega)
          · obtain rfl : m = 0 := by omega
            have hm1 : ((0 : Nat) : Int) - 1 = -1 := by decide
            rw [hm1]
            have HD := Lib.hid (show SlP wx 3 q l.length c (flatP l) ∧ SlP wx 3 q3 l.length c3 (flatP l.reverse) ∧ Below w.heap.size w wx from ⟨HA.out.1.later ho.out.bel, by
              have h1 := ho.out.row
              rw [Nat.sub_zero] at h1
              rw [show l.length = l.reverse.length from (List.length_reverse).symm, List.take_length] at h1
              obtain ⟨p', c', e, hs⟩ := SlP.of_own h1 (flatP_len _) (flatP_one _)
              injection e with e1 e2 e3
              subst e1 e3
              rwa [List.length_reverse] at hs, w_below HA.out.2 ho.out.bel⟩)
            rw [Nat.sub_zero]
            clear ho hm1 hm hm0 HA
            have B1 := Lib.hid (fun W (b : Below w.heap.size w W) (h : SlP W 3 q l.length c (flatP l)) => cbest_any k q c l (by omega) W (TB.out W b) h)
            have B2 := Lib.hid (fun W (b : Below w.heap.size w W) (h : SlP W 3 q3 l.length c3 (flatP l.reverse)) => by
              have := cbest_any k q3 c3 l.reverse (by rw [List.length_reverse]; omega) W (TB.out W b) (by rw [List.length_reverse]; exact h)
              unfold BesPost at this
              rw [List.length_reverse, (bes_rev k l).1, (bes_rev k l).2] at this
              exact this)
            unfold BesPost at B1
            have LI := Lib.hid (fun cc W (b : Below w.heap.size w W) (h : SlP W 3 q l.length c (flatP l)) => lines_any cc k q c l (by omega) hlo W (TB.out W b) h)
            unfold LinPost at LI
            have LB := Lib.hid (fun W b h => LI.out (besC k l) W b h)
            have hca := few_case hkb hlo
            have AL := Lib.hid (show ∀ i : Nat, i < 15 → ∀ W, Calls Tryd.prog 26 #[.int .i64 i] W fun e w' => e = .returned (cv (clefN i)) ∧ Below W.heap.size W w' from fun i hi W => by
              have := all_any i (by omega) W
              rwa [show ((i : Int) % 15).toNat = i by omega] at this)
            have LN := Lib.hid (fun (i : Nat) W b h => LI.out (clefN i) W b h)
            clear LI
            generalize linV (besC k l) k l = bV at *
            generalize linB (besC k l) k l = bB at *
            generalize besE k l = ee at *
            generalize besC k l = bc at *
            generalize hnV : (fun i : Nat => linV (clefN i) k l) = nV at *
            generalize hnB : (fun i : Nat => linB (clefN i) k l) = nB at *
            have hnV' : ∀ i, linV (clefN i) k l = nV i := fun i => congrFun hnV i
            have hnB' : ∀ i, linB (clefN i) k l = nB i := fun i => congrFun hnB i
            simp only [hnV', hnB'] at hca LN
            clear hnV hnB hnV' hnB' hlo hkb
            generalize clefN = cl at *
            obtain ⟨s0, l0⟩ := bc
            go_wp2_with fail
            refine (B1.out _ HD.out.2.2 HD.out.1).mono ?_
            rintro e w5 ⟨rfl, hb⟩
            have hb9 := w_alloc hb (cO (s0, l0))
            have HE := Lib.hid (show _ ∧ _ ∧ _ from ⟨HD.out.1.later hb9, HD.out.2.1.later hb9, w_below HD.out.2.2 hb9⟩)
            have KC := Lib.hid (Two2.made w5 (s0, l0) 23)
            clear hb hb9 B1 HD
            go_wp2_with fail
            refine (B2.out _ HE.out.2.2 HE.out.2.1).mono ?_
            rintro e w6 ⟨rfl, hb⟩
            have hb9 := w_alloc hb (cO (s0, l0))
            have HF := Lib.hid (show _ ∧ _ from ⟨HE.out.1.later hb9, w_below HE.out.2.2 hb9⟩)
            replace KC := Lib.hid (KC.out.later hb9)
            have KD := Lib.hid (Two2.made w6 (s0, l0) 23)
            clear hb hb9 B2 HE
            obtain ⟨_, k1, k2, _, _⟩ := KC.out
            obtain ⟨_, k3, k4, _, _⟩ := KD.out
            simp only at k1 k2 k3 k4
            rcases hca with ⟨rfl, rfl, hca⟩ | ⟨rfl, hca⟩
            · have HC := Lib.hid hca
              clear hca
              go_wp2_with fail
              refine (LB.out _ HF.out.2 HF.out.1).mono ?_
              rintro e w7 ⟨rfl, hb⟩
              have HG := Lib.hid (show _ ∧ _ from ⟨HF.out.1.later hb, w_below HF.out.2 hb⟩)
              clear hb LB HF k1 k2 k3 k4 KC KD
              go_wp2_with fail
              go_loopw [17] (fun s17 wy => ∃ i : Nat, i ≤ 15 ∧ s17 = .int .i64 i ∧ Hid (SlP wy 3 q l.length c (flatP l) ∧ Below w.heap.size w wy)) (fun s17 _ => (15 - intOf s17).toNat)
              case atStart => exact ⟨0, by omega, rfl, HG⟩
              case round =>
                clear HG
                obtain ⟨i, hi, rfl, HG⟩ := hrel
                by_cases hi5 : i < 15
                · have hi6 : (i : Int) < 15 := by omega
                  have A1 := Lib.hid (fun W => AL.out i hi5 W)
                  have N1 := Lib.hid (fun W b h => LN.out i W b h)
                  have hc1 := HC.out i hi5
                  clear AL LN HC
                  generalize cl i = ci at *
                  generalize nV i = nv at *
                  generalize nB i = nb at *
                  obtain ⟨ca, cb⟩ := ci
                  go_wp2_with fail
                  refine (A1.out _).mono ?_
                  rintro e w8 ⟨rfl, hb⟩
                  have HI := Lib.hid (show _ ∧ _ from ⟨HG.out.1.later hb, w_below HG.out.2 hb⟩)
                  clear hb A1 HG
                  go_wp2_with fail
                  refine (N1.out _ HI.out.2 HI.out.1).mono ?_
                  rintro e w9 ⟨rfl, hb⟩
                  have HJ := Lib.hid (show _ ∧ _ from ⟨HI.out.1.later hb, w_below HI.out.2 hb⟩)
                  clear hb N1 HI
                  cases nb with
                  | false =>
                    clear hc1
                    go_wp2_with fail
                    go_roundw
                    case rel => exact ⟨i + 1, by omega, by go_num, HJ⟩
                    case measure => (simp [intOf]; try omega)
                  | true =>
                    have hc2 : ¬ nv < bV := by have := hc1 rfl; omega
                    clear hc1
                    go_wp2_with fail
                    go_roundw
                    case rel => exact ⟨i + 1, by omega, by go_num, HJ⟩
                    case measure => (simp [intOf]; try omega)
                · obtain rfl : i = 15 := by omega
                  go_wp2_with fail
                  go_ret
                  exact ⟨rfl, HG.out.2⟩
            · have HC := Lib.hid hca
              clear hca
              go_wp2_with fail
              refine (LB.out _ HF.out.2 HF.out.1).mono ?_
              rintro e w7 ⟨rfl, hb⟩
              have HG := Lib.hid (show _ ∧ _ from ⟨HF.out.1.later hb, w_below HF.out.2 hb⟩)
              clear hb LB HF k1 k2 k3 k4 KC KD
              go_wp2_with fail
              go_loopw [17] (fun s17 wy => ∃ i : Nat, i ≤ 15 ∧ s17 = .int .i64 i ∧ Hid (SlP wy 3 q l.length c (flatP l) ∧ Below w.heap.size w wy)) (fun s17 _ => (15 - intOf s17).toNat)
              case atStart => exact ⟨0, by omega, rfl, HG⟩
              case round =>
                clear HG
                obtain ⟨i, hi, rfl, HG⟩ := hrel
                by_cases hi5 : i < 15
                · have hi6 : (i : Int) < 15 := by omega
                  have A1 := Lib.hid (fun W => AL.out i hi5 W)
                  have N1 := Lib.hid (fun W b h => LN.out i W b h)
                  rw [HC.out i hi5] at N1
                  clear AL LN HC
                  generalize cl i = ci at *
                  generalize nV i = nv at *
                  obtain ⟨ca, cb⟩ := ci
                  go_wp2_with fail
                  refine (A1.out _).mono ?_
                  rintro e w8 ⟨rfl, hb⟩
                  have HI := Lib.hid (show _ ∧ _ from ⟨HG.out.1.later hb, w_below HG.out.2 hb⟩)
                  clear hb A1 HG
                  go_wp2_with fail
                  refine (N1.out _ HI.out.2 HI.out.1).mono ?_
                  rintro e w9 ⟨rfl, hb⟩
                  have HJ := Lib.hid (show _ ∧ _ from ⟨HI.out.1.later hb, w_below HI.out.2 hb⟩)
                  clear hb N1 HI
                  go_wp2_with fail
                  go_roundw
                  case rel => exact ⟨i + 1, by omega, by go_num, HJ⟩
                  case measure => (simp [intOf]; try omega)
                · obtain rfl : i = 15 := by omega
                  go_wp2_with fail
                  go_ret
                  exact ⟨rfl, HG.out.2⟩

end Go.Proofs.YteomimeagloofaaDoor
