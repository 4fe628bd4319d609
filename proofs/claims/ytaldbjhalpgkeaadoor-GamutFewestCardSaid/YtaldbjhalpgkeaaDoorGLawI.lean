/- Statement GamutFewest, as a walk. -/
import Derived.Test.YtaldbjhalpgkeaaDoorGLawH
namespace Go.Proofs.YtaldbjhalpgkeaaDoor
open Go.RowKit

set_option maxRecDepth 100000 in
set_option maxHeartbeats 2000000 in
theorem gfewest_any (p : Option Addr) (cp : Nat) (zs : List Int) (w : World) (h : SlP w 1 p zs.length cp (ints zs))
    (hz : ∀ z ∈ zs, -9223372036854775808 ≤ z ∧ z ≤ 9223372036854775807) (tab : TabG w)
    (KN : ∀ W, Below w.heap.size w W → Calls Tryd.prog 6 #[] W fun e w' => e = .returned (.bool true) ∧ Below W.heap.size W w') :
    Calls Tryd.prog 8 #[.slice p zs.length cp] w fun e w' => e = .returned (.bool true) ∧ Below w.heap.size w w' := by
  obtain ⟨i0, hi0, hz0, hz1, hz2⟩ := info_parts info_pitch
  have TB := Lib.hid (fun W (b : Below w.heap.size w W) => tab.later b)
  have KK := Lib.hid KN
  have MZ := Lib.hid (fun W (b : Below w.heap.size w W) => made4_any p cp zs W (h.later b) hz)
  have LZ := Lib.hid (fun p cap W hh b => melody_any p cap (madeL zs) W hh (madeL_ok zs) (by have := madeL_len zs; omega) (TB.out W b))
  have sz := sings_made zs
  have lz := madeM_len zs
  have ls := madeL_len zs
  have PI := Lib.hid (fun s W (b : Below w.heap.size w W) => wpitch_any s W (TB.out W b))
  clear h hz tab KN
  have oz := madeL_len zs
  generalize madeL zs = O at *
  generalize hL : O.map madeS = L at *
  have SZ := Lib.hid (fun q c W hh b => (wsolmize_any q c L W hh (TB.out W b)).mono fun e w' x => x.sung sz (by omega))
  have SR := Lib.hid (fun q c W (hh : SlP W 3 q L.length c (flatP L.reverse)) b => (wsolmize_any q c L.reverse W (by rw [List.length_reverse]; exact hh) (TB.out W b)).mono fun e w' x => x.sung sz.rev (by rw [List.length_reverse]; omega))
  rw [few_rev sz.sung] at SR
  simp only [List.length_reverse] at SR
  have fl := few_le sz
  have ml := moves_len O
  have bs := best_sings sz.sung
  have bl := bs.len
  have BS := Lib.hid bs
  have MA := Lib.hid (fun q c W hh => lmoves_any q c (bestL L) W hh)
  have MO := Lib.hid (fun q c W hh => lmoves_any q c O W hh)
  have ef : movesL (bestL L) = fewL L := rfl
  rw [ef] at MA
  clear hL sz bs ef
  generalize bestL L = A at *
  generalize fewL L = a at *
  generalize movesL O = b at *
  have fl1 : ¬ (b < a) := by omega
  have fl2 : decide (b < a) = false := decide_eq_false fl1
  have x1 : IntKind.i64.wrap ((L.length : Int) - 1) = (L.length : Int) - 1 := IntWalk.i64_in _ (by omega)
  rw [bl] at MA
  clear fl
  go_enter Tryd.func8, Tryd.ntmps8
  go_wp2_with fail
  refine (KK.out _ (w_refl w)).mono ?_
  rintro e w1 ⟨rfl, hb⟩
  have B1 := Lib.hid hb
  clear hb KK
  go_wp2_with fail
  refine (MZ.out _ B1.out).mono ?_
  rintro e w2 ⟨v, rfl, ⟨q2, c2, rfl, hv⟩, hb⟩
  have B2 := Lib.hid (w_below B1.out hb)
  have O2 := Lib.hid hv
  clear hb hv MZ B1
  go_wp2_with fail
  refine (LZ.out _ _ _ O2.out B2.out).mono ?_
  rintro e w3 ⟨v, rfl, ⟨q3, c3, rfl, hv⟩, hb⟩
  have B3 := Lib.hid (w_below B2.out hb)
  have O3 := Lib.hid (O2.out.later hb)
  have V3 := Lib.hid hv
  clear hb hv LZ B2 O2
  go_wp2_with fail
  refine (SZ.out _ _ _ V3.out B3.out).mono ?_
  rintro e w4 ⟨v, rfl, ⟨q4, c4, rfl, hv⟩, hb⟩
  rw [bl] at hv
  simp only [bl]
  have B4 := Lib.hid (w_below B3.out hb)
  have O4 := Lib.hid (O3.out.later hb)
  have V4 := Lib.hid (V3.out.later hb)
  have A4 := Lib.hid hv
  clear hb hv SZ B3 O3 V3
  go_wp2_with fail
  refine (MA.out _ _ _ A4.out).mono ?_
  rintro e w5 ⟨rfl, hb⟩
  have B5 := Lib.hid (w_below B4.out hb)
  have O5 := Lib.hid (O4.out.later hb)
  have V5 := Lib.hid (V4.out.later hb)
  have A5 := Lib.hid (A4.out.later hb)
  clear hb MA B4 O4 V4 A4
  go_wp2_with fail
  refine (MO.out _ _ _ O5.out).mono ?_
  rintro e w6 ⟨rfl, hb⟩
  have B6 := Lib.hid (w_below B5.out hb)
  have V6 := Lib.hid (V5.out.later hb)
  have A6 := Lib.hid (A5.out.later hb)
  clear hb MO B5 O5 V5 A5
  go_wp2_with fail
  have f1 := V6.out.fit
  have f2 := V6.out.max
  have f3 := A6.out.fit
  have f4 := A6.out.max
  go_loopw [10, 11] (fun v i wr => ∃ c : Nat, c ≤ L.length ∧ i = .int .i64 ((c : Int) - 1) ∧ (∃ q k, v = .slice q (L.length - c) k) ∧ Hid (OwnL w6 wr 23 3 v (L.length - c) (flatP (L.drop c).reverse))) (fun _ i _ => (intOf i + 1).toNat)
  case atStart => exact ⟨L.length, Nat.le_refl _, rfl, ⟨none, 0, by rw [Nat.sub_self]⟩, Lib.hid (by rw [Nat.sub_self, List.drop_length]; exact OwnL.start _ _ _)⟩
  case round =>
    obtain ⟨c, hc, rfl, ⟨q, k, rfl⟩, ho⟩ := hrel
    by_cases hc0 : c = 0
    · subst hc0
      have hs := SlP.of_own ho.out.row (by rw [flatP_len, List.length_reverse, List.length_drop]) (flatP_one _)
      obtain ⟨q7, c7, e7, hs7⟩ := hs
      simp only [Value.slice.injEq, true_and] at e7
      obtain ⟨rfl, rfl⟩ := e7
      rw [Nat.sub_zero, List.drop_zero] at hs7
      have n0 : ¬ ((0 : Int) ≤ ((0 : Nat) : Int) - 1) := by omega
      have B7 := Lib.hid (w_below B6.out ho.out.bel)
      have R7 := Lib.hid hs7
      clear hs7 ho x1
      simp only [Nat.sub_zero]
      go_wp2_with fail
      refine (SR.out _ _ _ R7.out B7.out).mono ?_
      rintro e w8 ⟨v, rfl, ⟨q8, c8, rfl, _⟩, hb⟩
      have B8 := Lib.hid (w_below B7.out hb)
      clear hb SR B7 R7
      go_wp2_with fail
      go_ret
      exact ⟨rfl, B8.out⟩
    · obtain ⟨j, rfl⟩ : ∃ j, c = j + 1 := ⟨c - 1, by omega⟩
      have ej : ((j + 1 : Nat) : Int) - 1 = j := by omega
      rw [ej]
      have hj : j < L.length := by omega
      have hj' : (j : Int) < L.length := by omega
      have hj0 : (0 : Int) ≤ j := by omega
      have x2 : IntKind.i64.wrap ((j : Int) - 1) = (j : Int) - 1 := IntWalk.i64_in _ (by omega)
      obtain ⟨s, hs⟩ : ∃ s, A[j]? = some s := ⟨A[j], List.getElem?_eq_getElem (by omega)⟩
      have hp : L[j]? = some (madeS s) := by rw [← BS.out.1, List.getElem?_map, hs]; rfl
      have C := Lib.hid (fun W b => PI.out s W b)
      unfold PitPost pitV at C
      rw [if_pos (BS.out.2 s (List.mem_of_getElem? hs))] at C
      have hE := Lib.hid (show flatP (L.drop j).reverse = flatP (L.drop (j + 1)).reverse ++ flatP [madeS s] by
        obtain ⟨hlt, e⟩ := List.getElem?_eq_some_iff.1 hp
        rw [List.drop_eq_getElem_cons hlt, e, List.reverse_cons, flatP_app])
      have V7 := V6.out.later ho.out.bel
      have A7 := A6.out.later ho.out.bel
      have A8 : SlP wr 2 q4 A.length c4 (flatS A) := by rw [bl]; exact A7
      obtain ⟨b1, o1, rfl, _, c0, c1⟩ := A8.way hs
      obtain ⟨b2, o2, rfl, _, g0, g1, g2⟩ := V7.pit hp
      have GG := Lib.hid (show _ ∧ _ ∧ _ from ⟨g0, g1, g2⟩)
      clear A8 V7 A7 hs hp g0 g1 g2
      generalize madeS s = m at *
      go_wp2_with fail
      refine (C.out _ (w_below B6.out ho.out.bel)).mono ?_
      rintro e w7 ⟨rfl, hb⟩
      have HB := Lib.hid (w_alloc hb (pO m))
      obtain ⟨_, d0, d1, d2, _, _, _⟩ := Cell3.made w7 m 23
      have g0 := cell_later HB.out GG.out.1
      have g1 := cell_later HB.out GG.out.2.1
      have g2 := cell_later HB.out GG.out.2.2
      have LIT := Lib.hid (show ∀ i u, (flatP [m])[i]? = some u → (World.drew ((w7.alloc (pO m)).alloc (pO m))).cell? ((⟨w7.heap.size + 1, 0, none⟩ : Addr).add i) = some u by
        have := lit_new (w7.alloc (pO m)) (flatP [m]).toArray 23
        rw [World.size_alloc] at this
        exact this)
      clear hb C c0 c1 GG
      go_wp2_with fail
      go_region
      all_goals
        go_wp2_with (at_builtin; refine wpList_append_own_at _ rfl _ _ 39 rfl w6.heap.size 23 i0 (.agg #[.int .i64 0, .int .i64 0, .int .i64 0]) 3 24 Tryd.underlying39 hi0 hz0 hz1 hz2 rfl (by decide) _ (L.length - (j + 1)) (flatP (L.drop (j + 1)).reverse) rfl (ho.out.later ((w_alloc HB.out (pO m)).drew)).row ⟨w7.heap.size + 1, 0, none⟩ 1 1 (flatP [m]) rfl rfl LIT.out (flatP_one _) (by unfold maxLen; omega) (by omega) (ho.out.later ((w_alloc HB.out (pO m)).drew)).bel.size ?_)
        intro v' w9 hown hgrow _ _
        have HN := Lib.hid (show OwnL w6 w9 23 3 v' (L.length - j) (flatP (L.drop j).reverse) by
          rw [hE.out]
          have := ho.out.app ((w_alloc HB.out (pO m)).drew) hown hgrow
          rw [show L.length - (j + 1) + 1 = L.length - j by omega] at this
          exact this)
        obtain ⟨q2, c2, hv⟩ := HN.out.val
        subst hv
        clear hown hgrow HB d0 d1 d2 g0 g1 g2
        go_wp2_with fail
        go_roundw
        case rel => exact ⟨j, by omega, by go_num, ⟨q2, c2, rfl⟩, HN⟩
        case measure => simp [intOf]

end Go.Proofs.YtaldbjhalpgkeaaDoor
