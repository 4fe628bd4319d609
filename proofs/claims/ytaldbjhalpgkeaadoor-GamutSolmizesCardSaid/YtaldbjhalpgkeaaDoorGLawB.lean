/- What the statements of stage 4 make: successive places, ways made of numbers, their melodies. -/
import Derived.Test.YtaldbjhalpgkeaaDoorGLawA
import Derived.Test.YtaldbjhalpgkeaaDoorGKit
import Derived.Test.YtaldbjhalpgkeaaDoorGProgZ
import Derived.Maps.AppendAt
namespace Go.Proofs.YtaldbjhalpgkeaaDoor
open Go.RowKit

def fromL (n : Int) : Nat → List Pi3
  | 0 => []
  | m + 1 => fromL n m ++ [natP (n + m)]
theorem from_len (n : Int) : ∀ m, (fromL n m).length = m
  | 0 => rfl
  | m + 1 => by show (fromL n m ++ [_]).length = m + 1; rw [List.length_append, from_len n m]; rfl

set_option maxRecDepth 100000 in
set_option maxHeartbeats 2000000 in
theorem from_any (n : Int) (m : Nat) (h : 0 ≤ n ∧ n ≤ 40 ∧ m ≤ 40) (w : World) : Calls Tryd.prog 33 #[.int .i64 n, .int .i64 m] w fun e w' => ∃ v, e = .returned v ∧ PitV w' v (fromL n m) ∧ Below w.heap.size w w' := by
  obtain ⟨i0, hi0, hz0, hz1, hz2⟩ := info_parts info_pitch
  have NA := Lib.hid (fun k hk W => natural_any k hk W)
  obtain ⟨h1, h2, h3⟩ := h
  go_enter Tryd.func33, Tryd.ntmps33
  go_wp2_with fail
  go_loopw [5, 6] (fun v i wr => ∃ k : Nat, k ≤ m ∧ i = .int .i64 k ∧ (∃ q c, v = .slice q k c) ∧ Hid (OwnL w wr 23 3 v k (flatP (fromL n k)))) (fun _ i _ => m - (intOf i).toNat)
  case atStart => exact ⟨0, by omega, rfl, ⟨none, 0, rfl⟩, Lib.hid (OwnL.start _ _ _)⟩
  case round =>
    obtain ⟨k, hk, rfl, ⟨q, c, rfl⟩, ho⟩ := hrel
    by_cases hlt : k < m
    · have hlt' : (k : Int) < m := by omega
      have C := Lib.hid (fun W => NA.out (n + k) ⟨by omega, by omega⟩ W)
      have x1 : IntKind.i64.wrap (n + k) = n + k := IntWalk.i64_in _ (by omega)
      have hE := Lib.hid (show flatP (fromL n (k + 1)) = flatP (fromL n k) ++ flatP [natP (n + k)] from flatP_app _ _)
      have hl := from_len n k
      generalize natP (n + k) = p at *
      go_wp2_with fail
      refine (C.out _).mono ?_
      rintro e w1 ⟨rfl, hb⟩
      have HO := Lib.hid (ho.out.later (w_alloc hb (.cells #[.int .i64 p.1, .int .i64 p.2.1, .int .i64 p.2.2] 23)))
      have HB := Lib.hid hb
      clear hb C
      go_wp2_with (at_builtin; refine wpList_append_own_at _ rfl _ _ 39 rfl w.heap.size 23 i0 (.agg #[.int .i64 0, .int .i64 0, .int .i64 0]) 3 24 Tryd.underlying39 hi0 hz0 hz1 hz2 rfl (by decide) _ k (flatP (fromL n k)) rfl HO.out.row ⟨w1.heap.size, 0, none⟩ 1 1 (flatP [p]) rfl rfl (lit_new _ _ _) (flatP_one _) (by unfold maxLen; omega) (by omega) HO.out.bel.size ?_)
      intro v' w3 hown hgrow _ _
      have HN := Lib.hid (show OwnL w w3 23 3 v' (k + 1) (flatP (fromL n (k + 1))) by
        rw [hE.out]
        exact ho.out.app (w_alloc HB.out _) hown hgrow)
      obtain ⟨q2, c2, hv⟩ := HN.out.val
      subst hv
      clear hown hgrow HO HB
      go_wp2_with fail
      go_roundw
      case rel => exact ⟨k + 1, by omega, by go_num, ⟨q2, c2, rfl⟩, HN⟩
      case measure => simp [intOf]; omega
    · obtain rfl : k = m := by omega
      have hfin := Lib.hid (show PitV wr (.slice q k c) (fromL n k) ∧ Below w.heap.size w wr from ⟨PitV.of_own (by rw [from_len]; exact ho.out.row), ho.out.bel⟩)
      go_wp2_with fail
      go_ret
      exact ⟨_, rfl, hfin.out⟩

/-- The way made of a number. -/
def wayZ (z : Int) : Sy := (1 + z % 42 % 7, 1 + z % 42 / 7)
def madeL (zs : List Int) : List Sy := (zs.take 30).map wayZ
theorem wayZ_ok (z : Int) : okS (wayZ z) := by unfold okS wayZ; simp only; omega
theorem madeL_ok (zs : List Int) : ∀ s ∈ madeL zs, okS s := by
  intro s hs
  unfold madeL at hs
  rw [List.mem_map] at hs
  obtain ⟨z, _, rfl⟩ := hs
  exact wayZ_ok z
theorem madeL_len (zs : List Int) : (madeL zs).length ≤ 30 := by unfold madeL; rw [List.length_map, List.length_take]; omega

set_option maxRecDepth 100000 in
set_option maxHeartbeats 4000000 in
theorem made4_any (p : Option Addr) (cap : Nat) (zs : List Int) (w : World) (h : SlP w 1 p zs.length cap (ints zs)) (hz : ∀ z ∈ zs, -9223372036854775808 ≤ z ∧ z ≤ 9223372036854775807) :
    Calls Tryd.prog 35 #[.slice p zs.length cap] w fun e w' => ∃ v, e = .returned v ∧ SylV w' v (madeL zs) ∧ Below w.heap.size w w' := by
  obtain ⟨i0, hi0, hz0, hz1, hz2⟩ := info_parts info_syl
  have HS := Lib.hid h
  have HZ := Lib.hid hz
  have f1 := h.fit
  have f2 := h.max
  clear h hz
  have SY := Lib.hid (fun a b W => syl_any a b W)
  have MO := Lib.hid (fun z h1 h2 W => mod_any z 42 W h1 h2 (by decide) (by decide))
  go_enter Tryd.func35, Tryd.ntmps35
  go_wp2_with fail
  go_loopw [3, 4] (fun v i wr => ∃ k : Nat, k ≤ zs.length ∧ k ≤ 30 ∧ i = .int .i64 k ∧ (∃ q c, v = .slice q k c) ∧ Hid (OwnL w wr 25 2 v k (flatS ((zs.take k).map wayZ)))) (fun _ i _ => zs.length - (intOf i).toNat)
  case atStart => exact ⟨0, by omega, by omega, rfl, ⟨none, 0, rfl⟩, Lib.hid (OwnL.start _ _ _)⟩
  case round =>
    obtain ⟨k, hk, hk30, rfl, ⟨q, c, rfl⟩, ho⟩ := hrel
    by_cases hgo : k < zs.length ∧ k < 30
    · obtain ⟨hlt, h30⟩ := hgo
      have hlt' : (k : Int) < zs.length := by omega
      have h30' : (k : Int) < 30 := by omega
      obtain ⟨z, hzk⟩ : ∃ z, zs[k]? = some z := ⟨zs[k], List.getElem?_eq_getElem hlt⟩
      have bd := HZ.out z (List.mem_of_getElem? hzk)
      have C := Lib.hid (fun W => MO.out z bd.1 bd.2 W)
      obtain ⟨b, off, rfl, _, hc⟩ := (HS.out.later ho.out.bel).at_ (by omega)
      have c0 := hc k (.int .i64 z) (by rw [List.getElem?_map, hzk]; rfl)
      have hE := Lib.hid (show flatS ((zs.take (k + 1)).map wayZ) = flatS ((zs.take k).map wayZ) ++ flatS [wayZ z] by
        rw [List.take_add_one, hzk, List.map_append, flatS_app]; rfl)
      have r0 : 0 ≤ z % 42 := by omega
      have r1 : z % 42 < 42 := by omega
      have hw : wayZ z = (1 + z % 42 % 7, 1 + z % 42 / 7) := rfl
      rw [hw] at hE
      clear hw hc hzk bd
      generalize z % 42 = u at *
      have D := Lib.hid (fun W => SY.out (1 + u % 7) (1 + u / 7) W)
      have t1 : u.tmod 7 = u % 7 := Int.tmod_eq_emod_of_nonneg r0
      have t2 : u.tdiv 7 = u / 7 := Int.tdiv_eq_ediv_of_nonneg r0
      have x1 : IntKind.i64.wrap (u / 7) = u / 7 := IntWalk.i64_in _ (by omega)
      have x2 : IntKind.i64.wrap (u % 7) = u % 7 := IntWalk.i64_in _ (by omega)
      have x3 : IntKind.i64.wrap (1 + u % 7) = 1 + u % 7 := IntWalk.i64_in _ (by omega)
      have x4 : IntKind.i64.wrap (1 + u / 7) = 1 + u / 7 := IntWalk.i64_in _ (by omega)
      go_wp2_with fail
      refine (C.out _).mono ?_
      rintro e w1 ⟨rfl, rfl⟩
      clear C
      go_wp2_with fail
      refine (D.out _).mono ?_
      rintro e w1 ⟨rfl, hb⟩
      have HO := Lib.hid (ho.out.later (w_alloc hb (.cells #[.int .i64 (1 + u % 7), .int .i64 (1 + u / 7)] 25)))
      have HB := Lib.hid hb
      clear hb D c0
      go_wp2_with (at_builtin; refine wpList_append_own_at _ rfl _ _ 29 rfl w.heap.size 25 i0 (.agg #[.int .i64 0, .int .i64 0]) 2 16 Tryd.underlying29 hi0 hz0 hz1 hz2 rfl (by decide) _ k (flatS ((zs.take k).map wayZ)) rfl HO.out.row ⟨w1.heap.size, 0, none⟩ 1 1 (flatS [(1 + u % 7, 1 + u / 7)]) rfl rfl (lit_new _ _ _) (flatS_one _) (by unfold maxLen; omega) (by omega) HO.out.bel.size ?_)
      intro v' w3 hown hgrow _ _
      have HN := Lib.hid (show OwnL w w3 25 2 v' (k + 1) (flatS ((zs.take (k + 1)).map wayZ)) by
        rw [hE.out]
        exact ho.out.app (w_alloc HB.out _) (by rw [List.map_take]; exact hown) hgrow)
      obtain ⟨q2, c2, hv⟩ := HN.out.val
      subst hv
      clear hown hgrow HO HB
      go_wp2_with fail
      go_roundw
      case rel => exact ⟨k + 1, by omega, by omega, by go_num, ⟨q2, c2, rfl⟩, HN⟩
      case measure => simp [intOf]; omega
    · have hk2 : (zs.take k).map wayZ = madeL zs := by
        unfold madeL
        congr 1
        by_cases a : k = 30
        · rw [a]
        · rw [List.take_of_length_le (by omega), List.take_of_length_le (by omega)]
      have hkl : k = (madeL zs).length := by rw [← hk2, List.length_map, List.length_take]; omega
      have hfin := Lib.hid (show SylV wr (.slice q k c) (madeL zs) ∧ Below w.heap.size w wr from ⟨SylV.of_own (by rw [← hkl, ← hk2]; exact ho.out.row), ho.out.bel⟩)
      have two : k = zs.length ∨ (k < zs.length ∧ k = 30) := by omega
      clear hgo hk2 hkl
      rcases two with hke | ⟨hke, h30⟩
      · have e1 : ¬ ((k : Int) < zs.length) := by omega
        clear hke
        go_wp2_with fail
        go_ret
        exact ⟨_, rfl, hfin.out⟩
      · have e1 : (k : Int) < zs.length := by omega
        have e2 : ¬ ((k : Int) < 30) := by omega
        clear hke h30
        go_wp2_with fail
        go_ret
        exact ⟨_, rfl, hfin.out⟩

set_option maxRecDepth 100000 in
set_option maxHeartbeats 4000000 in
theorem melody_any (p : Option Addr) (cap : Nat) (l : List Sy) (w : World) (h : SlP w 2 p l.length cap (flatS l)) (hok : ∀ s ∈ l, okS s) (hl : l.length ≤ 1000) (tab : TabG w) :
    Calls Tryd.prog 36 #[.slice p l.length cap] w fun e w' => ∃ v, e = .returned (.tuple #[v, .bool true]) ∧ PitV w' v (l.map madeS) ∧ Below w.heap.size w w' := by
  obtain ⟨i0, hi0, hz0, hz1, hz2⟩ := info_parts info_pitch
  have HS := Lib.hid h
  have HK := Lib.hid hok
  have f1 := h.fit
  have f2 := h.max
  clear h hok
  have PI := Lib.hid (fun s W (b : Below w.heap.size w W) => wpitch_any s W (tab.later b))
  clear tab
  go_enter Tryd.func36, Tryd.ntmps36
  go_wp2_with fail
  go_loopw [4, 5] (fun v i wr => ∃ k : Nat, k ≤ l.length ∧ i = .int .i64 k ∧ (∃ q c, v = .slice q k c) ∧ Hid (OwnL w wr 23 3 v k (flatP ((l.take k).map madeS)))) (fun _ i _ => l.length - (intOf i).toNat)
  case atStart => exact ⟨0, by omega, rfl, ⟨none, 0, rfl⟩, Lib.hid (OwnL.start _ _ _)⟩
  case round =>
    obtain ⟨k, hk, rfl, ⟨q, c, rfl⟩, ho⟩ := hrel
    by_cases hlt : k < l.length
    · have hlt' : (k : Int) < l.length := by omega
      obtain ⟨s, hs⟩ : ∃ s, l[k]? = some s := ⟨l[k], List.getElem?_eq_getElem hlt⟩
      have C := Lib.hid (fun W b => PI.out s W b)
      unfold PitPost pitV at C
      rw [if_pos (HK.out s (List.mem_of_getElem? hs))] at C
      obtain ⟨b, off, rfl, _, c0, c1⟩ := (HS.out.later ho.out.bel).way hs
      have hE := Lib.hid (show flatP ((l.take (k + 1)).map madeS) = flatP ((l.take k).map madeS) ++ flatP [madeS s] by
        rw [List.take_add_one, hs, List.map_append, flatP_app]; rfl)
      clear hs
      generalize madeS s = m at *
      go_wp2_with fail
      refine (C.out _ ho.out.bel).mono ?_
      rintro e w1 ⟨rfl, hb⟩
      have HB := Lib.hid (w_alloc hb (.cells #[.int .i64 m.1, .int .i64 m.2.1, .int .i64 m.2.2] 23))
      have HO := Lib.hid (ho.out.later (w_alloc HB.out (.cells #[.int .i64 m.1, .int .i64 m.2.1, .int .i64 m.2.2] 23)))
      obtain ⟨_, d0, d1, d2, _, _, _⟩ := Cell3.made w1 m 23
      clear hb C c0 c1
      go_wp2_with (at_builtin; refine wpList_append_own_at _ rfl _ _ 39 rfl w.heap.size 23 i0 (.agg #[.int .i64 0, .int .i64 0, .int .i64 0]) 3 24 Tryd.underlying39 hi0 hz0 hz1 hz2 rfl (by decide) _ k (flatP ((l.take k).map madeS)) rfl HO.out.row ⟨w1.heap.size + 1, 0, none⟩ 1 1 (flatP [m]) rfl rfl (by have := lit_new (w1.alloc (.cells #[.int .i64 m.1, .int .i64 m.2.1, .int .i64 m.2.2] 23)) #[.int .i64 m.1, .int .i64 m.2.1, .int .i64 m.2.2] 23; rw [World.size_alloc] at this; exact this) (flatP_one _) (by unfold maxLen; omega) (by omega) HO.out.bel.size ?_)
      intro v' w3 hown hgrow _ _
      have HN := Lib.hid (show OwnL w w3 23 3 v' (k + 1) (flatP ((l.take (k + 1)).map madeS)) by
        rw [hE.out]
        exact ho.out.app (w_alloc HB.out _) (by rw [List.map_take]; exact hown) hgrow)
      obtain ⟨q2, c2, hv⟩ := HN.out.val
      subst hv
      clear hown hgrow HO HB d0 d1 d2
      go_wp2_with fail
      go_roundw
      case rel => exact ⟨k + 1, by omega, by go_num, ⟨q2, c2, rfl⟩, HN⟩
      case measure => simp [intOf]; omega
    · obtain rfl : k = l.length := by omega
      have hfin := Lib.hid (show PitV wr (.slice q l.length c) (l.map madeS) ∧ Below w.heap.size w wr from ⟨PitV.of_own (by rw [List.length_map]; have := ho.out.row; rwa [List.take_length] at this), ho.out.bel⟩)
      go_wp2_with fail
      go_ret2
      exact ⟨_, rfl, hfin.out⟩

set_option maxRecDepth 100000 in
set_option maxHeartbeats 1000000 in
theorem sung_any (p : Pi3) (q : Option Addr) (cap : Nat) (l : List Sy) (w : World) (hp : okP p) (hw : waysL p = l) (h : SlP w 2 q l.length cap (flatS l)) (tab : TabG w) :
    Calls Tryd.prog 30 #[pv p, .slice q l.length cap] w fun e w' => e = .returned (.bool true) ∧ Below w.heap.size w w' := by
  have WA := Lib.hid (fun W (b : Below w.heap.size w W) => wways_any p W (tab.later b))
  have HS := Lib.hid h
  unfold WaysPost at WA
  rw [if_pos hp, hw, chkV_ok hp] at WA
  clear h tab hp hw
  go_enter Tryd.func30, Tryd.ntmps30
  go_wp2_with fail
  refine (WA.out _ (w_alloc (w_refl w) _)).mono ?_
  rintro e w1 ⟨v, rfl, ⟨q1, c1, rfl, hs1⟩, hb⟩
  have HB := Lib.hid (w_below (w_alloc (w_refl w) _) hb)
  have S1 := Lib.hid (sames_any q1 q c1 cap l w1 hs1 (HS.out.later HB.out))
  clear hb hs1 WA
  go_wp2_with fail
  refine S1.out.mono ?_
  rintro e w2 ⟨rfl, hb⟩
  have HB2 := Lib.hid (w_below HB.out hb)
  clear hb S1
  go_wp2_with fail
  go_ret
  exact ⟨rfl, HB2.out⟩

end Go.Proofs.YtaldbjhalpgkeaaDoor
