/- What the statements of stage 5 do by themselves: equal lists, the kit's Mod and Mens, the chapter's examples. -/
import Derived.Test.YtflgmeajkflobaaDoorMMap
import Derived.Test.YtflgmeajkflobaaDoorMIterB
import Derived.Test.YtflgmeajkflobaaDoorMFits
namespace Go.Proofs.YtflgmeajkflobaaDoor
open Go.RowKit

theorem samei_any (p q : Option Addr) (cp cq : Nat) (l : List Int) (w : World) (hp : SlP w 1 p l.length cp (ints l)) (hq : SlP w 1 q l.length cq (ints l)) :
    Calls Tryd.prog 18 #[.slice p l.length cp, .slice q l.length cq] w fun e w' => e = .returned (.bool true) ∧ Below w.heap.size w w' := by
  have f1 := hp.fit
  have f2 := hq.fit
  have m1 := hp.max
  have m2 := hq.max
  have HP := Lib.hid hp
  have HQ := Lib.hid hq
  clear hp hq
  go_enter Tryd.func18, Tryd.ntmps18
  go_wp2_with fail
  go_loopw [5] (fun i wr => ∃ k : Nat, k ≤ l.length ∧ i = .int .i64 k ∧ Hid (Below w.heap.size w wr)) (fun i _ => l.length - (intOf i).toNat)
  case atStart => exact ⟨0, by omega, rfl, Lib.hid (w_refl w)⟩
  case round =>
    obtain ⟨k, hk, rfl, hb⟩ := hrel
    by_cases hlt : k < l.length
    · have hlt' : (k : Int) < l.length := by omega
      obtain ⟨s, hs⟩ : ∃ s, (ints l)[k]? = some (.int .i64 s) := ⟨l[k], by rw [List.getElem?_map, List.getElem?_eq_getElem hlt]; rfl⟩
      obtain ⟨b, off, rfl, _, hc⟩ := (HP.out.later hb.out).at_ (by omega)
      obtain ⟨b', off', rfl, _, hd⟩ := (HQ.out.later hb.out).at_ (by omega)
      have c0 := hc _ _ hs
      have d0 := hd _ _ hs
      have hb9 := Lib.hid hb.out.drew
      clear hs hc hd
      go_wp2_with fail
      go_region
      all_goals
        go_wp2_with fail
        go_roundw
        case rel => exact ⟨k + 1, by omega, by go_num, hb9⟩
        case measure => simp [intOf]; omega
    · obtain rfl : k = l.length := by omega
      go_wp2_with fail
      go_ret
      exact ⟨rfl, hb.out⟩

set_option maxHeartbeats 400000 in
theorem mod_pos (a m : Int) (w : World) (ha : 0 ≤ a) (ha1 : a ≤ 9223372036854775807) (hm : 1 ≤ m) (hm1 : m ≤ 1099511627776) :
    Calls Tryd.prog 37 #[.int .i64 a, .int .i64 m] w fun e w' => e = .returned (.int .i64 (a % m)) ∧ w = w' := by
  have r0 := Int.emod_nonneg a (show m ≠ 0 by omega)
  have r1 := Int.emod_lt_of_pos a (show 0 < m by omega)
  go_enter Tryd.func37, Tryd.ntmps37
  go_wp2
  go_ret
  exact ⟨rfl, rfl⟩

set_option maxHeartbeats 400000 in
theorem mod_neg (a m : Int) (w : World) (ha : a < 0) (ha1 : -9223372036854775808 ≤ a) (hm : 1 ≤ m) (hm1 : m ≤ 1099511627776) :
    Calls Tryd.prog 37 #[.int .i64 a, .int .i64 m] w fun e w' => e = .returned (.int .i64 (a % m)) ∧ w = w' := by
  have r0 := Int.emod_nonneg a (show m ≠ 0 by omega)
  have r1 := Int.emod_lt_of_pos a (show 0 < m by omega)
  have t0 : a.tmod m ≤ 0 := by
    have := Int.tmod_nonneg (a := -a) m (by omega)
    rw [Int.neg_tmod] at this; omega
  have t1 : -m < a.tmod m := by
    have := Int.tmod_lt_of_pos (-a) (show 0 < m by omega)
    rw [Int.neg_tmod] at this; omega
  by_cases hd : m ∣ a
  · have e := Lib.hid (Int.tmod_eq_emod (a := a) (b := m))
    have e2 := Lib.hid (show a.tmod m = a % m by rw [e.out, if_pos (.inr hd)]; simp)
    have e3 : 0 ≤ a.tmod m := by rw [e2.out]; exact r0
    clear e hd
    go_enter Tryd.func37, Tryd.ntmps37
    go_wp2
    go_ret
    rw [e2.out]; exact ⟨rfl, rfl⟩
  · have e := Lib.hid (Int.tmod_eq_emod (a := a) (b := m))
    have e2 := Lib.hid (show a.tmod m + m = a % m by rw [e.out, if_neg (by omega)]; omega)
    have e3 : a.tmod m < 0 := by have := e2.out; omega
    clear e hd
    go_enter Tryd.func37, Tryd.ntmps37
    go_wp2
    go_ret
    rw [e2.out]; exact ⟨rfl, rfl⟩

theorem mod_any (a m : Int) (w : World) (ha : -9223372036854775808 ≤ a) (ha1 : a ≤ 9223372036854775807) (hm : 1 ≤ m) (hm1 : m ≤ 1099511627776) :
    Calls Tryd.prog 37 #[.int .i64 a, .int .i64 m] w fun e w' => e = .returned (.int .i64 (a % m)) ∧ w = w' := by
  by_cases h : 0 ≤ a
  · exact mod_pos a m w h ha1 hm hm1
  · exact mod_neg a m w (by omega) ha hm hm1

theorem circle_any (w : World) : Calls Tryd.prog 32 #[] w fun e w' => e = .returned (mv (2, 2, 3, 2)) ∧ Below w.heap.size w w' := by
  go_enter Tryd.func32, Tryd.ntmps32
  go_wp2_with fail
  refine bodyPost_ret (v := mv (2, 2, 3, 2)) (by simp [results, Tryd.results32, go_sem]) rfl ⟨rfl, ?_⟩
  exact w_alloc (w_refl w) _
theorem point_any (w : World) : Calls Tryd.prog 33 #[] w fun e w' => e = .returned (mv (2, 2, 2, 3)) ∧ Below w.heap.size w w' := by
  go_enter Tryd.func33, Tryd.ntmps33
  go_wp2_with fail
  refine bodyPost_ret (v := mv (2, 2, 2, 3)) (by simp [results, Tryd.results33, go_sem]) rfl ⟨rfl, ?_⟩
  exact w_alloc (w_refl w) _

/-- A list of numbers that is written out. -/
theorem SlP.litI (w : World) (l : List Int) (h : l.length ≤ 1000) : SlP (w.alloc (.cells (ints l).toArray 3)) 1 (some ⟨w.heap.size, 0, none⟩) l.length l.length (ints l) := by
  refine ⟨ints_len l, Nat.le_refl _, by omega, fun e => (by cases e), ints_one l, fun _ => ⟨w.heap.size, 0, rfl, by simp, fun j u hj => ?_⟩⟩
  have := lit_new w (ints l).toArray 3 j u (by simpa using hj)
  rwa [add_none] at this
theorem same_at (l : List Int) (hl : l.length ≤ 1000) (q : Option Addr) (c : Nat) (W : World) (h : SlP W 1 q l.length c (ints l)) :
    Calls Tryd.prog 18 #[.slice q l.length c, .slice (some ⟨W.heap.size, 0, none⟩) l.length l.length] (W.alloc (.cells (ints l).toArray 3)) fun e w' => e = .returned (.bool true) ∧ Below W.heap.size W w' := by
  refine (samei_any q _ c _ l _ (h.later (w_alloc (w_refl _) _)) (SlP.litI W l hl)).mono ?_
  rintro e w' ⟨rfl, hb⟩
  exact ⟨rfl, w_below (w_alloc (w_refl _) _) hb⟩
theorem t_at (n d n' d' : Int) (w : World) (h : n / gcdI n d = n' ∧ d / gcdI n d = d') (hn : 0 ≤ n ∧ n ≤ 1099511627776) (hd : 1 ≤ d ∧ d ≤ 1099511627776) :
    Calls Tryd.prog 34 #[.int .i64 n, .int .i64 d] w fun e w' => e = .returned (tv n' d') ∧ Below w.heap.size w w' := by
  have := t_any n d w hn.1 hn.2 hd.1 hd.2
  rw [h.1, h.2] at this
  exact this
theorem full_at {q : Q4} {v : Int} {r : Int × Int × Int} (h : fulV q v = r) (w : World) : Calls Tryd.prog 12 #[mv q, .int .i64 v] w fun e w' => e = .returned (tev r) ∧ Below w.heap.size w w' := by
  rw [← h]; exact full_any q v w
theorem lvl_at {q : Q4} {zs : List Int} (h1 : chkM q = 0) (h2 : lvlL q = zs) (W : World) : Calls Tryd.prog 16 #[mv q] W fun e w' => ∃ p c, e = .returned (.tuple #[.slice p zs.length c, .int .i64 0]) ∧ SlP w' 1 p zs.length c (ints zs) ∧ Below W.heap.size W w' := by
  subst h2
  refine (levels_any q W).mono ?_
  rintro e w' ⟨v, rfl, ⟨p, c, rfl, hs⟩, hb⟩
  exact ⟨p, c, by rw [h1], hs, hb⟩
theorem fit_at {q : Q4} {n d : Int} {zs : List Int} (h1 : fitE q n d = 0) (h2 : fitL q n d = zs) (W : World) : Calls Tryd.prog 30 #[mv q, tv n d] W fun e w' => ∃ p c, e = .returned (.tuple #[.slice p zs.length c, .int .i64 0]) ∧ SlP w' 1 p zs.length c (ints zs) ∧ Below W.heap.size W w' := by
  subst h2
  refine (fits_any q n d W).mono ?_
  rintro e w' ⟨v, rfl, ⟨p, c, rfl, hs⟩, hb⟩
  exact ⟨p, c, by rw [h1], hs, hb⟩
theorem text_at {q : Q4} {s : ByteArray} (h1 : chkM q = 0) (h2 : texS q = s) (W : World) : Calls Tryd.prog 24 #[mv q] W fun e w' => e = .returned (.tuple #[.string s, .int .i64 0]) ∧ Below W.heap.size W w' := by
  have := text_any q W
  unfold TexPost at this
  rw [h1, h2] at this; exact this
theorem kn_f3 : fulV (2, 2, 3, 2) 3 = (6, 1, 0) := by decide +kernel
theorem kn_l4 : chkM (2, 2, 2, 3) = 0 ∧ lvlL (2, 2, 2, 3) = [4] := by decide +kernel
theorem kn_tp : texS (2, 2, 2, 3) = ⟨#[67, 46]⟩ := by decide +kernel
theorem kn_v3 : fitE (2, 2, 3, 2) 6 1 = 0 ∧ fitL (2, 2, 3, 2) 6 1 = [3] := by decide +kernel
theorem kn_61 : (6 : Int) / gcdI 6 1 = 6 ∧ (1 : Int) / gcdI 6 1 = 1 := by decide +kernel

set_option maxRecDepth 100000 in
set_option maxHeartbeats 4000000 in
theorem awake_any (w : World) : Calls Tryd.prog 23 #[] w fun e w' => e = .returned (.bool true) ∧ Below w.heap.size w w' := by
  have CI : Hid (∀ W : World, Calls Tryd.prog 32 #[] W fun e w' => e = .returned (.agg #[.int .i64 2, .int .i64 2, .int .i64 3, .int .i64 2]) ∧ Below W.heap.size W w') := Lib.hid circle_any
  have PT : Hid (∀ W : World, Calls Tryd.prog 33 #[] W fun e w' => e = .returned (.agg #[.int .i64 2, .int .i64 2, .int .i64 2, .int .i64 3]) ∧ Below W.heap.size W w') := Lib.hid point_any
  have FU : Hid (∀ W : World, Calls Tryd.prog 12 #[.agg #[.int .i64 2, .int .i64 2, .int .i64 3, .int .i64 2], .int .i64 3] W fun e w' => e = .returned (.tuple #[.agg #[.int .i64 6, .int .i64 1], .int .i64 0]) ∧ Below W.heap.size W w') := Lib.hid (fun W => full_at (q := (2, 2, 3, 2)) (v := 3) (r := (6, 1, 0)) kn_f3 W)
  have LV : Hid (∀ W : World, Calls Tryd.prog 16 #[.agg #[.int .i64 2, .int .i64 2, .int .i64 2, .int .i64 3]] W fun e w' => ∃ p c, e = .returned (.tuple #[.slice p 1 c, .int .i64 0]) ∧ SlP w' 1 p 1 c (ints [4]) ∧ Below W.heap.size W w') := Lib.hid (fun W => lvl_at (q := (2, 2, 2, 3)) (zs := [4]) kn_l4.1 kn_l4.2 W)
  have TX : Hid (∀ W : World, Calls Tryd.prog 24 #[.agg #[.int .i64 2, .int .i64 2, .int .i64 2, .int .i64 3]] W fun e w' => e = .returned (.tuple #[.string ⟨#[67, 46]⟩, .int .i64 0]) ∧ Below W.heap.size W w') := Lib.hid (fun W => text_at (q := (2, 2, 2, 3)) (s := ⟨#[67, 46]⟩) kn_l4.1 kn_tp W)
  have FI : Hid (∀ W : World, Calls Tryd.prog 30 #[.agg #[.int .i64 2, .int .i64 2, .int .i64 3, .int .i64 2], .agg #[.int .i64 6, .int .i64 1]] W fun e w' => ∃ p c, e = .returned (.tuple #[.slice p 1 c, .int .i64 0]) ∧ SlP w' 1 p 1 c (ints [3]) ∧ Below W.heap.size W w') := Lib.hid (fun W => fit_at (q := (2, 2, 3, 2)) (n := 6) (d := 1) (zs := [3]) kn_v3.1 kn_v3.2 W)
  have TT : Hid (∀ W : World, Calls Tryd.prog 34 #[.int .i64 6, .int .i64 1] W fun e w' => e = .returned (.agg #[.int .i64 6, .int .i64 1]) ∧ Below W.heap.size W w') := Lib.hid (fun W => t_at 6 1 6 1 W kn_61 (by decide) (by decide))
  have S4 : Hid (∀ q c W, SlP W 1 q 1 c (ints [4]) → Calls Tryd.prog 18 #[.slice q 1 c, .slice (some ⟨W.heap.size, 0, none⟩) 1 1] (W.alloc (.cells #[.int .i64 4] 3)) fun e w' => e = .returned (.bool true) ∧ Below W.heap.size W w') := Lib.hid (fun q c W h => same_at [4] (by decide) q c W h)
  have S3 : Hid (∀ q c W, SlP W 1 q 1 c (ints [3]) → Calls Tryd.prog 18 #[.slice q 1 c, .slice (some ⟨W.heap.size, 0, none⟩) 1 1] (W.alloc (.cells #[.int .i64 3] 3)) fun e w' => e = .returned (.bool true) ∧ Below W.heap.size W w') := Lib.hid (fun q c W h => same_at [3] (by decide) q c W h)
  go_enter Tryd.func23, Tryd.ntmps23
  go_wp2_with fail
  refine (CI.out _).mono ?_
  rintro e w1 ⟨rfl, hb⟩
  have hB := Lib.hid hb
  clear hb
  go_wp2_with fail
  refine (FU.out _).mono ?_
  rintro e w2 ⟨rfl, hb⟩
  replace hB := Lib.hid (w_alloc (w_below hB.out hb) (.cells #[.int .i64 6, .int .i64 1] 28))
  have T0 := Lib.hid (Own2.made w2 6 1 28)
  clear hb FU
  go_wp2_with fail
  refine (PT.out _).mono ?_
  rintro e w3 ⟨rfl, hb⟩
  replace hB := Lib.hid (w_below hB.out hb)
  replace T0 := Lib.hid (T0.out.later hb)
  clear hb
  go_wp2_with fail
  refine (LV.out _).mono ?_
  rintro e w4 ⟨q4, c4, rfl, hs, hb⟩
  replace hB := Lib.hid (w_below hB.out hb)
  replace T0 := Lib.hid (T0.out.later hb)
  have L4 := Lib.hid hs
  clear hb LV hs
  go_wp2_with fail
  refine (PT.out _).mono ?_
  rintro e w5 ⟨rfl, hb⟩
  replace hB := Lib.hid (w_below hB.out hb)
  replace T0 := Lib.hid (T0.out.later hb)
  replace L4 := Lib.hid (L4.out.later hb)
  clear hb PT
  go_wp2_with fail
  refine (TX.out _).mono ?_
  rintro e w6 ⟨rfl, hb⟩
  replace hB := Lib.hid (w_below hB.out hb)
  replace T0 := Lib.hid (T0.out.later hb)
  replace L4 := Lib.hid (L4.out.later hb)
  clear hb TX
  go_wp2_with fail
  refine (CI.out _).mono ?_
  rintro e w7 ⟨rfl, hb⟩
  replace hB := Lib.hid (w_below hB.out hb)
  replace T0 := Lib.hid (T0.out.later hb)
  replace L4 := Lib.hid (L4.out.later hb)
  clear hb CI
  go_wp2_with fail
  refine (TT.out _).mono ?_
  rintro e w8 ⟨rfl, hb⟩
  replace hB := Lib.hid (w_below hB.out hb)
  replace T0 := Lib.hid (T0.out.later hb)
  replace L4 := Lib.hid (L4.out.later hb)
  clear hb
  go_wp2_with fail
  refine (FI.out _).mono ?_
  rintro e w9 ⟨q3, c3, rfl, hs, hb⟩
  replace hB := Lib.hid (w_below hB.out hb)
  replace T0 := Lib.hid (T0.out.later hb)
  replace L4 := Lib.hid (L4.out.later hb)
  have L3 := Lib.hid hs
  clear hb FI hs
  go_wp2_with fail
  have FX := Lib.hid (show _ ∧ _ ∧ _ ∧ _ from ⟨hB.out.drew, T0.out.later (w_refl w9).drew, L4.out.later (w_refl w9).drew, L3.out.later (w_refl w9).drew⟩)
  clear hB T0 L4 L3
  go_region_held3 (fun W => W.cell? ⟨w2.heap.size, 0, none⟩ = some (.int .i64 6) ∧ W.cell? ⟨w2.heap.size, 1, none⟩ = some (.int .i64 1))
    (first
      | exact ⟨FX.out.2.1.c0, FX.out.2.1.c1⟩
      | exact ⟨(FX.out.2.1.later (w_alloc (w_refl _) _)).c0, (FX.out.2.1.later (w_alloc (w_refl _) _)).c1⟩
      | fail)
    (first
      | (go_at_call 34; refine (TT.out _).mono ?_; rintro e wn ⟨rfl, hb⟩; replace FX := Lib.hid (show _ ∧ _ ∧ _ ∧ _ from ⟨w_below FX.out.1 hb, FX.out.2.1.later hb, FX.out.2.2.1.later hb, FX.out.2.2.2.later hb⟩); clear hb TT)
      | (go_at_call 18; refine (S4.out _ _ _ FX.out.2.2.1).mono ?_; rintro e wn ⟨rfl, hb⟩; replace FX := Lib.hid (show _ ∧ _ ∧ _ ∧ _ from ⟨w_below FX.out.1 hb, FX.out.2.1.later hb, FX.out.2.2.1.later hb, FX.out.2.2.2.later hb⟩); clear hb S4)
      | (go_at_call 18; refine (S3.out _ _ _ FX.out.2.2.2).mono ?_; rintro e wn ⟨rfl, hb⟩; replace FX := Lib.hid (show _ ∧ _ ∧ _ ∧ _ from ⟨w_below FX.out.1 hb, FX.out.2.1.later hb, FX.out.2.2.1.later hb, FX.out.2.2.2.later hb⟩); clear hb S3)
      | fail)
  all_goals
    go_wp2_with fail
    go_ret
    exact ⟨rfl, FX.out.1⟩

end Go.Proofs.YtflgmeajkflobaaDoor
