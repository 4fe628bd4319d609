/- The meanings of a dot after a sign: the program's and the reference's. -/
import Derived.Test.YthokapebcplmkaaDSort
import Derived.Test.YthokapebcplmkaaDSpec
import Derived.Test.YthokapebcplmkaaMIterB
namespace Go.Proofs.Ythokapebcplmkaa
open Go.RowKit

set_option maxHeartbeats 1000000 in
theorem pown_any (q : Q4) (v : Int) (w : World) : Calls Try.prog 63 #[mv q, .int .i64 v] w fun e w' => e = .returned (.int .i64 (ownM q v)) ∧ Below w.heap.size w w' := by
  have K := Lib.hid (Cell4.made w q 23)
  have B0 := Lib.hid (w_alloc (w_refl w) (mO q))
  have C := Lib.hid (fun W => parts_any q v W)
  unfold ownM
  by_cases h : parV q v = 3
  · have h1 : (parV q v == 3) = true := by simp [h]
    rw [if_pos h]
    clear h
    generalize parV q v = pr at *
    generalize valE q v = er at *
    obtain ⟨a, b, c, d⟩ := q
    obtain ⟨_, k0, k1, k2, k3, _⟩ := K.out
    simp only at k0 k1 k2 k3
    go_enter Try.func63, Try.ntmps63
    go_wp2_with fail
    refine (C.out _).mono ?_
    rintro e w1 ⟨rfl, hb⟩
    go_wp2_with fail
    go_ret
    exact ⟨rfl, w_below B0.out hb⟩
  · have h1 : (parV q v == 3) = false := by simpa using h
    rw [if_neg h]
    clear h
    generalize parV q v = pr at *
    generalize valE q v = er at *
    obtain ⟨a, b, c, d⟩ := q
    obtain ⟨_, k0, k1, k2, k3, _⟩ := K.out
    simp only at k0 k1 k2 k3
    go_enter Try.func63, Try.ntmps63
    go_wp2_with fail
    refine (C.out _).mono ?_
    rintro e w1 ⟨rfl, hb⟩
    go_wp2_with fail
    go_ret
    exact ⟨rfl, w_below B0.out hb⟩

theorem mns_col {q : Q4} {s : Sg} (h : s.kind = 1) (k : s.col = true) : mns q s = [0] := by unfold mns; rw [if_pos h, if_pos k]
theorem mns_n0 {q : Q4} {s : Sg} (h : s.kind = 1) (k : s.col = false) (ha : aboV q s.val = 0) : mns q s = srt [ownM q s.val] := by
  unfold mns; rw [if_pos h, if_neg (by rw [k]; decide), if_pos ha]; rfl
theorem mns_n1 {q : Q4} {s : Sg} (h : s.kind = 1) (k : s.col = false) (ha : ¬ aboV q s.val = 0) : mns q s = srt [ownM q s.val, aboV q s.val] := by
  have hb := abo_bd q s.val ha
  have ho := own_bd q s.val
  have e : srt [ownM q s.val, aboV q s.val] = if aboV q s.val < ownM q s.val then [aboV q s.val, ownM q s.val] else [ownM q s.val, aboV q s.val] := rfl
  rw [e]
  unfold mns
  rw [if_pos h, if_neg (by rw [k]; decide), if_neg ha]
  split
  · rw [if_neg (by omega)]; rename_i e; rw [e]
  · rw [if_pos (by omega)]
theorem mns_r0 {q : Q4} {s : Sg} (h : ¬ s.kind = 1) (ha : aboV q s.val = 0) : mns q s = srt [] := by unfold mns; rw [if_neg h, if_pos ha]; rfl
theorem mns_r1 {q : Q4} {s : Sg} (h : ¬ s.kind = 1) (ha : ¬ aboV q s.val = 0) : mns q s = srt [aboV q s.val] := by unfold mns; rw [if_neg h, if_neg ha]; rfl

set_option maxRecDepth 100000 in
set_option maxHeartbeats 4000000 in
theorem pmean_any (q : Q4) (s : Sg) (w : World) : Calls Try.prog 45 #[mv q, sgv s] w fun e w' => ∃ v, e = .returned v ∧ OwnL w w' 3 1 v (mns q s).length (ints (mns q s)) := by
  obtain ⟨i0, hi0, hz0, hz1, hz2⟩ := info_parts info_int
  have KM := Lib.hid ((Cell4.made w q 23).later (w_alloc (w_refl _) (sgO s)))
  have SG := Lib.hid (sg_new (w.alloc (mO q)) s).sg
  have B0 := Lib.hid (w_alloc (w_alloc (w_refl w) (mO q)) (sgO s))
  rw [World.size_alloc] at SG
  have C1 := Lib.hid (fun W => pown_any q s.val W)
  have C2 := Lib.hid (fun W => above_any q s.val W)
  by_cases hk : s.kind = 1
  · have hk1 : (s.kind == 1) = true := by simp [hk]
    cases hc : s.col with
    | true =>
      have HE := Lib.hid (mns_col (q := q) hk hc)
      clear hk C1 C2
      obtain ⟨q1, q2, q3, q4⟩ := q
      go_enter Try.func45, Try.ntmps45
      go_upto_region 1 with (first | (refine wl_box s (by kernel_rfl) ?_) | fail)
      generalize World.alloc (World.alloc w (.cells #[.int .i64 q1, .int .i64 q2, .int .i64 q3, .int .i64 q4] 23)) (sgO s) = y at *
      obtain ⟨e0, e1, _, _, e4, _⟩ := SG.out
      rw [hc] at e4
      have HO := Lib.hid (show OwnL w (y.alloc (.cells #[.int .i64 0] 3)) 3 1 (.slice (some ⟨y.heap.size, 0, none⟩) 1 1) 1 (ints [0]) from ⟨w_alloc B0.out _, lit_own y [0] _ B0.out.size (by decide)⟩)
      go_wp2_with fail
      go_ret
      refine ⟨_, rfl, ?_⟩
      rw [HE.out]
      exact HO.out
    | false =>
      by_cases ha : aboV q s.val = 0
      · rw [mns_n0 (q := q) hk hc ha]
        have ha1 : (aboV q s.val != 0) = false := by simp [ha]
        clear hk ha
        generalize ownM q s.val = ow at *
        generalize aboV q s.val = ab at *
        generalize valE q s.val = er at *
        obtain ⟨q1, q2, q3, q4⟩ := q
        have hcc := hc
        go_enter Try.func45, Try.ntmps45
        go_upto_region 1 with (first | (refine wl_box s (by kernel_rfl) ?_) | fail)
        generalize World.alloc (World.alloc w (.cells #[.int .i64 q1, .int .i64 q2, .int .i64 q3, .int .i64 q4] 23)) (sgO s) = y at *
        obtain ⟨_, k0, k1, k2, k3, _⟩ := KM.out
        obtain ⟨e0, e1, _, _, e4, _⟩ := SG.out
        rw [hcc] at e4
        simp only at k0 k1 k2 k3
        go_wp2_with fail
        refine (C1.out _).mono ?_
        rintro e w1 ⟨rfl, hb⟩
        have B1 := Lib.hid (w_below B0.out hb)
        have KM1 := Lib.hid (KM.out.later hb)
        have SG1 := Lib.hid (SG.out.later hb)
        clear hb e0 e1 e4 k0 k1 k2 k3 KM SG B0 C1
        have L0 := Lib.hid (show OwnL w (w1.alloc (.cells #[.int .i64 ow] 3)) 3 1 (.slice none 0 0) 0 (ints []) from ⟨w_alloc B1.out _, World.ownsRow_nil _ _ _ _⟩)
        go_wp2_with (at_builtin; refine wpList_append_own_at _ rfl _ _ 32 rfl w.heap.size 3 i0 (.int .i64 0) 1 8 Try.underlying32 hi0 hz0 hz1 hz2 rfl (by decide) _ 0 (ints []) rfl L0.out.row ⟨w1.heap.size, 0, none⟩ 1 1 (ints [ow]) rfl rfl (lit_new _ _ _) (ints_one _) (by unfold maxLen; omega) (by omega) L0.out.bel.size ?_)
        intro v1 w2 hown hgrow _ _
        have A1 := Lib.hid (show OwnL w w2 3 1 v1 1 (ints [ow]) from L0.out.app (w_refl _) hown hgrow)
        have hgb := Lib.hid (show Below w1.heap.size w1 w2 from (w_alloc (w_refl w1) _).grown hgrow (by simp) (fun j e => by cases e))
        have KM2 := Lib.hid (KM1.out.later hgb.out)
        have SG2 := Lib.hid (SG1.out.later hgb.out)
        obtain ⟨p1, c1, rfl⟩ := A1.out.val
        clear hown hgrow hgb KM1 SG1 L0 B1
        obtain ⟨_, k0, k1, k2, k3, _⟩ := KM2.out
        obtain ⟨e0, e1, _, _, e4, _⟩ := SG2.out
        simp only at k0 k1 k2 k3
        go_wp2_with fail
        refine (C2.out _).mono ?_
        rintro e w3 ⟨rfl, hb⟩
        have A2 := Lib.hid (A1.out.later hb)
        clear hb e0 e1 e4 k0 k1 k2 k3 KM2 SG2 A1 C2
        go_wp2_with fail
        refine (sort_any [ow] (by simp) p1 c1 w _ A2.out).mono ?_
        rintro e w5 ⟨rfl, ho⟩
        have HO := Lib.hid ho
        clear ho A2
        go_wp2_with fail
        go_ret
        refine ⟨_, rfl, ?_⟩
        rw [srt_len]
        exact HO.out
      · have ha1 : (aboV q s.val != 0) = true := by simp [ha]
        rw [mns_n1 (q := q) hk hc ha]
        clear hk ha
        generalize ownM q s.val = ow at *
        generalize aboV q s.val = ab at *
        generalize valE q s.val = er at *
        obtain ⟨q1, q2, q3, q4⟩ := q
        have hcc := hc
        go_enter Try.func45, Try.ntmps45
        go_upto_region 1 with (first | (refine wl_box s (by kernel_rfl) ?_) | fail)
        generalize World.alloc (World.alloc w (.cells #[.int .i64 q1, .int .i64 q2, .int .i64 q3, .int .i64 q4] 23)) (sgO s) = y at *
        obtain ⟨_, k0, k1, k2, k3, _⟩ := KM.out
        obtain ⟨e0, e1, _, _, e4, _⟩ := SG.out
        rw [hcc] at e4
        simp only at k0 k1 k2 k3
        go_wp2_with fail
        refine (C1.out _).mono ?_
        rintro e w1 ⟨rfl, hb⟩
        have B1 := Lib.hid (w_below B0.out hb)
        have KM1 := Lib.hid (KM.out.later hb)
        have SG1 := Lib.hid (SG.out.later hb)
        clear hb e0 e1 e4 k0 k1 k2 k3 KM SG B0 C1
        have L0 := Lib.hid (show OwnL w (w1.alloc (.cells #[.int .i64 ow] 3)) 3 1 (.slice none 0 0) 0 (ints []) from ⟨w_alloc B1.out _, World.ownsRow_nil _ _ _ _⟩)
        go_wp2_with (at_builtin; refine wpList_append_own_at _ rfl _ _ 32 rfl w.heap.size 3 i0 (.int .i64 0) 1 8 Try.underlying32 hi0 hz0 hz1 hz2 rfl (by decide) _ 0 (ints []) rfl L0.out.row ⟨w1.heap.size, 0, none⟩ 1 1 (ints [ow]) rfl rfl (lit_new _ _ _) (ints_one _) (by unfold maxLen; omega) (by omega) L0.out.bel.size ?_)
        intro v1 w2 hown hgrow _ _
        have A1 := Lib.hid (show OwnL w w2 3 1 v1 1 (ints [ow]) from L0.out.app (w_refl _) hown hgrow)
        have hgb := Lib.hid (show Below w1.heap.size w1 w2 from (w_alloc (w_refl w1) _).grown hgrow (by simp) (fun j e => by cases e))
        have KM2 := Lib.hid (KM1.out.later hgb.out)
        have SG2 := Lib.hid (SG1.out.later hgb.out)
        obtain ⟨p1, c1, rfl⟩ := A1.out.val
        clear hown hgrow hgb KM1 SG1 L0 B1
        obtain ⟨_, k0, k1, k2, k3, _⟩ := KM2.out
        obtain ⟨e0, e1, _, _, e4, _⟩ := SG2.out
        simp only at k0 k1 k2 k3
        go_wp2_with fail
        refine (C2.out _).mono ?_
        rintro e w3 ⟨rfl, hb⟩
        have A2 := Lib.hid (A1.out.later hb)
        clear hb e0 e1 e4 k0 k1 k2 k3 KM2 SG2 A1 C2
        have L2 := Lib.hid (A2.out.later (w_alloc (w_refl w3) (.cells #[.int .i64 ab] 3)))
        go_wp2_with (at_builtin; refine wpList_append_own_at _ rfl _ _ 32 rfl w.heap.size 3 i0 (.int .i64 0) 1 8 Try.underlying32 hi0 hz0 hz1 hz2 rfl (by decide) _ 1 (ints [ow]) rfl L2.out.row ⟨w3.heap.size, 0, none⟩ 1 1 (ints [ab]) rfl rfl (lit_new _ _ _) (ints_one _) (by unfold maxLen; omega) (by omega) L2.out.bel.size ?_)
        intro v2 w4 hown hgrow _ _
        have A3 := Lib.hid (show OwnL w w4 3 1 v2 2 (ints [ow, ab]) from L2.out.app (w_refl _) hown hgrow)
        obtain ⟨p2, c2, rfl⟩ := A3.out.val
        clear hown hgrow L2 A2
        go_wp2_with fail
        refine (sort_any [ow, ab] (by simp) p2 c2 w _ A3.out).mono ?_
        rintro e w5 ⟨rfl, ho⟩
        have HO := Lib.hid ho
        clear ho A3
        go_wp2_with fail
        go_ret
        refine ⟨_, rfl, ?_⟩
        rw [srt_len]
        exact HO.out
  · have hk1 : (s.kind == 1) = false := by simpa using hk
    by_cases ha : aboV q s.val = 0
    · have ha1 : (aboV q s.val != 0) = false := by simp [ha]
      rw [mns_r0 (q := q) hk ha]
      clear hk ha C1
      generalize aboV q s.val = ab at *
      generalize valE q s.val = er at *
      obtain ⟨q1, q2, q3, q4⟩ := q
      go_enter Try.func45, Try.ntmps45
      go_upto_region 1 with (first | (refine wl_box s (by kernel_rfl) ?_) | fail)
      generalize World.alloc (World.alloc w (.cells #[.int .i64 q1, .int .i64 q2, .int .i64 q3, .int .i64 q4] 23)) (sgO s) = y at *
      obtain ⟨_, k0, k1, k2, k3, _⟩ := KM.out
      obtain ⟨e0, e1, _, _, e4, _⟩ := SG.out
      simp only at k0 k1 k2 k3
      go_wp2_with fail
      refine (C2.out _).mono ?_
      rintro e w3 ⟨rfl, hb⟩
      have A2 := Lib.hid (show OwnL w w3 3 1 (.slice none 0 0) 0 (ints []) from ⟨w_below B0.out hb, World.ownsRow_nil _ _ _ _⟩)
      clear hb e0 e1 e4 k0 k1 k2 k3 KM SG B0 C2
      go_wp2_with fail
      refine (sort_any [] (by simp) none 0 w _ A2.out).mono ?_
      rintro e w5 ⟨rfl, ho⟩
      have HO := Lib.hid ho
      clear ho A2
      go_wp2_with fail
      go_ret
      refine ⟨_, rfl, ?_⟩
      rw [srt_len]
      exact HO.out
    · have ha1 : (aboV q s.val != 0) = true := by simp [ha]
      rw [mns_r1 (q := q) hk ha]
      clear hk ha C1
      generalize aboV q s.val = ab at *
      generalize valE q s.val = er at *
      obtain ⟨q1, q2, q3, q4⟩ := q
      go_enter Try.func45, Try.ntmps45
      go_upto_region 1 with (first | (refine wl_box s (by kernel_rfl) ?_) | fail)
      generalize World.alloc (World.alloc w (.cells #[.int .i64 q1, .int .i64 q2, .int .i64 q3, .int .i64 q4] 23)) (sgO s) = y at *
      obtain ⟨_, k0, k1, k2, k3, _⟩ := KM.out
      obtain ⟨e0, e1, _, _, e4, _⟩ := SG.out
      simp only at k0 k1 k2 k3
      go_wp2_with fail
      refine (C2.out _).mono ?_
      rintro e w3 ⟨rfl, hb⟩
      have A2 := Lib.hid (show OwnL w w3 3 1 (.slice none 0 0) 0 (ints []) from ⟨w_below B0.out hb, World.ownsRow_nil _ _ _ _⟩)
      clear hb e0 e1 e4 k0 k1 k2 k3 KM SG B0 C2
      have L2 := Lib.hid (A2.out.later (w_alloc (w_refl w3) (.cells #[.int .i64 ab] 3)))
      go_wp2_with (at_builtin; refine wpList_append_own_at _ rfl _ _ 32 rfl w.heap.size 3 i0 (.int .i64 0) 1 8 Try.underlying32 hi0 hz0 hz1 hz2 rfl (by decide) _ 0 (ints []) rfl L2.out.row ⟨w3.heap.size, 0, none⟩ 1 1 (ints [ab]) rfl rfl (lit_new _ _ _) (ints_one _) (by unfold maxLen; omega) (by omega) L2.out.bel.size ?_)
      intro v2 w4 hown hgrow _ _
      have A3 := Lib.hid (show OwnL w w4 3 1 v2 1 (ints [ab]) from L2.out.app (w_refl _) hown hgrow)
      obtain ⟨p2, c2, rfl⟩ := A3.out.val
      clear hown hgrow L2 A2
      go_wp2_with fail
      refine (sort_any [ab] (by simp) p2 c2 w _ A3.out).mono ?_
      rintro e w5 ⟨rfl, ho⟩
      have HO := Lib.hid ho
      clear ho A3
      go_wp2_with fail
      go_ret
      refine ⟨_, rfl, ?_⟩
      rw [srt_len]
      exact HO.out

end Go.Proofs.Ythokapebcplmkaa
