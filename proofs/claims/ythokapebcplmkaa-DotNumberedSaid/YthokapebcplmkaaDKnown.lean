/- The chapter's examples. -/
import Derived.Test.YthokapebcplmkaaDAwk
import Derived.Test.YthokapebcplmkaaDMkX
import Derived.Test.YthokapebcplmkaaDOfX
import Derived.Test.YthokapebcplmkaaDInv
namespace Go.Proofs.Ythokapebcplmkaa
open Go.RowKit
def cS : Sg := ⟨1, 4, 0, 0, true, 0, false, false, 0, 0, 0, 0, false, 0, 0, 0, 0⟩
abbrev kl1 : List Sg := [nS 4, pS, nS 5]
theorem km1 : chkD (2, 2, 3, 2) kl1 = 0 ∧ mnD (2, 2, 3, 2) kl1 = [[0, 3]] ∧ ruD (2, 2, 3, 2) kl1 = [0] := by decide +kernel
abbrev kl2 : List Sg := [nS 4, pS]
theorem km2 : chkD (2, 2, 3, 2) kl2 = 0 ∧ mnD (2, 2, 3, 2) kl2 = [[0, 3]] ∧ ruD (2, 2, 3, 2) kl2 = [0] := by decide +kernel
abbrev kl3 : List Sg := [nS 4, pS, rS 4]
theorem km3 : chkD (2, 2, 3, 2) kl3 = 0 ∧ mnD (2, 2, 3, 2) kl3 = [[0, 3]] ∧ ruD (2, 2, 3, 2) kl3 = [3] := by decide +kernel
abbrev kl4 : List Sg := [nS 4, pS, nS 4]
theorem km4 : chkD (2, 2, 2, 3) kl4 = 0 ∧ mnD (2, 2, 2, 3) kl4 = [[4]] ∧ ruD (2, 2, 2, 3) kl4 = [4] := by decide +kernel
abbrev kl5 : List Sg := [nS 4, pS]
theorem km5 : chkD (2, 2, 2, 2) kl5 = 0 ∧ mnD (2, 2, 2, 2) kl5 = [[0]] ∧ ruD (2, 2, 2, 2) kl5 = [0] := by decide +kernel
abbrev kl6 : List Sg := [cS, pS, nS 4]
theorem km6 : chkD (2, 2, 2, 3) kl6 = 0 ∧ mnD (2, 2, 2, 3) kl6 = [[0]] ∧ ruD (2, 2, 2, 3) kl6 = [0] := by decide +kernel
abbrev kl7 : List Sg := [nS 3, pS, nS 3]
theorem km7 : chkD (2, 3, 3, 2) kl7 = 0 ∧ mnD (2, 3, 3, 2) kl7 = [[2, 3]] ∧ ruD (2, 3, 3, 2) kl7 = [2] := by decide +kernel
abbrev kl8 : List Sg := [nS 3, pS, nS 4]
theorem km8 : chkD (2, 3, 3, 2) kl8 = 0 ∧ mnD (2, 3, 3, 2) kl8 = [[2, 3]] ∧ ruD (2, 3, 3, 2) kl8 = [3] := by decide +kernel
abbrev kl9 : List Sg := [rS 4, pS]
theorem km9 : chkD (2, 2, 3, 2) kl9 = 0 ∧ mnD (2, 2, 3, 2) kl9 = [[3]] ∧ ruD (2, 2, 3, 2) kl9 = [3] := by decide +kernel
def kn4 : List Fk := [.val (mv (2, 2, 2, 3)), .val (sgv (nS 4)), .val (sgv pS), .val (sgv (nS 4)), .sg kl4, .sg kl4, .il [4], .ll [[4]], .il [4], .val (.bool true), .val (.bool true),
  .val (mv (2, 2, 2, 2)), .val (sgv (nS 4)), .val (sgv pS), .sg kl5, .sg kl5, .il [0], .ll [[0]], .il [0], .val (.bool true), .val (.bool true), .val (.bool true),
  .val (mv (2, 2, 2, 3)), .val (sgv cS), .val (sgv pS), .val (sgv (nS 4)), .sg kl6, .sg kl6, .il [0], .ll [[0]], .il [0], .val (.bool true), .val (.bool true), .val (.bool true)]
theorem some_of {α : Type} {a b : α} (h : some a = some b) : a = b := Option.some.inj h
theorem lit_bo (w : World) (zs : List Bool) (h : zs.length ≤ 1000) : SlP (w.alloc (.cells (bools zs).toArray 4)) 1 (some ⟨w.heap.size, 0, none⟩) zs.length zs.length (bools zs) := by
  have := World.ownsRow_lit (e := 4) (size := 1) w (bools zs).toArray zs.length (Nat.le_refl _) (by unfold maxLen; omega) (by simp)
  obtain ⟨p, cap, e, k⟩ := BoolV.of_own (zs := zs) (w := w.alloc (.cells (bools zs).toArray 4)) (by simpa using this)
  injection e with e1 e2 e3
  subst e1 e3
  exact k
theorem ko1 : ofE (2, 2, 3, 2) aw2 1 = 0 ∧ ofD (2, 2, 3, 2) aw2 1 = [0, 3] := by decide +kernel
theorem ko2 : mkE (2, 2, 3, 2) kl1 [3] = 0 ∧ mkC (2, 2, 3, 2) kl1 [3] = [3, 0] ∧ mkA (2, 2, 3, 2) kl1 [3] = [false, false] := by decide +kernel
theorem ko3 : mkE (2, 2, 3, 2) kl1 [4] = 2 ∧ mkC (2, 2, 3, 2) kl1 [4] = [] ∧ mkA (2, 2, 3, 2) kl1 [4] = [] := by decide +kernel
theorem ko4 : chkD (2, 2, 3, 2) [rS 3, pS] = 13 ∧ chkD (2, 2, 3, 2) [pS, nS 4] = 13 ∧ chkD (2, 2, 3, 2) [nS 4, pS, pS] = 13 ∧ chkD (2, 2, 2, 2) [rS 4, pS] = 13 := by decide +kernel

set_option maxRecDepth 100000 in
set_option maxHeartbeats 16000000 in
theorem dknown_any (w : World) : Calls Try.prog 5 #[] w fun e w' => e = .returned (.bool true) ∧ Below w.heap.size w w' := by
  have NT := Lib.hid (fun v W => lnote_any v W)
  have RT := Lib.hid (fun v W => lrest_any v W)
  have PT := Lib.hid (fun W => lpoint_any W)
  have RN := Lib.hid (fun v W => run_any v W)
  have CI := Lib.hid (fun W => circle_any W)
  have HF := Lib.hid (fun W => half_any W)
  have PL := Lib.hid (fun W => prol_any W)
  have MO := Lib.hid (fun W => modus_any W)
  have AW := Lib.hid (fun W => awake_any W)
  have B := Lib.hid (w_refl w)
  have M1 := Lib.hid (fun p cap W h => lmeans_at2 (2, 2, 3, 2) kl1 (by decide) 0 3 0 km1.1 km1.2.1 km1.2.2 p cap W h)
  have M2 := Lib.hid (fun p cap W h => lmeans_at2 (2, 2, 3, 2) kl2 (by decide) 0 3 0 km2.1 km2.2.1 km2.2.2 p cap W h)
  have M3 := Lib.hid (fun p cap W h => lmeans_at2 (2, 2, 3, 2) kl3 (by decide) 0 3 3 km3.1 km3.2.1 km3.2.2 p cap W h)
  have M4 := Lib.hid (fun p cap W h => lmeans_at1 (2, 2, 2, 3) kl4 (by decide) 4 4 km4.1 km4.2.1 km4.2.2 p cap W h)
  have M5 := Lib.hid (fun p cap W h => lmeans_at1 (2, 2, 2, 2) kl5 (by decide) 0 0 km5.1 km5.2.1 km5.2.2 p cap W h)
  have M6 := Lib.hid (fun p cap W h => lmeans_at1 (2, 2, 2, 3) kl6 (by decide) 0 0 km6.1 km6.2.1 km6.2.2 p cap W h)
  have M7 := Lib.hid (fun p cap W h => lmeans_at2 (2, 3, 3, 2) kl7 (by decide) 2 3 2 km7.1 km7.2.1 km7.2.2 p cap W h)
  have M8 := Lib.hid (fun p cap W h => lmeans_at2 (2, 3, 3, 2) kl8 (by decide) 2 3 3 km8.1 km8.2.1 km8.2.2 p cap W h)
  have M9 := Lib.hid (fun p cap W h => lmeans_at1 (2, 2, 3, 2) kl9 (by decide) 3 3 km9.1 km9.2.1 km9.2.2 p cap W h)
  have OF : Hid (∀ p cap W, SlP W 17 p 5 cap (flatG aw2) → Calls Try.prog 24 #[mv (2, 2, 3, 2), .slice p 5 cap, .int .i64 1] W fun e w' => ∃ v, e = .returned (.tuple #[v, .int .i64 0]) ∧ IntV w' v [0, 3] ∧ Below W.heap.size W w') := Lib.hid (fun p cap W h => by
    have := pof_any (2, 2, 3, 2) aw2 (by decide) 1 p cap W h
    unfold OfPost at this
    rw [ko1.1, ko1.2] at this
    exact this)
  have MK1 : Hid (∀ p pc cap cc W, SlP W 17 p 3 cap (flatG kl1) → SlP W 1 pc 1 cc (ints [3]) → Calls Try.prog 26 #[mv (2, 2, 3, 2), .slice p 3 cap, .slice pc 1 cc] W fun e w' => ∃ v u, e = .returned (.tuple #[v, u, .int .i64 0]) ∧ IntV w' v [3, 0] ∧ BoolV w' u [false, false] ∧ Below W.heap.size W w') := Lib.hid (fun p pc cap cc W h h2 => by
    have := pmks_any (2, 2, 3, 2) kl1 (by decide) [3] p pc cap cc W h h2
    unfold MkPost at this
    rw [ko2.1, ko2.2.1, ko2.2.2] at this
    exact this)
  have MK2 : Hid (∀ p pc cap cc W, SlP W 17 p 3 cap (flatG kl1) → SlP W 1 pc 1 cc (ints [4]) → Calls Try.prog 26 #[mv (2, 2, 3, 2), .slice p 3 cap, .slice pc 1 cc] W fun e w' => ∃ v u, e = .returned (.tuple #[v, u, .int .i64 2]) ∧ IntV w' v [] ∧ BoolV w' u [] ∧ Below W.heap.size W w') := Lib.hid (fun p pc cap cc W h h2 => by
    have := pmks_any (2, 2, 3, 2) kl1 (by decide) [4] p pc cap cc W h h2
    unfold MkPost at this
    rw [ko3.1, ko3.2.1, ko3.2.2] at this
    exact this)
  have SI := Lib.hid (fun zs p q cp cq W hp hq => samei_any p q cp cq zs W hp hq)
  have SB := Lib.hid (fun zs p q cp cq W hp hq => sameb_any p q cp cq zs W hp hq)
  have CK1 : Hid (∀ p cap W, SlP W 17 p 2 cap (flatG [rS 3, pS]) → Calls Try.prog 20 #[mv (2, 2, 3, 2), .slice p 2 cap] W fun e w' => e = .returned (.int .i64 13) ∧ Below W.heap.size W w') := Lib.hid (fun p cap W h => by
    have := pchk_any (2, 2, 3, 2) [rS 3, pS] (by decide) p cap W h
    rw [ko4.1] at this
    exact this)
  have CK2 : Hid (∀ p cap W, SlP W 17 p 2 cap (flatG [pS, nS 4]) → Calls Try.prog 20 #[mv (2, 2, 3, 2), .slice p 2 cap] W fun e w' => e = .returned (.int .i64 13) ∧ Below W.heap.size W w') := Lib.hid (fun p cap W h => by
    have := pchk_any (2, 2, 3, 2) [pS, nS 4] (by decide) p cap W h
    rw [ko4.2.1] at this
    exact this)
  have CK3 : Hid (∀ p cap W, SlP W 17 p 3 cap (flatG [nS 4, pS, pS]) → Calls Try.prog 20 #[mv (2, 2, 3, 2), .slice p 3 cap] W fun e w' => e = .returned (.int .i64 13) ∧ Below W.heap.size W w') := Lib.hid (fun p cap W h => by
    have := pchk_any (2, 2, 3, 2) [nS 4, pS, pS] (by decide) p cap W h
    rw [ko4.2.2.1] at this
    exact this)
  have CK4 : Hid (∀ p cap W, SlP W 17 p 2 cap (flatG [rS 4, pS]) → Calls Try.prog 20 #[mv (2, 2, 2, 2), .slice p 2 cap] W fun e w' => e = .returned (.int .i64 13) ∧ Below W.heap.size W w') := Lib.hid (fun p cap W h => by
    have := pchk_any (2, 2, 2, 2) [rS 4, pS] (by decide) p cap W h
    rw [ko4.2.2.2] at this
    exact this)
  go_enter Try.func5, Try.ntmps5
  go_wp2_with fail
  refine (NT.out 4 _).mono ?_
  rintro e w1 ⟨rfl, hb⟩
  replace B := Lib.hid (w_below B.out hb)
  clear hb
  go_upto_region 2 with (first | (refine wl_store0 w1.heap.size _ (nS 4) rfl (by kernel_rfl) (by kernel_rfl) rfl ?_) | fail)
  have HB0 := Lib.hid (sg_new w1 (nS 4))
  have hle1 := B.out.size
  obtain ⟨b1, hb1⟩ : ∃ b1, w1.heap.size = b1 := ⟨_, rfl⟩
  rw [hb1] at HB0 hle1 ⊢
  replace B := Lib.hid (w_alloc B.out (sgO (nS 4)))
  generalize World.alloc w1 (sgO (nS 4)) = y0 at *
  clear hb1
  have c4 := HB0.out.cell (j := 4) (v := .bool false) rfl
  have fr4 := HB0.out.frozen 4
  have KC := Lib.hid (show HoldsB (y0.setCell ⟨b1, 4, none⟩ (.bool true)) b1 51 (sgA cS) from HB0.out.set 4 (.bool true))
  replace B := Lib.hid (w_put B.out hle1 4 (.bool true))
  clear HB0
  go_upto_region 3 with (fail)
  generalize y0.setCell ⟨b1, 4, none⟩ (.bool true) = y1 at *
  clear c4 fr4
  go_wp2_with fail
  refine (CI.out _).mono ?_
  rintro e v1 ⟨rfl, hb⟩
  replace B := Lib.hid (w_below B.out hb)
  replace KC := Lib.hid (KC.out.later hb)
  clear hb
  go_wp2_with fail
  refine (NT.out 4 _).mono ?_
  rintro e v2 ⟨rfl, hb⟩
  replace B := Lib.hid (w_below B.out hb)
  replace KC := Lib.hid (KC.out.later hb)
  clear hb
  go_wp2_with fail
  refine (PT.out _).mono ?_
  rintro e v3 ⟨rfl, hb⟩
  replace B := Lib.hid (w_below B.out hb)
  replace KC := Lib.hid (KC.out.later hb)
  clear hb
  go_wp2_with fail
  refine (NT.out 5 _).mono ?_
  rintro e v4 ⟨rfl, hb⟩
  replace B := Lib.hid (w_below B.out hb)
  replace KC := Lib.hid (KC.out.later hb)
  clear hb
  go_wp2_with (first | (refine wl_lit 3 _ [(nS 4), pS, (nS 5)] #[(0, sgv (nS 4)), (1, sgv pS), (2, sgv (nS 5))] (by kernel_rfl) (run_lit3 (nS 4) pS (nS 5) _) (by kernel_rfl) ?_) | fail)
  refine (RN.out _ _).mono ?_
  rintro e v5 ⟨rfl, rfl⟩
  have HS := Lib.hid (lit_sl v4 [(nS 4), pS, (nS 5)] (by simp))
  replace B := Lib.hid (w_alloc B.out (litO [(nS 4), pS, (nS 5)]))
  replace KC := Lib.hid (KC.out.al (litO [(nS 4), pS, (nS 5)]))
  obtain ⟨b5, hbq⟩ : ∃ b5, v4.heap.size = b5 := ⟨_, rfl⟩
  rw [hbq] at HS ⊢
  generalize World.alloc v4 (litO [(nS 4), pS, (nS 5)]) = y5 at *
  clear hbq
  go_wp2_with fail
  refine (M1.out _ _ _ HS.out).mono ?_
  rintro e v6 ⟨rfl, hb⟩
  replace B := Lib.hid (w_below B.out hb)
  replace KC := Lib.hid (KC.out.later hb)
  clear hb
  clear HS M1
  go_wp2_with fail
  refine (CI.out _).mono ?_
  rintro e v7 ⟨rfl, hb⟩
  replace B := Lib.hid (w_below B.out hb)
  replace KC := Lib.hid (KC.out.later hb)
  clear hb
  go_wp2_with fail
  refine (NT.out 4 _).mono ?_
  rintro e v8 ⟨rfl, hb⟩
  replace B := Lib.hid (w_below B.out hb)
  replace KC := Lib.hid (KC.out.later hb)
  clear hb
  go_wp2_with fail
  refine (PT.out _).mono ?_
  rintro e v9 ⟨rfl, hb⟩
  replace B := Lib.hid (w_below B.out hb)
  replace KC := Lib.hid (KC.out.later hb)
  clear hb
  go_wp2_with (first | (refine wl_lit 2 _ [(nS 4), pS] #[(0, sgv (nS 4)), (1, sgv pS)] (by kernel_rfl) (run_lit2 (nS 4) pS _) (by kernel_rfl) ?_) | fail)
  refine (RN.out _ _).mono ?_
  rintro e v10 ⟨rfl, rfl⟩
  have HS := Lib.hid (lit_sl v9 [(nS 4), pS] (by simp))
  replace B := Lib.hid (w_alloc B.out (litO [(nS 4), pS]))
  replace KC := Lib.hid (KC.out.al (litO [(nS 4), pS]))
  obtain ⟨b10, hbq⟩ : ∃ b10, v9.heap.size = b10 := ⟨_, rfl⟩
  rw [hbq] at HS ⊢
  generalize World.alloc v9 (litO [(nS 4), pS]) = y10 at *
  clear hbq
  go_wp2_with fail
  refine (M2.out _ _ _ HS.out).mono ?_
  rintro e v11 ⟨rfl, hb⟩
  replace B := Lib.hid (w_below B.out hb)
  replace KC := Lib.hid (KC.out.later hb)
  clear hb
  clear HS M2
  go_wp2_with fail
  refine (CI.out _).mono ?_
  rintro e v12 ⟨rfl, hb⟩
  replace B := Lib.hid (w_below B.out hb)
  replace KC := Lib.hid (KC.out.later hb)
  clear hb
  go_wp2_with fail
  refine (NT.out 4 _).mono ?_
  rintro e v13 ⟨rfl, hb⟩
  replace B := Lib.hid (w_below B.out hb)
  replace KC := Lib.hid (KC.out.later hb)
  clear hb
  go_wp2_with fail
  refine (PT.out _).mono ?_
  rintro e v14 ⟨rfl, hb⟩
  replace B := Lib.hid (w_below B.out hb)
  replace KC := Lib.hid (KC.out.later hb)
  clear hb
  go_wp2_with fail
  refine (RT.out 4 _).mono ?_
  rintro e v15 ⟨rfl, hb⟩
  replace B := Lib.hid (w_below B.out hb)
  replace KC := Lib.hid (KC.out.later hb)
  clear hb
  go_wp2_with (first | (refine wl_lit 3 _ [(nS 4), pS, (rS 4)] #[(0, sgv (nS 4)), (1, sgv pS), (2, sgv (rS 4))] (by kernel_rfl) (run_lit3 (nS 4) pS (rS 4) _) (by kernel_rfl) ?_) | fail)
  refine (RN.out _ _).mono ?_
  rintro e v16 ⟨rfl, rfl⟩
  have HS := Lib.hid (lit_sl v15 [(nS 4), pS, (rS 4)] (by simp))
  replace B := Lib.hid (w_alloc B.out (litO [(nS 4), pS, (rS 4)]))
  replace KC := Lib.hid (KC.out.al (litO [(nS 4), pS, (rS 4)]))
  obtain ⟨b16, hbq⟩ : ∃ b16, v15.heap.size = b16 := ⟨_, rfl⟩
  rw [hbq] at HS ⊢
  generalize World.alloc v15 (litO [(nS 4), pS, (rS 4)]) = y16 at *
  clear hbq
  go_wp2_with fail
  refine (M3.out _ _ _ HS.out).mono ?_
  rintro e v17 ⟨rfl, hb⟩
  replace B := Lib.hid (w_below B.out hb)
  replace KC := Lib.hid (KC.out.later hb)
  clear hb
  clear HS M3
  go_wp2_with fail
  refine region_inv (F := tabF kn4) (by kernel_rfl) (by kernel_rfl) (fun i v w w' h b => Fk.later _ h b) ?_ ?_
  · intro j hj
    have ways : j = 0 ∨ j = 1 ∨ j = 2 ∨ j = 3 ∨ j = 4 ∨ j = 5 ∨ j = 6 ∨ j = 7 ∨ j = 8 ∨ j = 9 ∨ j = 10 ∨ j = 11 ∨ j = 12 ∨ j = 13 ∨ j = 14 ∨ j = 15 ∨ j = 16 ∨ j = 17 ∨ j = 18 ∨ j = 19 ∨ j = 20 ∨ j = 21 ∨ j = 22 ∨ j = 23 ∨ j = 24 ∨ j = 25 ∨ j = 26 ∨ j = 27 ∨ j = 28 ∨ j = 29 ∨ j = 30 ∨ j = 31 ∨ j = 32 ∨ j = 33 := by
      have hj : j < 34 := hj
      omega
    clear hj
    rcases ways with rfl | rfl | rfl | rfl | rfl | rfl | rfl | rfl | rfl | rfl | rfl | rfl | rfl | rfl | rfl | rfl | rfl | rfl | rfl | rfl | rfl | rfl | rfl | rfl | rfl | rfl | rfl | rfl | rfl | rfl | rfl | rfl | rfl | rfl
    · intro o ho ls a w h hd
      obtain rfl := some_of (show some _ = some o from ho)
      exact ⟨wanted_n rfl, st_call _ _ _ rfl #[] (by simp) (fun _ _ => by rfl) ((PL.out w).mono fun _ _ ⟨h1, h2⟩ => ⟨_, h1, rfl, h2⟩)⟩
    · intro o ho ls a w h hd
      obtain rfl := some_of (show some _ = some o from ho)
      exact ⟨wanted_n rfl, st_call _ _ _ rfl #[.int .i64 4] (by simp [Act.eval]) (fun _ _ => by rfl) ((NT.out 4 w).mono fun _ _ ⟨h1, h2⟩ => ⟨_, h1, rfl, h2⟩)⟩
    · intro o ho ls a w h hd
      obtain rfl := some_of (show some _ = some o from ho)
      exact ⟨wanted_n rfl, st_call _ _ _ rfl #[] (by simp) (fun _ _ => by rfl) ((PT.out w).mono fun _ _ ⟨h1, h2⟩ => ⟨_, h1, rfl, h2⟩)⟩
    · intro o ho ls a w h hd
      obtain rfl := some_of (show some _ = some o from ho)
      exact ⟨wanted_n rfl, st_call _ _ _ rfl #[.int .i64 4] (by simp [Act.eval]) (fun _ _ => by rfl) ((NT.out 4 w).mono fun _ _ ⟨h1, h2⟩ => ⟨_, h1, rfl, h2⟩)⟩
    · intro o ho ls a w h hd
      obtain rfl := some_of (show some _ = some o from ho)
      exact ⟨wanted_n rfl, st_sg3 (nS 4) pS (nS 4) (.tmp 53) (.tmp 54) (.tmp 55) (h.fact 1 53 (hd ⟨1, .data⟩ (by simp) rfl) (by rfl)) (h.fact 2 54 (hd ⟨2, .data⟩ (by simp) rfl) (by rfl)) (h.fact 3 55 (hd ⟨3, .data⟩ (by simp) rfl) (by rfl)) rfl⟩
    · intro o ho ls a w h hd
      obtain rfl := some_of (show some _ = some o from ho)
      exact ⟨wanted_n rfl, st_run kl4 (.tmp 56) _ (h.fact 4 56 (hd ⟨4, .data⟩ (by simp) rfl) (by rfl)) rfl⟩
    · intro o ho ls a w h hd
      obtain rfl := some_of (show some _ = some o from ho)
      exact ⟨wanted_n rfl, st_il1 4 _ rfl rfl⟩
    · intro o ho ls a w h hd
      obtain rfl := some_of (show some _ = some o from ho)
      exact ⟨wanted_n rfl, st_ll1 [4] (.tmp 58) (h.fact 6 58 (hd ⟨6, .data⟩ (by simp) rfl) (by rfl)) rfl⟩
    · intro o ho ls a w h hd
      obtain rfl := some_of (show some _ = some o from ho)
      exact ⟨wanted_n rfl, st_il1 4 _ rfl rfl⟩
    · intro o ho ls a w h hd
      obtain rfl := some_of (show some _ = some o from ho)
      exact ⟨wanted_n rfl, st_means (2, 2, 2, 3) kl4 (by decide) [[4]] [4] km4.1 km4.2.1 km4.2.2 (.tmp 52) (.tmp 57) (.tmp 59) (.tmp 60) _ (h.fact 0 52 (hd ⟨0, .data⟩ (by simp) rfl) (by rfl)) (h.fact 5 57 (hd ⟨5, .data⟩ (by simp) rfl) (by rfl)) (h.fact 7 59 (hd ⟨7, .data⟩ (by simp) rfl) (by rfl)) (h.fact 8 60 (hd ⟨8, .data⟩ (by simp) rfl) (by rfl)) rfl⟩
    · intro o ho ls a w h hd
      obtain rfl := some_of (show some _ = some o from ho)
      exact ⟨wanted_n rfl, st_move (.tmp 61) (.bool true) (h.fact 9 61 (hd ⟨9, .data⟩ (by simp) rfl) (by rfl)) rfl⟩
    · intro o ho ls a w h hd
      obtain rfl := some_of (show some _ = some o from ho)
      exact ⟨wanted_g (g := 10) (d := 62) rfl (by rfl) (h.fact 10 62 (hd ⟨10, .guard⟩ (by simp) rfl) (by rfl)), st_call _ _ _ rfl #[] (by simp) (fun _ _ => by rfl) ((HF.out w).mono fun _ _ ⟨h1, h2⟩ => ⟨_, h1, rfl, h2⟩)⟩
    · intro o ho ls a w h hd
      obtain rfl := some_of (show some _ = some o from ho)
      exact ⟨wanted_g (g := 10) (d := 62) rfl (by rfl) (h.fact 10 62 (hd ⟨10, .guard⟩ (by simp) rfl) (by rfl)), st_call _ _ _ rfl #[.int .i64 4] (by simp [Act.eval]) (fun _ _ => by rfl) ((NT.out 4 w).mono fun _ _ ⟨h1, h2⟩ => ⟨_, h1, rfl, h2⟩)⟩
    · intro o ho ls a w h hd
      obtain rfl := some_of (show some _ = some o from ho)
      exact ⟨wanted_g (g := 10) (d := 62) rfl (by rfl) (h.fact 10 62 (hd ⟨10, .guard⟩ (by simp) rfl) (by rfl)), st_call _ _ _ rfl #[] (by simp) (fun _ _ => by rfl) ((PT.out w).mono fun _ _ ⟨h1, h2⟩ => ⟨_, h1, rfl, h2⟩)⟩
    · intro o ho ls a w h hd
      obtain rfl := some_of (show some _ = some o from ho)
      exact ⟨wanted_g (g := 10) (d := 62) rfl (by rfl) (h.fact 10 62 (hd ⟨10, .guard⟩ (by simp) rfl) (by rfl)), st_sg2 (nS 4) pS (.tmp 64) (.tmp 65) (h.fact 12 64 (hd ⟨12, .data⟩ (by simp) rfl) (by rfl)) (h.fact 13 65 (hd ⟨13, .data⟩ (by simp) rfl) (by rfl)) rfl⟩
    · intro o ho ls a w h hd
      obtain rfl := some_of (show some _ = some o from ho)
      exact ⟨wanted_g (g := 10) (d := 62) rfl (by rfl) (h.fact 10 62 (hd ⟨10, .guard⟩ (by simp) rfl) (by rfl)), st_run kl5 (.tmp 66) _ (h.fact 14 66 (hd ⟨14, .data⟩ (by simp) rfl) (by rfl)) rfl⟩
    · intro o ho ls a w h hd
      obtain rfl := some_of (show some _ = some o from ho)
      exact ⟨wanted_g (g := 10) (d := 62) rfl (by rfl) (h.fact 10 62 (hd ⟨10, .guard⟩ (by simp) rfl) (by rfl)), st_il1 0 _ rfl rfl⟩
    · intro o ho ls a w h hd
      obtain rfl := some_of (show some _ = some o from ho)
      exact ⟨wanted_g (g := 10) (d := 62) rfl (by rfl) (h.fact 10 62 (hd ⟨10, .guard⟩ (by simp) rfl) (by rfl)), st_ll1 [0] (.tmp 68) (h.fact 16 68 (hd ⟨16, .data⟩ (by simp) rfl) (by rfl)) rfl⟩
    · intro o ho ls a w h hd
      obtain rfl := some_of (show some _ = some o from ho)
      exact ⟨wanted_g (g := 10) (d := 62) rfl (by rfl) (h.fact 10 62 (hd ⟨10, .guard⟩ (by simp) rfl) (by rfl)), st_il1 0 _ rfl rfl⟩
    · intro o ho ls a w h hd
      obtain rfl := some_of (show some _ = some o from ho)
      exact ⟨wanted_g (g := 10) (d := 62) rfl (by rfl) (h.fact 10 62 (hd ⟨10, .guard⟩ (by simp) rfl) (by rfl)), st_means (2, 2, 2, 2) kl5 (by decide) [[0]] [0] km5.1 km5.2.1 km5.2.2 (.tmp 63) (.tmp 67) (.tmp 69) (.tmp 70) _ (h.fact 11 63 (hd ⟨11, .data⟩ (by simp) rfl) (by rfl)) (h.fact 15 67 (hd ⟨15, .data⟩ (by simp) rfl) (by rfl)) (h.fact 17 69 (hd ⟨17, .data⟩ (by simp) rfl) (by rfl)) (h.fact 18 70 (hd ⟨18, .data⟩ (by simp) rfl) (by rfl)) rfl⟩
    · intro o ho ls a w h hd
      obtain rfl := some_of (show some _ = some o from ho)
      exact ⟨wanted_n rfl, st_pick (.tmp 62) (.tmp 71) _ (.bool true) (h.fact 10 62 (hd ⟨10, .data⟩ (by simp) rfl) (by rfl)) (h.fact 19 71 (hd ⟨19, .data⟩ (by simp) rfl) (by rfl)) rfl⟩
    · intro o ho ls a w h hd
      obtain rfl := some_of (show some _ = some o from ho)
      exact ⟨wanted_n rfl, st_move (.tmp 72) (.bool true) (h.fact 20 72 (hd ⟨20, .data⟩ (by simp) rfl) (by rfl)) rfl⟩
    · intro o ho ls a w h hd
      obtain rfl := some_of (show some _ = some o from ho)
      exact ⟨wanted_g (g := 21) (d := 73) rfl (by rfl) (h.fact 21 73 (hd ⟨21, .guard⟩ (by simp) rfl) (by rfl)), st_call _ _ _ rfl #[] (by simp) (fun _ _ => by rfl) ((PL.out w).mono fun _ _ ⟨h1, h2⟩ => ⟨_, h1, rfl, h2⟩)⟩
    · intro o ho ls a w h hd
      obtain rfl := some_of (show some _ = some o from ho)
      exact ⟨wanted_g (g := 21) (d := 73) rfl (by rfl) (h.fact 21 73 (hd ⟨21, .guard⟩ (by simp) rfl) (by rfl)), st_load (.tmp 1) b1 cS (h.old (by kernel_rfl) rfl) (KC.out.later h.grew).sg rfl⟩
    · intro o ho ls a w h hd
      obtain rfl := some_of (show some _ = some o from ho)
      exact ⟨wanted_g (g := 21) (d := 73) rfl (by rfl) (h.fact 21 73 (hd ⟨21, .guard⟩ (by simp) rfl) (by rfl)), st_call _ _ _ rfl #[] (by simp) (fun _ _ => by rfl) ((PT.out w).mono fun _ _ ⟨h1, h2⟩ => ⟨_, h1, rfl, h2⟩)⟩
    · intro o ho ls a w h hd
      obtain rfl := some_of (show some _ = some o from ho)
      exact ⟨wanted_g (g := 21) (d := 73) rfl (by rfl) (h.fact 21 73 (hd ⟨21, .guard⟩ (by simp) rfl) (by rfl)), st_call _ _ _ rfl #[.int .i64 4] (by simp [Act.eval]) (fun _ _ => by rfl) ((NT.out 4 w).mono fun _ _ ⟨h1, h2⟩ => ⟨_, h1, rfl, h2⟩)⟩
    · intro o ho ls a w h hd
      obtain rfl := some_of (show some _ = some o from ho)
      exact ⟨wanted_g (g := 21) (d := 73) rfl (by rfl) (h.fact 21 73 (hd ⟨21, .guard⟩ (by simp) rfl) (by rfl)), st_sg3 cS pS (nS 4) (.tmp 75) (.tmp 76) (.tmp 77) (h.fact 23 75 (hd ⟨23, .data⟩ (by simp) rfl) (by rfl)) (h.fact 24 76 (hd ⟨24, .data⟩ (by simp) rfl) (by rfl)) (h.fact 25 77 (hd ⟨25, .data⟩ (by simp) rfl) (by rfl)) rfl⟩
    · intro o ho ls a w h hd
      obtain rfl := some_of (show some _ = some o from ho)
      exact ⟨wanted_g (g := 21) (d := 73) rfl (by rfl) (h.fact 21 73 (hd ⟨21, .guard⟩ (by simp) rfl) (by rfl)), st_run kl6 (.tmp 78) _ (h.fact 26 78 (hd ⟨26, .data⟩ (by simp) rfl) (by rfl)) rfl⟩
    · intro o ho ls a w h hd
      obtain rfl := some_of (show some _ = some o from ho)
      exact ⟨wanted_g (g := 21) (d := 73) rfl (by rfl) (h.fact 21 73 (hd ⟨21, .guard⟩ (by simp) rfl) (by rfl)), st_il1 0 _ rfl rfl⟩
    · intro o ho ls a w h hd
      obtain rfl := some_of (show some _ = some o from ho)
      exact ⟨wanted_g (g := 21) (d := 73) rfl (by rfl) (h.fact 21 73 (hd ⟨21, .guard⟩ (by simp) rfl) (by rfl)), st_ll1 [0] (.tmp 80) (h.fact 28 80 (hd ⟨28, .data⟩ (by simp) rfl) (by rfl)) rfl⟩
    · intro o ho ls a w h hd
      obtain rfl := some_of (show some _ = some o from ho)
      exact ⟨wanted_g (g := 21) (d := 73) rfl (by rfl) (h.fact 21 73 (hd ⟨21, .guard⟩ (by simp) rfl) (by rfl)), st_il1 0 _ rfl rfl⟩
    · intro o ho ls a w h hd
      obtain rfl := some_of (show some _ = some o from ho)
      exact ⟨wanted_g (g := 21) (d := 73) rfl (by rfl) (h.fact 21 73 (hd ⟨21, .guard⟩ (by simp) rfl) (by rfl)), st_means (2, 2, 2, 3) kl6 (by decide) [[0]] [0] km6.1 km6.2.1 km6.2.2 (.tmp 74) (.tmp 79) (.tmp 81) (.tmp 82) _ (h.fact 22 74 (hd ⟨22, .data⟩ (by simp) rfl) (by rfl)) (h.fact 27 79 (hd ⟨27, .data⟩ (by simp) rfl) (by rfl)) (h.fact 29 81 (hd ⟨29, .data⟩ (by simp) rfl) (by rfl)) (h.fact 30 82 (hd ⟨30, .data⟩ (by simp) rfl) (by rfl)) rfl⟩
    · intro o ho ls a w h hd
      obtain rfl := some_of (show some _ = some o from ho)
      exact ⟨wanted_n rfl, st_pick (.tmp 73) (.tmp 83) _ (.bool true) (h.fact 21 73 (hd ⟨21, .data⟩ (by simp) rfl) (by rfl)) (h.fact 31 83 (hd ⟨31, .data⟩ (by simp) rfl) (by rfl)) rfl⟩
    · intro o ho ls a w h hd
      obtain rfl := some_of (show some _ = some o from ho)
      exact ⟨wanted_n rfl, st_assign (.tmp 84) (.bool true) (h.fact 32 84 (hd ⟨32, .data⟩ (by simp) rfl) (by rfl)) rfl⟩
  · intro f wf hf hbl
    have h33 : f 33 = .bool true := hf 33 (by decide)
    replace B := Lib.hid (w_below B.out hbl)
    clear hf hbl KC M4 M5 M6
    simp only [putAll, Act.put, List.setIfInBounds_toArray, List.set_cons_succ, List.set_cons_zero, Nat.reduceAdd, h33]
    clear h33
    go_wp2_with fail
    refine (MO.out _).mono ?_
    rintro e v101 ⟨rfl, hb⟩
    replace B := Lib.hid (w_below B.out hb)
    clear hb
    go_wp2_with fail
    refine (NT.out 3 _).mono ?_
    rintro e v102 ⟨rfl, hb⟩
    replace B := Lib.hid (w_below B.out hb)
    clear hb
    go_wp2_with fail
    refine (PT.out _).mono ?_
    rintro e v103 ⟨rfl, hb⟩
    replace B := Lib.hid (w_below B.out hb)
    clear hb
    go_wp2_with fail
    refine (NT.out 3 _).mono ?_
    rintro e v104 ⟨rfl, hb⟩
    replace B := Lib.hid (w_below B.out hb)
    clear hb
    go_wp2_with (first | (refine wl_lit 3 _ [(nS 3), pS, (nS 3)] #[(0, sgv (nS 3)), (1, sgv pS), (2, sgv (nS 3))] (by kernel_rfl) (run_lit3 (nS 3) pS (nS 3) _) (by kernel_rfl) ?_) | fail)
    refine (RN.out _ _).mono ?_
    rintro e v105 ⟨rfl, rfl⟩
    have HS := Lib.hid (lit_sl v104 [(nS 3), pS, (nS 3)] (by simp))
    replace B := Lib.hid (w_alloc B.out (litO [(nS 3), pS, (nS 3)]))
    obtain ⟨b105, hbq⟩ : ∃ b105, v104.heap.size = b105 := ⟨_, rfl⟩
    rw [hbq] at HS ⊢
    generalize World.alloc v104 (litO [(nS 3), pS, (nS 3)]) = y105 at *
    clear hbq
    go_wp2_with fail
    refine (M7.out _ _ _ HS.out).mono ?_
    rintro e v106 ⟨rfl, hb⟩
    replace B := Lib.hid (w_below B.out hb)
    clear hb
    clear HS M7
    go_wp2_with fail
    refine (MO.out _).mono ?_
    rintro e v107 ⟨rfl, hb⟩
    replace B := Lib.hid (w_below B.out hb)
    clear hb
    go_wp2_with fail
    refine (NT.out 3 _).mono ?_
    rintro e v108 ⟨rfl, hb⟩
    replace B := Lib.hid (w_below B.out hb)
    clear hb
    go_wp2_with fail
    refine (PT.out _).mono ?_
    rintro e v109 ⟨rfl, hb⟩
    replace B := Lib.hid (w_below B.out hb)
    clear hb
    go_wp2_with fail
    refine (NT.out 4 _).mono ?_
    rintro e v110 ⟨rfl, hb⟩
    replace B := Lib.hid (w_below B.out hb)
    clear hb
    go_wp2_with (first | (refine wl_lit 3 _ [(nS 3), pS, (nS 4)] #[(0, sgv (nS 3)), (1, sgv pS), (2, sgv (nS 4))] (by kernel_rfl) (run_lit3 (nS 3) pS (nS 4) _) (by kernel_rfl) ?_) | fail)
    refine (RN.out _ _).mono ?_
    rintro e v111 ⟨rfl, rfl⟩
    have HS := Lib.hid (lit_sl v110 [(nS 3), pS, (nS 4)] (by simp))
    replace B := Lib.hid (w_alloc B.out (litO [(nS 3), pS, (nS 4)]))
    obtain ⟨b111, hbq⟩ : ∃ b111, v110.heap.size = b111 := ⟨_, rfl⟩
    rw [hbq] at HS ⊢
    generalize World.alloc v110 (litO [(nS 3), pS, (nS 4)]) = y111 at *
    clear hbq
    go_wp2_with fail
    refine (M8.out _ _ _ HS.out).mono ?_
    rintro e v112 ⟨rfl, hb⟩
    replace B := Lib.hid (w_below B.out hb)
    clear hb
    clear HS M8
    go_wp2_with fail
    refine (CI.out _).mono ?_
    rintro e v113 ⟨rfl, hb⟩
    replace B := Lib.hid (w_below B.out hb)
    clear hb
    go_wp2_with fail
    refine (RT.out 4 _).mono ?_
    rintro e v114 ⟨rfl, hb⟩
    replace B := Lib.hid (w_below B.out hb)
    clear hb
    go_wp2_with fail
    refine (PT.out _).mono ?_
    rintro e v115 ⟨rfl, hb⟩
    replace B := Lib.hid (w_below B.out hb)
    clear hb
    go_wp2_with (first | (refine wl_lit 2 _ [(rS 4), pS] #[(0, sgv (rS 4)), (1, sgv pS)] (by kernel_rfl) (run_lit2 (rS 4) pS _) (by kernel_rfl) ?_) | fail)
    refine (RN.out _ _).mono ?_
    rintro e v116 ⟨rfl, rfl⟩
    have HS := Lib.hid (lit_sl v115 [(rS 4), pS] (by simp))
    replace B := Lib.hid (w_alloc B.out (litO [(rS 4), pS]))
    obtain ⟨b116, hbq⟩ : ∃ b116, v115.heap.size = b116 := ⟨_, rfl⟩
    rw [hbq] at HS ⊢
    generalize World.alloc v115 (litO [(rS 4), pS]) = y116 at *
    clear hbq
    go_wp2_with fail
    refine (M9.out _ _ _ HS.out).mono ?_
    rintro e v117 ⟨rfl, hb⟩
    replace B := Lib.hid (w_below B.out hb)
    clear hb
    clear HS M9
    go_wp2_with fail
    refine (NT.out 4 _).mono ?_
    rintro e v118 ⟨rfl, hb⟩
    replace B := Lib.hid (w_below B.out hb)
    clear hb
    go_wp2_with fail
    refine (PT.out _).mono ?_
    rintro e v119 ⟨rfl, hb⟩
    replace B := Lib.hid (w_below B.out hb)
    clear hb
    go_wp2_with fail
    refine (NT.out 4 _).mono ?_
    rintro e v120 ⟨rfl, hb⟩
    replace B := Lib.hid (w_below B.out hb)
    clear hb
    go_wp2_with fail
    refine (PT.out _).mono ?_
    rintro e v121 ⟨rfl, hb⟩
    replace B := Lib.hid (w_below B.out hb)
    clear hb
    go_wp2_with fail
    refine (NT.out 5 _).mono ?_
    rintro e v122 ⟨rfl, hb⟩
    replace B := Lib.hid (w_below B.out hb)
    clear hb
    go_wp2_with (first | (refine wl_lit 5 _ [(nS 4), pS, (nS 4), pS, (nS 5)] #[(0, sgv (nS 4)), (1, sgv pS), (2, sgv (nS 4)), (3, sgv pS), (4, sgv (nS 5))] (by kernel_rfl) (run_lit5 (nS 4) pS (nS 4) pS (nS 5) _) (by kernel_rfl) ?_) | fail)
    refine (RN.out _ _).mono ?_
    rintro e v123 ⟨rfl, rfl⟩
    have HS := Lib.hid (lit_sl v122 [(nS 4), pS, (nS 4), pS, (nS 5)] (by simp))
    replace B := Lib.hid (w_alloc B.out (litO [(nS 4), pS, (nS 4), pS, (nS 5)]))
    obtain ⟨b123, hbq⟩ : ∃ b123, v122.heap.size = b123 := ⟨_, rfl⟩
    rw [hbq] at HS ⊢
    generalize World.alloc v122 (litO [(nS 4), pS, (nS 4), pS, (nS 5)]) = y123 at *
    clear hbq
    go_wp2_with fail
    refine (CI.out _).mono ?_
    rintro e v124 ⟨rfl, hb⟩
    replace B := Lib.hid (w_below B.out hb)
    replace HS := Lib.hid (HS.out.later hb)
    clear hb
    go_wp2_with fail
    refine (OF.out _ _ _ HS.out).mono ?_
    rintro e v125 ⟨v, rfl, ⟨pa, ca, rfl, hA⟩, hb⟩
    have HA := Lib.hid hA
    replace B := Lib.hid (w_below B.out hb)
    clear hb hA HS OF
    go_wp2_with fail
    refine (NT.out 4 _).mono ?_
    rintro e v126 ⟨rfl, hb⟩
    replace B := Lib.hid (w_below B.out hb)
    replace HA := Lib.hid (HA.out.later hb)
    clear hb
    go_wp2_with fail
    refine (PT.out _).mono ?_
    rintro e v127 ⟨rfl, hb⟩
    replace B := Lib.hid (w_below B.out hb)
    replace HA := Lib.hid (HA.out.later hb)
    clear hb
    go_wp2_with fail
    refine (NT.out 5 _).mono ?_
    rintro e v128 ⟨rfl, hb⟩
    replace B := Lib.hid (w_below B.out hb)
    replace HA := Lib.hid (HA.out.later hb)
    clear hb
    go_wp2_with (first | (refine wl_lit 3 _ [(nS 4), pS, (nS 5)] #[(0, sgv (nS 4)), (1, sgv pS), (2, sgv (nS 5))] (by kernel_rfl) (run_lit3 (nS 4) pS (nS 5) _) (by kernel_rfl) ?_) | fail)
    refine (RN.out _ _).mono ?_
    rintro e v129 ⟨rfl, rfl⟩
    have HS := Lib.hid (lit_sl v128 [(nS 4), pS, (nS 5)] (by simp))
    replace B := Lib.hid (w_alloc B.out (litO [(nS 4), pS, (nS 5)]))
    replace HA := Lib.hid (HA.out.later (w_alloc (w_refl _) (litO [(nS 4), pS, (nS 5)])))
    obtain ⟨b129, hbq⟩ : ∃ b129, v128.heap.size = b129 := ⟨_, rfl⟩
    rw [hbq] at HS ⊢
    generalize World.alloc v128 (litO [(nS 4), pS, (nS 5)]) = y129 at *
    clear hbq
    go_wp2_with fail
    have HS8 := HS
    clear HS
    refine (CI.out _).mono ?_
    rintro e v130 ⟨rfl, hb⟩
    replace B := Lib.hid (w_below B.out hb)
    replace HA := Lib.hid (HA.out.later hb)
    replace HS8 := Lib.hid (HS8.out.later hb)
    clear hb
    go_wp2_with fail
    refine (MK1.out _ _ _ _ _ (HS8.out.later (w_alloc (w_refl v130) (.cells #[.int .i64 3] 3))) (show SlP (v130.alloc (.cells #[.int .i64 3] 3)) 1 (some ⟨v130.heap.size, 0, none⟩) 1 1 (ints [3]) from lit_in v130 [3] (by simp))).mono ?_
    rintro e v131 ⟨v, u, rfl, ⟨pX, cX, rfl, hX⟩, ⟨pY, cY, rfl, hY⟩, hb⟩
    have hb := w_below (w_alloc (w_refl v130) (.cells #[.int .i64 3] 3)) hb
    replace B := Lib.hid (w_below B.out hb)
    replace HA := Lib.hid (HA.out.later hb)
    replace HS8 := Lib.hid (HS8.out.later hb)
    have HX := Lib.hid hX
    have HY := Lib.hid hY
    clear hb hX hY MK1
    go_wp2_with fail
    refine (CI.out _).mono ?_
    rintro e v132 ⟨rfl, hb⟩
    replace B := Lib.hid (w_below B.out hb)
    replace HA := Lib.hid (HA.out.later hb)
    replace HS8 := Lib.hid (HS8.out.later hb)
    replace HX := Lib.hid (HX.out.later hb)
    replace HY := Lib.hid (HY.out.later hb)
    clear hb
    go_wp2_with fail
    refine (MK2.out _ _ _ _ _ (HS8.out.later (w_alloc (w_refl v132) (.cells #[.int .i64 4] 3))) (show SlP (v132.alloc (.cells #[.int .i64 4] 3)) 1 (some ⟨v132.heap.size, 0, none⟩) 1 1 (ints [4]) from lit_in v132 [4] (by simp))).mono ?_
    rintro e v133 ⟨v, u, rfl, ⟨pU, cU, rfl, hU⟩, ⟨pV, cV, rfl, hV⟩, hb⟩
    have hb := w_below (w_alloc (w_refl v132) (.cells #[.int .i64 4] 3)) hb
    replace B := Lib.hid (w_below B.out hb)
    replace HA := Lib.hid (HA.out.later hb)
    replace HS8 := Lib.hid (HS8.out.later hb)
    replace HX := Lib.hid (HX.out.later hb)
    replace HY := Lib.hid (HY.out.later hb)
    clear hb hU hV MK2
    go_wp2_with fail
    refine (SI.out _ _ _ _ _ _ (HA.out.later (w_alloc (w_refl v133) (.cells #[.int .i64 0, .int .i64 3] 3))) (show SlP (v133.alloc (.cells #[.int .i64 0, .int .i64 3] 3)) 1 (some ⟨v133.heap.size, 0, none⟩) 2 2 (ints [0, 3]) from lit_in v133 [0, 3] (by simp))).mono ?_
    rintro e v134 ⟨rfl, hb⟩
    have hb := w_below (w_alloc (w_refl v133) (.cells #[.int .i64 0, .int .i64 3] 3)) hb
    replace B := Lib.hid (w_below B.out hb)
    replace HX := Lib.hid (HX.out.later hb)
    replace HY := Lib.hid (HY.out.later hb)
    clear hb HA
    go_wp2_with fail
    refine (SI.out _ _ _ _ _ _ (HX.out.later (w_alloc (w_refl v134) (.cells #[.int .i64 3, .int .i64 0] 3))) (show SlP (v134.alloc (.cells #[.int .i64 3, .int .i64 0] 3)) 1 (some ⟨v134.heap.size, 0, none⟩) 2 2 (ints [3, 0]) from lit_in v134 [3, 0] (by simp))).mono ?_
    rintro e v135 ⟨rfl, hb⟩
    have hb := w_below (w_alloc (w_refl v134) (.cells #[.int .i64 3, .int .i64 0] 3)) hb
    replace B := Lib.hid (w_below B.out hb)
    replace HY := Lib.hid (HY.out.later hb)
    clear hb HX
    go_wp2_with fail
    refine (SB.out _ _ _ _ _ _ (HY.out.later (w_alloc (w_refl v135) (.cells #[.bool false, .bool false] 4))) (show SlP (v135.alloc (.cells #[.bool false, .bool false] 4)) 1 (some ⟨v135.heap.size, 0, none⟩) 2 2 (bools [false, false]) from lit_bo v135 [false, false] (by simp))).mono ?_
    rintro e v136 ⟨rfl, hb⟩
    have hb := w_below (w_alloc (w_refl v135) (.cells #[.bool false, .bool false] 4)) hb
    replace B := Lib.hid (w_below B.out hb)
    clear hb HY
    go_wp2_with fail
    refine (CI.out _).mono ?_
    rintro e v137 ⟨rfl, hb⟩
    replace B := Lib.hid (w_below B.out hb)
    clear hb
    go_wp2_with fail
    refine (RT.out 3 _).mono ?_
    rintro e v138 ⟨rfl, hb⟩
    replace B := Lib.hid (w_below B.out hb)
    clear hb
    go_wp2_with fail
    refine (PT.out _).mono ?_
    rintro e v139 ⟨rfl, hb⟩
    replace B := Lib.hid (w_below B.out hb)
    clear hb
    go_wp2_with (first | (refine wl_lit 2 _ [(rS 3), pS] #[(0, sgv (rS 3)), (1, sgv pS)] (by kernel_rfl) (run_lit2 (rS 3) pS _) (by kernel_rfl) ?_) | fail)
    refine (RN.out _ _).mono ?_
    rintro e v140 ⟨rfl, rfl⟩
    have HS := Lib.hid (lit_sl v139 [(rS 3), pS] (by simp))
    replace B := Lib.hid (w_alloc B.out (litO [(rS 3), pS]))
    obtain ⟨b140, hbq⟩ : ∃ b140, v139.heap.size = b140 := ⟨_, rfl⟩
    rw [hbq] at HS ⊢
    generalize World.alloc v139 (litO [(rS 3), pS]) = y140 at *
    clear hbq
    go_wp2_with fail
    refine (CK1.out _ _ _ HS.out).mono ?_
    rintro e v141 ⟨rfl, hb⟩
    replace B := Lib.hid (w_below B.out hb)
    clear hb
    clear HS CK1
    go_wp2_with fail
    refine (CI.out _).mono ?_
    rintro e v142 ⟨rfl, hb⟩
    replace B := Lib.hid (w_below B.out hb)
    clear hb
    go_wp2_with fail
    refine (PT.out _).mono ?_
    rintro e v143 ⟨rfl, hb⟩
    replace B := Lib.hid (w_below B.out hb)
    clear hb
    go_wp2_with fail
    refine (NT.out 4 _).mono ?_
    rintro e v144 ⟨rfl, hb⟩
    replace B := Lib.hid (w_below B.out hb)
    clear hb
    go_wp2_with (first | (refine wl_lit 2 _ [pS, (nS 4)] #[(0, sgv pS), (1, sgv (nS 4))] (by kernel_rfl) (run_lit2 pS (nS 4) _) (by kernel_rfl) ?_) | fail)
    refine (RN.out _ _).mono ?_
    rintro e v145 ⟨rfl, rfl⟩
    have HS := Lib.hid (lit_sl v144 [pS, (nS 4)] (by simp))
    replace B := Lib.hid (w_alloc B.out (litO [pS, (nS 4)]))
    obtain ⟨b145, hbq⟩ : ∃ b145, v144.heap.size = b145 := ⟨_, rfl⟩
    rw [hbq] at HS ⊢
    generalize World.alloc v144 (litO [pS, (nS 4)]) = y145 at *
    clear hbq
    go_wp2_with fail
    refine (CK2.out _ _ _ HS.out).mono ?_
    rintro e v146 ⟨rfl, hb⟩
    replace B := Lib.hid (w_below B.out hb)
    clear hb
    clear HS CK2
    go_wp2_with fail
    refine (CI.out _).mono ?_
    rintro e v147 ⟨rfl, hb⟩
    replace B := Lib.hid (w_below B.out hb)
    clear hb
    go_wp2_with fail
    refine (NT.out 4 _).mono ?_
    rintro e v148 ⟨rfl, hb⟩
    replace B := Lib.hid (w_below B.out hb)
    clear hb
    go_wp2_with fail
    refine (PT.out _).mono ?_
    rintro e v149 ⟨rfl, hb⟩
    replace B := Lib.hid (w_below B.out hb)
    clear hb
    go_wp2_with fail
    refine (PT.out _).mono ?_
    rintro e v150 ⟨rfl, hb⟩
    replace B := Lib.hid (w_below B.out hb)
    clear hb
    go_wp2_with (first | (refine wl_lit 3 _ [(nS 4), pS, pS] #[(0, sgv (nS 4)), (1, sgv pS), (2, sgv pS)] (by kernel_rfl) (run_lit3 (nS 4) pS pS _) (by kernel_rfl) ?_) | fail)
    refine (RN.out _ _).mono ?_
    rintro e v151 ⟨rfl, rfl⟩
    have HS := Lib.hid (lit_sl v150 [(nS 4), pS, pS] (by simp))
    replace B := Lib.hid (w_alloc B.out (litO [(nS 4), pS, pS]))
    obtain ⟨b151, hbq⟩ : ∃ b151, v150.heap.size = b151 := ⟨_, rfl⟩
    rw [hbq] at HS ⊢
    generalize World.alloc v150 (litO [(nS 4), pS, pS]) = y151 at *
    clear hbq
    go_wp2_with fail
    refine (CK3.out _ _ _ HS.out).mono ?_
    rintro e v152 ⟨rfl, hb⟩
    replace B := Lib.hid (w_below B.out hb)
    clear hb
    clear HS CK3
    go_wp2_with fail
    refine (HF.out _).mono ?_
    rintro e v153 ⟨rfl, hb⟩
    replace B := Lib.hid (w_below B.out hb)
    clear hb
    go_wp2_with fail
    refine (RT.out 4 _).mono ?_
    rintro e v154 ⟨rfl, hb⟩
    replace B := Lib.hid (w_below B.out hb)
    clear hb
    go_wp2_with fail
    refine (PT.out _).mono ?_
    rintro e v155 ⟨rfl, hb⟩
    replace B := Lib.hid (w_below B.out hb)
    clear hb
    go_wp2_with (first | (refine wl_lit 2 _ [(rS 4), pS] #[(0, sgv (rS 4)), (1, sgv pS)] (by kernel_rfl) (run_lit2 (rS 4) pS _) (by kernel_rfl) ?_) | fail)
    refine (RN.out _ _).mono ?_
    rintro e v156 ⟨rfl, rfl⟩
    have HS := Lib.hid (lit_sl v155 [(rS 4), pS] (by simp))
    replace B := Lib.hid (w_alloc B.out (litO [(rS 4), pS]))
    obtain ⟨b156, hbq⟩ : ∃ b156, v155.heap.size = b156 := ⟨_, rfl⟩
    rw [hbq] at HS ⊢
    generalize World.alloc v155 (litO [(rS 4), pS]) = y156 at *
    clear hbq
    go_wp2_with fail
    refine (CK4.out _ _ _ HS.out).mono ?_
    rintro e v157 ⟨rfl, hb⟩
    replace B := Lib.hid (w_below B.out hb)
    clear hb
    clear HS CK4
    go_wp2_with fail
    refine (AW.out _).mono ?_
    rintro e v158 ⟨rfl, hb⟩
    replace B := Lib.hid (w_below B.out hb)
    clear hb
    go_wp2_with fail
    go_ret
    exact ⟨rfl, B.out⟩

end Go.Proofs.Ythokapebcplmkaa
