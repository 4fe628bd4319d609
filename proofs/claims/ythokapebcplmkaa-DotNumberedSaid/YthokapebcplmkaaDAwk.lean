/- The statements' awake. -/
import Derived.Test.YthokapebcplmkaaDMea
namespace Go.Proofs.Ythokapebcplmkaa
open Go.RowKit

abbrev aw1 : List Sg := [nS 4, pS, nS 4, nS 3, pS]
abbrev aw2 : List Sg := [nS 4, pS, nS 4, pS, nS 5]
theorem kw1 : chkD (2, 2, 3, 2) aw1 = 0 ∧ mnD (2, 2, 3, 2) aw1 = [[0, 3], [3]] ∧ ruD (2, 2, 3, 2) aw1 = [3, 3] := by decide +kernel
theorem kw2 : cntD (2, 2, 3, 2) aw2 = (4, 0) := by decide +kernel
set_option maxRecDepth 100000 in
set_option maxHeartbeats 4000000 in
theorem awake_any (w : World) : Calls Try.prog 10 #[] w fun e w' => e = .returned (.bool true) ∧ Below w.heap.size w w' := by
  have NT := Lib.hid (fun v W => lnote_any v W)
  have PT := Lib.hid (fun W => lpoint_any W)
  have RN := Lib.hid (fun v W => run_any v W)
  have B := Lib.hid (w_refl w)
  have CI := Lib.hid (fun W => circle_any W)
  have MA := Lib.hid (fun p cap W h => lmeans_aw (2, 2, 3, 2) aw1 (by decide) 0 3 3 3 3 kw1.1 kw1.2.1 kw1.2.2 p cap W h)
  have CN : Hid (∀ p cap W, SlP W 17 p 5 cap (flatG aw2) → Calls Try.prog 18 #[mv (2, 2, 3, 2), .slice p 5 cap] W fun e w' => e = .returned (.tuple #[.int .i64 4, .int .i64 0]) ∧ Below W.heap.size W w') := Lib.hid (fun p cap W h => by
    have := pcnt_any (2, 2, 3, 2) aw2 (by decide) p cap W h
    rw [kw2] at this
    exact this)
  go_enter Try.func10, Try.ntmps10
  go_wp2_with fail
  refine (NT.out 4 _).mono ?_
  rintro e v1 ⟨rfl, hb⟩
  replace B := Lib.hid (w_below B.out hb)
  clear hb
  go_wp2_with fail
  refine (PT.out _).mono ?_
  rintro e v2 ⟨rfl, hb⟩
  replace B := Lib.hid (w_below B.out hb)
  clear hb
  go_wp2_with fail
  refine (NT.out 4 _).mono ?_
  rintro e v3 ⟨rfl, hb⟩
  replace B := Lib.hid (w_below B.out hb)
  clear hb
  go_wp2_with fail
  refine (NT.out 3 _).mono ?_
  rintro e v4 ⟨rfl, hb⟩
  replace B := Lib.hid (w_below B.out hb)
  clear hb
  go_wp2_with fail
  refine (PT.out _).mono ?_
  rintro e v5 ⟨rfl, hb⟩
  replace B := Lib.hid (w_below B.out hb)
  clear hb
  go_wp2_with (first | (refine wl_lit 5 _ [(nS 4), pS, (nS 4), (nS 3), pS] #[(0, sgv (nS 4)), (1, sgv pS), (2, sgv (nS 4)), (3, sgv (nS 3)), (4, sgv pS)] (by kernel_rfl) (run_lit5 (nS 4) pS (nS 4) (nS 3) pS _) (by kernel_rfl) ?_) | fail)
  refine (RN.out _ _).mono ?_
  rintro e v6 ⟨rfl, rfl⟩
  have HS := Lib.hid (lit_sl v5 [(nS 4), pS, (nS 4), (nS 3), pS] (by simp))
  replace B := Lib.hid (w_alloc B.out (litO [(nS 4), pS, (nS 4), (nS 3), pS]))
  obtain ⟨b6, hbq⟩ : ∃ b6, v5.heap.size = b6 := ⟨_, rfl⟩
  rw [hbq] at HS ⊢
  generalize World.alloc v5 (litO [(nS 4), pS, (nS 4), (nS 3), pS]) = y6 at *
  clear hbq
  go_wp2_with fail
  have HS1 := Lib.hid (fun W (b : Below y6.heap.size y6 W) => HS.out.later b)
  have BB := Lib.hid (w_refl y6)
  have B0 := B
  clear HS
  refine (CI.out _).mono ?_
  rintro e v7 ⟨rfl, hb⟩
  replace B := Lib.hid (w_below B.out hb)
  replace BB := Lib.hid (w_below BB.out hb)
  clear hb
  go_wp2_with fail
  refine (NT.out 4 _).mono ?_
  rintro e v8 ⟨rfl, hb⟩
  replace B := Lib.hid (w_below B.out hb)
  replace BB := Lib.hid (w_below BB.out hb)
  clear hb
  go_wp2_with fail
  refine (PT.out _).mono ?_
  rintro e v9 ⟨rfl, hb⟩
  replace B := Lib.hid (w_below B.out hb)
  replace BB := Lib.hid (w_below BB.out hb)
  clear hb
  go_wp2_with fail
  refine (NT.out 4 _).mono ?_
  rintro e v10 ⟨rfl, hb⟩
  replace B := Lib.hid (w_below B.out hb)
  replace BB := Lib.hid (w_below BB.out hb)
  clear hb
  go_wp2_with fail
  refine (PT.out _).mono ?_
  rintro e v11 ⟨rfl, hb⟩
  replace B := Lib.hid (w_below B.out hb)
  replace BB := Lib.hid (w_below BB.out hb)
  clear hb
  go_wp2_with fail
  refine (NT.out 5 _).mono ?_
  rintro e v12 ⟨rfl, hb⟩
  replace B := Lib.hid (w_below B.out hb)
  replace BB := Lib.hid (w_below BB.out hb)
  clear hb
  go_wp2_with (first | (refine wl_lit 5 _ [(nS 4), pS, (nS 4), pS, (nS 5)] #[(0, sgv (nS 4)), (1, sgv pS), (2, sgv (nS 4)), (3, sgv pS), (4, sgv (nS 5))] (by kernel_rfl) (run_lit5 (nS 4) pS (nS 4) pS (nS 5) _) (by kernel_rfl) ?_) | fail)
  refine (RN.out _ _).mono ?_
  rintro e v13 ⟨rfl, rfl⟩
  have HS := Lib.hid (lit_sl v12 [(nS 4), pS, (nS 4), pS, (nS 5)] (by simp))
  replace B := Lib.hid (w_alloc B.out (litO [(nS 4), pS, (nS 4), pS, (nS 5)]))
  replace BB := Lib.hid (w_alloc BB.out (litO [(nS 4), pS, (nS 4), pS, (nS 5)]))
  obtain ⟨b13, hbq⟩ : ∃ b13, v12.heap.size = b13 := ⟨_, rfl⟩
  rw [hbq] at HS ⊢
  generalize World.alloc v12 (litO [(nS 4), pS, (nS 4), pS, (nS 5)]) = y13 at *
  clear hbq
  go_wp2_with fail
  refine (CN.out _ _ _ HS.out).mono ?_
  rintro e v14 ⟨rfl, hb⟩
  replace B := Lib.hid (w_below B.out hb)
  replace BB := Lib.hid (w_below BB.out hb)
  clear hb
  go_wp2_with fail
  clear HS CN
  refine (CI.out _).mono ?_
  rintro e v15 ⟨rfl, hb⟩
  replace B := Lib.hid (w_below B.out hb)
  replace BB := Lib.hid (w_below BB.out hb)
  clear hb
  go_wp2_with fail
  refine (MA.out _ _ _ (HS1.out _ BB.out)).mono ?_
  rintro e v16 ⟨rfl, hb⟩
  replace B := Lib.hid (w_below B.out hb)
  clear hb HS1 BB MA
  go_wp2_with fail
  go_ret
  exact ⟨rfl, B.out⟩

end Go.Proofs.Ythokapebcplmkaa
