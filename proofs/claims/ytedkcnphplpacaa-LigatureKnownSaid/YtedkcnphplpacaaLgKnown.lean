/- LigatureKnown returns true. -/
import Derived.Test.YtedkcnphplpacaaLgKnA
namespace Go.Proofs.Ytedkcnphplpacaa
open Go.RowKit

set_option maxRecDepth 100000 in
set_option maxHeartbeats 4000000 in
theorem lknown_any (w : World) : Calls Try.prog 3 #[] w fun e w' => e = .returned (.bool true) ∧ Below w.heap.size w w' := by
  have KB := Lib.hid (w_refl w)
  replace KB := Lib.hid (w_below KB.out (w_alloc (w_alloc (w_alloc (w_refl w) (.cells (ints [4, 2]).toArray 3)) (.cells (ints [2, 4]).toArray 3)) (.cells (ints [4, 2, 3]).toArray 3)))
  have d1 := Lib.hid (show Nb (World.alloc (World.alloc (World.alloc w (.cells (ints [4, 2]).toArray 3)) (.cells (ints [2, 4]).toArray 3)) (.cells (ints [4, 2, 3]).toArray 3)) (w.heap.size) [4, 2] from (by have h0 := (nb_new w [4, 2]).later (w_alloc (w_alloc (w_refl (World.alloc w (.cells (ints [4, 2]).toArray 3))) (.cells (ints [2, 4]).toArray 3)) (.cells (ints [4, 2, 3]).toArray 3)); simpa only [World.size_alloc, World.size_setCell] using h0))
  have d2 := Lib.hid (show Nb (World.alloc (World.alloc (World.alloc w (.cells (ints [4, 2]).toArray 3)) (.cells (ints [2, 4]).toArray 3)) (.cells (ints [4, 2, 3]).toArray 3)) (w.heap.size + 1) [2, 4] from (by have h0 := (nb_new (World.alloc w (.cells (ints [4, 2]).toArray 3)) [2, 4]).later (w_alloc (w_refl (World.alloc (World.alloc w (.cells (ints [4, 2]).toArray 3)) (.cells (ints [2, 4]).toArray 3))) (.cells (ints [4, 2, 3]).toArray 3)); simpa only [World.size_alloc, World.size_setCell] using h0))
  have d3 := Lib.hid (show Nb (World.alloc (World.alloc (World.alloc w (.cells (ints [4, 2]).toArray 3)) (.cells (ints [2, 4]).toArray 3)) (.cells (ints [4, 2, 3]).toArray 3)) (w.heap.size + 1 + 1) [4, 2, 3] from (by have h0 := (nb_new (World.alloc (World.alloc w (.cells (ints [4, 2]).toArray 3)) (.cells (ints [2, 4]).toArray 3)) [4, 2, 3]).later (w_refl (World.alloc (World.alloc (World.alloc w (.cells (ints [4, 2]).toArray 3)) (.cells (ints [2, 4]).toArray 3)) (.cells (ints [4, 2, 3]).toArray 3))); simpa only [World.size_alloc, World.size_setCell] using h0))
  go_enter Try.func3, Try.ntmps3
  have KB0 := KB
  have d10 := d1
  have d20 := d2
  have d30 := d3
  go_wp2_with fail
  refine (kd0 _ _ d2.out).mono ?_
  rintro e v1 ⟨qR, cR, rfl, ho⟩
  have hbX := ho.bel
  replace KB := Lib.hid (w_below KB.out hbX)
  replace d1 := Lib.hid (d1.out.later hbX)
  replace d2 := Lib.hid (d2.out.later hbX)
  replace d3 := Lib.hid (d3.out.later hbX)
  have OR := Lib.hid ho
  have R := Lib.hid (show SlP v1 17 (some ⟨qR, 0, none⟩) 2 cR (flatG (drawG [2, 4] 0 [])) from own_sl ho rfl)
  clear ho hbX
  have c0 : World.cell? v1 ⟨qR, 22, none⟩ = some _ := own_cell OR.out (j := 22) rfl
  have fr := own_frz OR.out 22
  have H5 := Lib.hid (show SlP (World.setCell v1 ⟨qR, 22, none⟩ (.int .i64 3)) 17 (some ⟨qR, 0, none⟩) 2 cR (flatG rgt) from by
    have h1 := own_set OR.out.row 22 (.int .i64 3)
    have h2 := flatG_stem (drawG [2, 4] 0 []) 1 _ 3 (sg_some (show 1 < (drawG [2, 4] 0 []).length by decide))
    rw [show 22 = 1 * 17 + 5 by rfl, h2] at h1
    exact own_slr h1 rfl)
  have hbs := own_bel OR.out 22 (.int .i64 3)
  replace KB := Lib.hid (own_belK KB0.out OR.out 22 (.int .i64 3))
  replace d1 := Lib.hid (own_nb d10.out OR.out 22 (.int .i64 3))
  replace d2 := Lib.hid (own_nb d20.out OR.out 22 (.int .i64 3))
  replace d3 := Lib.hid (own_nb d30.out OR.out 22 (.int .i64 3))
  clear hbs
  replace R := H5
  clear H5 OR
  clear KB0 d10 d20 d30
  go_wp2_with fail
  clear c0 fr
  generalize World.setCell v1 ⟨qR, 22, none⟩ (.int .i64 3) = v1s at *
  go_wp2_with fail
  refine (kd1 _ _ d1.out).mono ?_
  rintro e v2 ⟨qS, cS, rfl, ho⟩
  have hbX := ho.bel
  replace KB := Lib.hid (w_below KB.out hbX)
  replace d1 := Lib.hid (d1.out.later hbX)
  replace d2 := Lib.hid (d2.out.later hbX)
  replace d3 := Lib.hid (d3.out.later hbX)
  replace R := Lib.hid (R.out.later hbX)
  have OS := Lib.hid ho
  have S := Lib.hid (show SlP v2 17 (some ⟨qS, 0, none⟩) 2 cS (flatG (drawG [4, 2] 2 [])) from own_sl ho rfl)
  clear ho hbX
  clear OS
  replace KB := Lib.hid (w_below KB.out (w_alloc (w_refl v2) (.cells (ints [3, 2]).toArray 3)))
  replace d1 := Lib.hid (d1.out.later (w_alloc (w_refl v2) (.cells (ints [3, 2]).toArray 3)))
  replace d2 := Lib.hid (d2.out.later (w_alloc (w_refl v2) (.cells (ints [3, 2]).toArray 3)))
  replace d3 := Lib.hid (d3.out.later (w_alloc (w_refl v2) (.cells (ints [3, 2]).toArray 3)))
  replace R := Lib.hid (R.out.later (w_alloc (w_refl v2) (.cells (ints [3, 2]).toArray 3)))
  replace S := Lib.hid (S.out.later (w_alloc (w_refl v2) (.cells (ints [3, 2]).toArray 3)))
  have LW := Lib.hid (show Nb (World.alloc v2 (.cells (ints [3, 2]).toArray 3)) (v2.heap.size) [3, 2] from (by have h0 := (nb_new v2 [3, 2]).later (w_refl (World.alloc v2 (.cells (ints [3, 2]).toArray 3))); simpa only [World.size_alloc, World.size_setCell] using h0))
  go_wp2_with fail
  refine (kd2 _ _ _ _ S.out LW.out).mono ?_
  rintro e v3 ⟨rfl, hb⟩
  have hbX := hb
  replace KB := Lib.hid (w_below KB.out hbX)
  replace d1 := Lib.hid (d1.out.later hbX)
  replace d2 := Lib.hid (d2.out.later hbX)
  replace d3 := Lib.hid (d3.out.later hbX)
  replace R := Lib.hid (R.out.later hbX)
  replace S := Lib.hid (S.out.later hbX)
  replace LW := Lib.hid (LW.out.later hbX)
  clear hb hbX
  clear S
  clear LW
  go_wp2_with fail
  refine (kd3 _ _ d1.out).mono ?_
  rintro e v4 ⟨qS, cS, rfl, ho⟩
  have hbX := ho.bel
  replace KB := Lib.hid (w_below KB.out hbX)
  replace d1 := Lib.hid (d1.out.later hbX)
  replace d2 := Lib.hid (d2.out.later hbX)
  replace d3 := Lib.hid (d3.out.later hbX)
  replace R := Lib.hid (R.out.later hbX)
  have OS := Lib.hid ho
  have S := Lib.hid (show SlP v4 17 (some ⟨qS, 0, none⟩) 2 cS (flatG (drawG [4, 2] 1 [])) from own_sl ho rfl)
  clear ho hbX
  clear OS
  replace KB := Lib.hid (w_below KB.out (w_alloc (w_refl v4) (.cells (ints [4, 4]).toArray 3)))
  replace d1 := Lib.hid (d1.out.later (w_alloc (w_refl v4) (.cells (ints [4, 4]).toArray 3)))
  replace d2 := Lib.hid (d2.out.later (w_alloc (w_refl v4) (.cells (ints [4, 4]).toArray 3)))
  replace d3 := Lib.hid (d3.out.later (w_alloc (w_refl v4) (.cells (ints [4, 4]).toArray 3)))
  replace R := Lib.hid (R.out.later (w_alloc (w_refl v4) (.cells (ints [4, 4]).toArray 3)))
  replace S := Lib.hid (S.out.later (w_alloc (w_refl v4) (.cells (ints [4, 4]).toArray 3)))
  have LW := Lib.hid (show Nb (World.alloc v4 (.cells (ints [4, 4]).toArray 3)) (v4.heap.size) [4, 4] from (by have h0 := (nb_new v4 [4, 4]).later (w_refl (World.alloc v4 (.cells (ints [4, 4]).toArray 3))); simpa only [World.size_alloc, World.size_setCell] using h0))
  go_wp2_with fail
  refine (kd4 _ _ _ _ S.out LW.out).mono ?_
  rintro e v5 ⟨rfl, hb⟩
  have hbX := hb
  replace KB := Lib.hid (w_below KB.out hbX)
  replace d1 := Lib.hid (d1.out.later hbX)
  replace d2 := Lib.hid (d2.out.later hbX)
  replace d3 := Lib.hid (d3.out.later hbX)
  replace R := Lib.hid (R.out.later hbX)
  replace S := Lib.hid (S.out.later hbX)
  replace LW := Lib.hid (LW.out.later hbX)
  clear hb hbX
  clear S
  clear LW
  replace KB := Lib.hid (w_below KB.out (w_alloc (w_refl v5) (.cells (ints [0]).toArray 3)))
  replace d1 := Lib.hid (d1.out.later (w_alloc (w_refl v5) (.cells (ints [0]).toArray 3)))
  replace d2 := Lib.hid (d2.out.later (w_alloc (w_refl v5) (.cells (ints [0]).toArray 3)))
  replace d3 := Lib.hid (d3.out.later (w_alloc (w_refl v5) (.cells (ints [0]).toArray 3)))
  replace R := Lib.hid (R.out.later (w_alloc (w_refl v5) (.cells (ints [0]).toArray 3)))
  have LS := Lib.hid (show Nb (World.alloc v5 (.cells (ints [0]).toArray 3)) (v5.heap.size) [0] from (by have h0 := (nb_new v5 [0]).later (w_refl (World.alloc v5 (.cells (ints [0]).toArray 3))); simpa only [World.size_alloc, World.size_setCell] using h0))
  go_wp2_with fail
  refine (kd5 _ _ _ d1.out LS.out).mono ?_
  rintro e v6 ⟨qS, cS, rfl, ho⟩
  have hbX := ho.bel
  replace KB := Lib.hid (w_below KB.out hbX)
  replace d1 := Lib.hid (d1.out.later hbX)
  replace d2 := Lib.hid (d2.out.later hbX)
  replace d3 := Lib.hid (d3.out.later hbX)
  replace R := Lib.hid (R.out.later hbX)
  replace LS := Lib.hid (LS.out.later hbX)
  have OS := Lib.hid ho
  have S := Lib.hid (show SlP v6 17 (some ⟨qS, 0, none⟩) 2 cS (flatG (drawG [4, 2] 0 [0])) from own_sl ho rfl)
  clear ho hbX
  clear LS
  clear OS
  replace KB := Lib.hid (w_below KB.out (w_alloc (w_refl v6) (.cells (ints [2, 3]).toArray 3)))
  replace d1 := Lib.hid (d1.out.later (w_alloc (w_refl v6) (.cells (ints [2, 3]).toArray 3)))
  replace d2 := Lib.hid (d2.out.later (w_alloc (w_refl v6) (.cells (ints [2, 3]).toArray 3)))
  replace d3 := Lib.hid (d3.out.later (w_alloc (w_refl v6) (.cells (ints [2, 3]).toArray 3)))
  replace R := Lib.hid (R.out.later (w_alloc (w_refl v6) (.cells (ints [2, 3]).toArray 3)))
  replace S := Lib.hid (S.out.later (w_alloc (w_refl v6) (.cells (ints [2, 3]).toArray 3)))
  have LW := Lib.hid (show Nb (World.alloc v6 (.cells (ints [2, 3]).toArray 3)) (v6.heap.size) [2, 3] from (by have h0 := (nb_new v6 [2, 3]).later (w_refl (World.alloc v6 (.cells (ints [2, 3]).toArray 3))); simpa only [World.size_alloc, World.size_setCell] using h0))
  go_wp2_with fail
  refine (kd6 _ _ _ _ S.out LW.out).mono ?_
  rintro e v7 ⟨rfl, hb⟩
  have hbX := hb
  replace KB := Lib.hid (w_below KB.out hbX)
  replace d1 := Lib.hid (d1.out.later hbX)
  replace d2 := Lib.hid (d2.out.later hbX)
  replace d3 := Lib.hid (d3.out.later hbX)
  replace R := Lib.hid (R.out.later hbX)
  replace S := Lib.hid (S.out.later hbX)
  replace LW := Lib.hid (LW.out.later hbX)
  clear hb hbX
  clear S
  clear LW
  go_wp2_with fail
  refine (kd7 _ _ d2.out).mono ?_
  rintro e v8 ⟨qS, cS, rfl, ho⟩
  have hbX := ho.bel
  replace KB := Lib.hid (w_below KB.out hbX)
  replace d1 := Lib.hid (d1.out.later hbX)
  replace d2 := Lib.hid (d2.out.later hbX)
  replace d3 := Lib.hid (d3.out.later hbX)
  replace R := Lib.hid (R.out.later hbX)
  have OS := Lib.hid ho
  have S := Lib.hid (show SlP v8 17 (some ⟨qS, 0, none⟩) 2 cS (flatG (drawG [2, 4] 0 [])) from own_sl ho rfl)
  clear ho hbX
  clear OS
  replace KB := Lib.hid (w_below KB.out (w_alloc (w_refl v8) (.cells (ints [3, 3]).toArray 3)))
  replace d1 := Lib.hid (d1.out.later (w_alloc (w_refl v8) (.cells (ints [3, 3]).toArray 3)))
  replace d2 := Lib.hid (d2.out.later (w_alloc (w_refl v8) (.cells (ints [3, 3]).toArray 3)))
  replace d3 := Lib.hid (d3.out.later (w_alloc (w_refl v8) (.cells (ints [3, 3]).toArray 3)))
  replace R := Lib.hid (R.out.later (w_alloc (w_refl v8) (.cells (ints [3, 3]).toArray 3)))
  replace S := Lib.hid (S.out.later (w_alloc (w_refl v8) (.cells (ints [3, 3]).toArray 3)))
  have LW := Lib.hid (show Nb (World.alloc v8 (.cells (ints [3, 3]).toArray 3)) (v8.heap.size) [3, 3] from (by have h0 := (nb_new v8 [3, 3]).later (w_refl (World.alloc v8 (.cells (ints [3, 3]).toArray 3))); simpa only [World.size_alloc, World.size_setCell] using h0))
  go_wp2_with fail
  refine (kd8 _ _ _ _ S.out LW.out).mono ?_
  rintro e v9 ⟨rfl, hb⟩
  have hbX := hb
  replace KB := Lib.hid (w_below KB.out hbX)
  replace d1 := Lib.hid (d1.out.later hbX)
  replace d2 := Lib.hid (d2.out.later hbX)
  replace d3 := Lib.hid (d3.out.later hbX)
  replace R := Lib.hid (R.out.later hbX)
  replace S := Lib.hid (S.out.later hbX)
  replace LW := Lib.hid (LW.out.later hbX)
  clear hb hbX
  clear S
  clear LW
  go_wp2_with fail
  refine (kd9 _ _ d2.out).mono ?_
  rintro e v10 ⟨qS, cS, rfl, ho⟩
  have hbX := ho.bel
  replace KB := Lib.hid (w_below KB.out hbX)
  replace d1 := Lib.hid (d1.out.later hbX)
  replace d2 := Lib.hid (d2.out.later hbX)
  replace d3 := Lib.hid (d3.out.later hbX)
  replace R := Lib.hid (R.out.later hbX)
  have OS := Lib.hid ho
  have S := Lib.hid (show SlP v10 17 (some ⟨qS, 0, none⟩) 2 cS (flatG (drawG [2, 4] 2 [])) from own_sl ho rfl)
  clear ho hbX
  clear OS
  replace KB := Lib.hid (w_below KB.out (w_alloc (w_refl v10) (.cells (ints [2, 3]).toArray 3)))
  replace d1 := Lib.hid (d1.out.later (w_alloc (w_refl v10) (.cells (ints [2, 3]).toArray 3)))
  replace d2 := Lib.hid (d2.out.later (w_alloc (w_refl v10) (.cells (ints [2, 3]).toArray 3)))
  replace d3 := Lib.hid (d3.out.later (w_alloc (w_refl v10) (.cells (ints [2, 3]).toArray 3)))
  replace R := Lib.hid (R.out.later (w_alloc (w_refl v10) (.cells (ints [2, 3]).toArray 3)))
  replace S := Lib.hid (S.out.later (w_alloc (w_refl v10) (.cells (ints [2, 3]).toArray 3)))
  have LW := Lib.hid (show Nb (World.alloc v10 (.cells (ints [2, 3]).toArray 3)) (v10.heap.size) [2, 3] from (by have h0 := (nb_new v10 [2, 3]).later (w_refl (World.alloc v10 (.cells (ints [2, 3]).toArray 3))); simpa only [World.size_alloc, World.size_setCell] using h0))
  go_wp2_with fail
  refine (kd10 _ _ _ _ S.out LW.out).mono ?_
  rintro e v11 ⟨rfl, hb⟩
  have hbX := hb
  replace KB := Lib.hid (w_below KB.out hbX)
  replace d1 := Lib.hid (d1.out.later hbX)
  replace d2 := Lib.hid (d2.out.later hbX)
  replace d3 := Lib.hid (d3.out.later hbX)
  replace R := Lib.hid (R.out.later hbX)
  replace S := Lib.hid (S.out.later hbX)
  replace LW := Lib.hid (LW.out.later hbX)
  clear hb hbX
  clear S
  clear LW
  replace KB := Lib.hid (w_below KB.out (w_alloc (w_refl v11) (.cells (ints [3, 2]).toArray 3)))
  replace d1 := Lib.hid (d1.out.later (w_alloc (w_refl v11) (.cells (ints [3, 2]).toArray 3)))
  replace d2 := Lib.hid (d2.out.later (w_alloc (w_refl v11) (.cells (ints [3, 2]).toArray 3)))
  replace d3 := Lib.hid (d3.out.later (w_alloc (w_refl v11) (.cells (ints [3, 2]).toArray 3)))
  replace R := Lib.hid (R.out.later (w_alloc (w_refl v11) (.cells (ints [3, 2]).toArray 3)))
  have LW := Lib.hid (show Nb (World.alloc v11 (.cells (ints [3, 2]).toArray 3)) (v11.heap.size) [3, 2] from (by have h0 := (nb_new v11 [3, 2]).later (w_refl (World.alloc v11 (.cells (ints [3, 2]).toArray 3))); simpa only [World.size_alloc, World.size_setCell] using h0))
  go_wp2_with fail
  refine (kd11 _ _ _ _ R.out LW.out).mono ?_
  rintro e v12 ⟨rfl, hb⟩
  have hbX := hb
  replace KB := Lib.hid (w_below KB.out hbX)
  replace d1 := Lib.hid (d1.out.later hbX)
  replace d2 := Lib.hid (d2.out.later hbX)
  replace d3 := Lib.hid (d3.out.later hbX)
  replace R := Lib.hid (R.out.later hbX)
  replace LW := Lib.hid (LW.out.later hbX)
  clear hb hbX
  clear LW
  go_wp2_with fail
  refine (kd12 _ _ d3.out).mono ?_
  rintro e v13 ⟨qS, cS, rfl, ho⟩
  have hbX := ho.bel
  replace KB := Lib.hid (w_below KB.out hbX)
  replace d1 := Lib.hid (d1.out.later hbX)
  replace d2 := Lib.hid (d2.out.later hbX)
  replace d3 := Lib.hid (d3.out.later hbX)
  replace R := Lib.hid (R.out.later hbX)
  have OS := Lib.hid ho
  have S := Lib.hid (show SlP v13 17 (some ⟨qS, 0, none⟩) 3 cS (flatG (drawG [4, 2, 3] 0 [])) from own_sl ho rfl)
  clear ho hbX
  clear OS
  replace KB := Lib.hid (w_below KB.out (w_alloc (w_refl v13) (.cells (ints [2, 3, 3]).toArray 3)))
  replace d1 := Lib.hid (d1.out.later (w_alloc (w_refl v13) (.cells (ints [2, 3, 3]).toArray 3)))
  replace d2 := Lib.hid (d2.out.later (w_alloc (w_refl v13) (.cells (ints [2, 3, 3]).toArray 3)))
  replace d3 := Lib.hid (d3.out.later (w_alloc (w_refl v13) (.cells (ints [2, 3, 3]).toArray 3)))
  replace R := Lib.hid (R.out.later (w_alloc (w_refl v13) (.cells (ints [2, 3, 3]).toArray 3)))
  replace S := Lib.hid (S.out.later (w_alloc (w_refl v13) (.cells (ints [2, 3, 3]).toArray 3)))
  have LW := Lib.hid (show Nb (World.alloc v13 (.cells (ints [2, 3, 3]).toArray 3)) (v13.heap.size) [2, 3, 3] from (by have h0 := (nb_new v13 [2, 3, 3]).later (w_refl (World.alloc v13 (.cells (ints [2, 3, 3]).toArray 3))); simpa only [World.size_alloc, World.size_setCell] using h0))
  go_wp2_with fail
  refine (kd13 _ _ _ _ S.out LW.out).mono ?_
  rintro e v14 ⟨rfl, hb⟩
  have hbX := hb
  replace KB := Lib.hid (w_below KB.out hbX)
  replace d1 := Lib.hid (d1.out.later hbX)
  replace d2 := Lib.hid (d2.out.later hbX)
  replace d3 := Lib.hid (d3.out.later hbX)
  replace R := Lib.hid (R.out.later hbX)
  replace S := Lib.hid (S.out.later hbX)
  replace LW := Lib.hid (LW.out.later hbX)
  clear hb hbX
  clear S
  clear LW
  go_wp2_with fail
  refine (kd14 _ _ d3.out).mono ?_
  rintro e v15 ⟨qS, cS, rfl, ho⟩
  have hbX := ho.bel
  replace KB := Lib.hid (w_below KB.out hbX)
  replace d1 := Lib.hid (d1.out.later hbX)
  replace d2 := Lib.hid (d2.out.later hbX)
  replace d3 := Lib.hid (d3.out.later hbX)
  replace R := Lib.hid (R.out.later hbX)
  have OS := Lib.hid ho
  have S := Lib.hid (show SlP v15 17 (some ⟨qS, 0, none⟩) 3 cS (flatG (drawG [4, 2, 3] 1 [])) from own_sl ho rfl)
  clear ho hbX
  clear OS
  replace KB := Lib.hid (w_below KB.out (w_alloc (w_refl v15) (.cells (ints [4, 4, 3]).toArray 3)))
  replace d1 := Lib.hid (d1.out.later (w_alloc (w_refl v15) (.cells (ints [4, 4, 3]).toArray 3)))
  replace d2 := Lib.hid (d2.out.later (w_alloc (w_refl v15) (.cells (ints [4, 4, 3]).toArray 3)))
  replace d3 := Lib.hid (d3.out.later (w_alloc (w_refl v15) (.cells (ints [4, 4, 3]).toArray 3)))
  replace R := Lib.hid (R.out.later (w_alloc (w_refl v15) (.cells (ints [4, 4, 3]).toArray 3)))
  replace S := Lib.hid (S.out.later (w_alloc (w_refl v15) (.cells (ints [4, 4, 3]).toArray 3)))
  have LW := Lib.hid (show Nb (World.alloc v15 (.cells (ints [4, 4, 3]).toArray 3)) (v15.heap.size) [4, 4, 3] from (by have h0 := (nb_new v15 [4, 4, 3]).later (w_refl (World.alloc v15 (.cells (ints [4, 4, 3]).toArray 3))); simpa only [World.size_alloc, World.size_setCell] using h0))
  go_wp2_with fail
  refine (kd15 _ _ _ _ S.out LW.out).mono ?_
  rintro e v16 ⟨rfl, hb⟩
  have hbX := hb
  replace KB := Lib.hid (w_below KB.out hbX)
  replace d1 := Lib.hid (d1.out.later hbX)
  replace d2 := Lib.hid (d2.out.later hbX)
  replace d3 := Lib.hid (d3.out.later hbX)
  replace R := Lib.hid (R.out.later hbX)
  replace S := Lib.hid (S.out.later hbX)
  replace LW := Lib.hid (LW.out.later hbX)
  clear hb hbX
  clear S
  clear LW
  replace KB := Lib.hid (w_below KB.out (w_alloc (w_refl v16) (.cells (ints [3, 2]).toArray 3)))
  replace d1 := Lib.hid (d1.out.later (w_alloc (w_refl v16) (.cells (ints [3, 2]).toArray 3)))
  replace d2 := Lib.hid (d2.out.later (w_alloc (w_refl v16) (.cells (ints [3, 2]).toArray 3)))
  replace d3 := Lib.hid (d3.out.later (w_alloc (w_refl v16) (.cells (ints [3, 2]).toArray 3)))
  replace R := Lib.hid (R.out.later (w_alloc (w_refl v16) (.cells (ints [3, 2]).toArray 3)))
  have LV := Lib.hid (show Nb (World.alloc v16 (.cells (ints [3, 2]).toArray 3)) (v16.heap.size) [3, 2] from (by have h0 := (nb_new v16 [3, 2]).later (w_refl (World.alloc v16 (.cells (ints [3, 2]).toArray 3))); simpa only [World.size_alloc, World.size_setCell] using h0))
  go_wp2_with fail
  refine (kd16 _ _ d1.out).mono ?_
  rintro e v17 ⟨qS, cS, rfl, ho⟩
  have hbX := ho.bel
  replace KB := Lib.hid (w_below KB.out hbX)
  replace d1 := Lib.hid (d1.out.later hbX)
  replace d2 := Lib.hid (d2.out.later hbX)
  replace d3 := Lib.hid (d3.out.later hbX)
  replace R := Lib.hid (R.out.later hbX)
  replace LV := Lib.hid (LV.out.later hbX)
  have OS := Lib.hid ho
  have S := Lib.hid (show SlP v17 17 (some ⟨qS, 0, none⟩) 2 cS (flatG (drawG [4, 2] 2 [])) from own_sl ho rfl)
  clear ho hbX
  clear OS
  go_wp2_with fail
  refine (kd17 _ _ _ _ _ d1.out LV.out S.out).mono ?_
  rintro e v18 ⟨rfl, hb⟩
  have hbX := hb
  replace KB := Lib.hid (w_below KB.out hbX)
  replace d1 := Lib.hid (d1.out.later hbX)
  replace d2 := Lib.hid (d2.out.later hbX)
  replace d3 := Lib.hid (d3.out.later hbX)
  replace R := Lib.hid (R.out.later hbX)
  replace LV := Lib.hid (LV.out.later hbX)
  replace S := Lib.hid (S.out.later hbX)
  clear hb hbX
  clear LV
  clear S
  replace KB := Lib.hid (w_below KB.out (w_alloc (w_alloc (w_refl v18) (.cells (ints [3, 3]).toArray 3)) (.cells (ints [0]).toArray 3)))
  replace d1 := Lib.hid (d1.out.later (w_alloc (w_alloc (w_refl v18) (.cells (ints [3, 3]).toArray 3)) (.cells (ints [0]).toArray 3)))
  replace d2 := Lib.hid (d2.out.later (w_alloc (w_alloc (w_refl v18) (.cells (ints [3, 3]).toArray 3)) (.cells (ints [0]).toArray 3)))
  replace d3 := Lib.hid (d3.out.later (w_alloc (w_alloc (w_refl v18) (.cells (ints [3, 3]).toArray 3)) (.cells (ints [0]).toArray 3)))
  replace R := Lib.hid (R.out.later (w_alloc (w_alloc (w_refl v18) (.cells (ints [3, 3]).toArray 3)) (.cells (ints [0]).toArray 3)))
  have LV := Lib.hid (show Nb (World.alloc (World.alloc v18 (.cells (ints [3, 3]).toArray 3)) (.cells (ints [0]).toArray 3)) (v18.heap.size) [3, 3] from (by have h0 := (nb_new v18 [3, 3]).later (w_alloc (w_refl (World.alloc v18 (.cells (ints [3, 3]).toArray 3))) (.cells (ints [0]).toArray 3)); simpa only [World.size_alloc, World.size_setCell] using h0))
  have LS := Lib.hid (show Nb (World.alloc (World.alloc v18 (.cells (ints [3, 3]).toArray 3)) (.cells (ints [0]).toArray 3)) (v18.heap.size + 1) [0] from (by have h0 := (nb_new (World.alloc v18 (.cells (ints [3, 3]).toArray 3)) [0]).later (w_refl (World.alloc (World.alloc v18 (.cells (ints [3, 3]).toArray 3)) (.cells (ints [0]).toArray 3))); simpa only [World.size_alloc, World.size_setCell] using h0))
  go_wp2_with fail
  refine (kd18 _ _ _ d1.out LS.out).mono ?_
  rintro e v19 ⟨qS, cS, rfl, ho⟩
  have hbX := ho.bel
  replace KB := Lib.hid (w_below KB.out hbX)
  replace d1 := Lib.hid (d1.out.later hbX)
  replace d2 := Lib.hid (d2.out.later hbX)
  replace d3 := Lib.hid (d3.out.later hbX)
  replace R := Lib.hid (R.out.later hbX)
  replace LV := Lib.hid (LV.out.later hbX)
  replace LS := Lib.hid (LS.out.later hbX)
  have OS := Lib.hid ho
  have S := Lib.hid (show SlP v19 17 (some ⟨qS, 0, none⟩) 2 cS (flatG (drawG [4, 2] 2 [0])) from own_sl ho rfl)
  clear ho hbX
  clear LS
  clear OS
  go_wp2_with fail
  refine (kd19 _ _ _ _ _ d1.out LV.out S.out).mono ?_
  rintro e v20 ⟨rfl, hb⟩
  have hbX := hb
  replace KB := Lib.hid (w_below KB.out hbX)
  replace d1 := Lib.hid (d1.out.later hbX)
  replace d2 := Lib.hid (d2.out.later hbX)
  replace d3 := Lib.hid (d3.out.later hbX)
  replace R := Lib.hid (R.out.later hbX)
  replace LV := Lib.hid (LV.out.later hbX)
  replace S := Lib.hid (S.out.later hbX)
  clear hb hbX
  clear LV
  clear S
  replace KB := Lib.hid (w_below KB.out (w_alloc (w_refl v20) (.cells (ints [3, 2]).toArray 3)))
  replace d1 := Lib.hid (d1.out.later (w_alloc (w_refl v20) (.cells (ints [3, 2]).toArray 3)))
  replace d2 := Lib.hid (d2.out.later (w_alloc (w_refl v20) (.cells (ints [3, 2]).toArray 3)))
  replace d3 := Lib.hid (d3.out.later (w_alloc (w_refl v20) (.cells (ints [3, 2]).toArray 3)))
  replace R := Lib.hid (R.out.later (w_alloc (w_refl v20) (.cells (ints [3, 2]).toArray 3)))
  have LV := Lib.hid (show Nb (World.alloc v20 (.cells (ints [3, 2]).toArray 3)) (v20.heap.size) [3, 2] from (by have h0 := (nb_new v20 [3, 2]).later (w_refl (World.alloc v20 (.cells (ints [3, 2]).toArray 3))); simpa only [World.size_alloc, World.size_setCell] using h0))
  go_wp2_with fail
  refine (kd20 _ _ _ _ _ d2.out LV.out R.out).mono ?_
  rintro e v21 ⟨rfl, hb⟩
  have hbX := hb
  replace KB := Lib.hid (w_below KB.out hbX)
  replace d1 := Lib.hid (d1.out.later hbX)
  replace d2 := Lib.hid (d2.out.later hbX)
  replace d3 := Lib.hid (d3.out.later hbX)
  replace R := Lib.hid (R.out.later hbX)
  replace LV := Lib.hid (LV.out.later hbX)
  clear hb hbX
  clear LV
  clear R
  replace KB := Lib.hid (w_below KB.out (w_alloc (w_refl v21) (.cells (ints [4, 4]).toArray 3)))
  replace d1 := Lib.hid (d1.out.later (w_alloc (w_refl v21) (.cells (ints [4, 4]).toArray 3)))
  replace d2 := Lib.hid (d2.out.later (w_alloc (w_refl v21) (.cells (ints [4, 4]).toArray 3)))
  replace d3 := Lib.hid (d3.out.later (w_alloc (w_refl v21) (.cells (ints [4, 4]).toArray 3)))
  have LV := Lib.hid (show Nb (World.alloc v21 (.cells (ints [4, 4]).toArray 3)) (v21.heap.size) [4, 4] from (by have h0 := (nb_new v21 [4, 4]).later (w_refl (World.alloc v21 (.cells (ints [4, 4]).toArray 3))); simpa only [World.size_alloc, World.size_setCell] using h0))
  go_wp2_with fail
  refine (kd21 _ _ _ d1.out LV.out).mono ?_
  rintro e v22 ⟨rfl, hb⟩
  have hbX := hb
  replace KB := Lib.hid (w_below KB.out hbX)
  replace d1 := Lib.hid (d1.out.later hbX)
  replace d2 := Lib.hid (d2.out.later hbX)
  replace d3 := Lib.hid (d3.out.later hbX)
  replace LV := Lib.hid (LV.out.later hbX)
  clear hb hbX
  clear LV
  replace KB := Lib.hid (w_below KB.out (w_alloc (w_refl v22) (.cells (ints [4, 3]).toArray 3)))
  replace d1 := Lib.hid (d1.out.later (w_alloc (w_refl v22) (.cells (ints [4, 3]).toArray 3)))
  replace d2 := Lib.hid (d2.out.later (w_alloc (w_refl v22) (.cells (ints [4, 3]).toArray 3)))
  replace d3 := Lib.hid (d3.out.later (w_alloc (w_refl v22) (.cells (ints [4, 3]).toArray 3)))
  have LV := Lib.hid (show Nb (World.alloc v22 (.cells (ints [4, 3]).toArray 3)) (v22.heap.size) [4, 3] from (by have h0 := (nb_new v22 [4, 3]).later (w_refl (World.alloc v22 (.cells (ints [4, 3]).toArray 3))); simpa only [World.size_alloc, World.size_setCell] using h0))
  go_wp2_with fail
  refine (kd22 _ _ _ d1.out LV.out).mono ?_
  rintro e v23 ⟨rfl, hb⟩
  have hbX := hb
  replace KB := Lib.hid (w_below KB.out hbX)
  replace d1 := Lib.hid (d1.out.later hbX)
  replace d2 := Lib.hid (d2.out.later hbX)
  replace d3 := Lib.hid (d3.out.later hbX)
  replace LV := Lib.hid (LV.out.later hbX)
  clear hb hbX
  clear LV
  replace KB := Lib.hid (w_below KB.out (w_alloc (w_alloc (w_refl v23) (.cells (ints [4, 4]).toArray 3)) (.cells (ints [3, 3]).toArray 3)))
  replace d1 := Lib.hid (d1.out.later (w_alloc (w_alloc (w_refl v23) (.cells (ints [4, 4]).toArray 3)) (.cells (ints [3, 3]).toArray 3)))
  replace d2 := Lib.hid (d2.out.later (w_alloc (w_alloc (w_refl v23) (.cells (ints [4, 4]).toArray 3)) (.cells (ints [3, 3]).toArray 3)))
  replace d3 := Lib.hid (d3.out.later (w_alloc (w_alloc (w_refl v23) (.cells (ints [4, 4]).toArray 3)) (.cells (ints [3, 3]).toArray 3)))
  have LP := Lib.hid (show Nb (World.alloc (World.alloc v23 (.cells (ints [4, 4]).toArray 3)) (.cells (ints [3, 3]).toArray 3)) (v23.heap.size) [4, 4] from (by have h0 := (nb_new v23 [4, 4]).later (w_alloc (w_refl (World.alloc v23 (.cells (ints [4, 4]).toArray 3))) (.cells (ints [3, 3]).toArray 3)); simpa only [World.size_alloc, World.size_setCell] using h0))
  have LV := Lib.hid (show Nb (World.alloc (World.alloc v23 (.cells (ints [4, 4]).toArray 3)) (.cells (ints [3, 3]).toArray 3)) (v23.heap.size + 1) [3, 3] from (by have h0 := (nb_new (World.alloc v23 (.cells (ints [4, 4]).toArray 3)) [3, 3]).later (w_refl (World.alloc (World.alloc v23 (.cells (ints [4, 4]).toArray 3)) (.cells (ints [3, 3]).toArray 3))); simpa only [World.size_alloc, World.size_setCell] using h0))
  go_wp2_with fail
  refine (kd23 _ _ _ LP.out LV.out).mono ?_
  rintro e v24 ⟨rfl, hb⟩
  have hbX := hb
  replace KB := Lib.hid (w_below KB.out hbX)
  replace d1 := Lib.hid (d1.out.later hbX)
  replace d2 := Lib.hid (d2.out.later hbX)
  replace d3 := Lib.hid (d3.out.later hbX)
  replace LP := Lib.hid (LP.out.later hbX)
  replace LV := Lib.hid (LV.out.later hbX)
  clear hb hbX
  clear LP
  clear LV
  replace KB := Lib.hid (w_below KB.out (w_alloc (w_refl v24) (.cells (ints [5, 5]).toArray 3)))
  replace d1 := Lib.hid (d1.out.later (w_alloc (w_refl v24) (.cells (ints [5, 5]).toArray 3)))
  replace d2 := Lib.hid (d2.out.later (w_alloc (w_refl v24) (.cells (ints [5, 5]).toArray 3)))
  replace d3 := Lib.hid (d3.out.later (w_alloc (w_refl v24) (.cells (ints [5, 5]).toArray 3)))
  have LV := Lib.hid (show Nb (World.alloc v24 (.cells (ints [5, 5]).toArray 3)) (v24.heap.size) [5, 5] from (by have h0 := (nb_new v24 [5, 5]).later (w_refl (World.alloc v24 (.cells (ints [5, 5]).toArray 3))); simpa only [World.size_alloc, World.size_setCell] using h0))
  go_wp2_with fail
  refine (kd24 _ _ _ d2.out LV.out).mono ?_
  rintro e v25 ⟨rfl, hb⟩
  have hbX := hb
  replace KB := Lib.hid (w_below KB.out hbX)
  replace d1 := Lib.hid (d1.out.later hbX)
  replace d2 := Lib.hid (d2.out.later hbX)
  replace d3 := Lib.hid (d3.out.later hbX)
  replace LV := Lib.hid (LV.out.later hbX)
  clear hb hbX
  clear LV
  replace KB := Lib.hid (w_below KB.out (w_alloc (w_alloc (w_refl v25) (.cells (ints [4, 4, 3]).toArray 3)) (.cells (ints [3]).toArray 3)))
  replace d1 := Lib.hid (d1.out.later (w_alloc (w_alloc (w_refl v25) (.cells (ints [4, 4, 3]).toArray 3)) (.cells (ints [3]).toArray 3)))
  replace d2 := Lib.hid (d2.out.later (w_alloc (w_alloc (w_refl v25) (.cells (ints [4, 4, 3]).toArray 3)) (.cells (ints [3]).toArray 3)))
  replace d3 := Lib.hid (d3.out.later (w_alloc (w_alloc (w_refl v25) (.cells (ints [4, 4, 3]).toArray 3)) (.cells (ints [3]).toArray 3)))
  have LV := Lib.hid (show Nb (World.alloc (World.alloc v25 (.cells (ints [4, 4, 3]).toArray 3)) (.cells (ints [3]).toArray 3)) (v25.heap.size) [4, 4, 3] from (by have h0 := (nb_new v25 [4, 4, 3]).later (w_alloc (w_refl (World.alloc v25 (.cells (ints [4, 4, 3]).toArray 3))) (.cells (ints [3]).toArray 3)); simpa only [World.size_alloc, World.size_setCell] using h0))
  have LX := Lib.hid (show Nb (World.alloc (World.alloc v25 (.cells (ints [4, 4, 3]).toArray 3)) (.cells (ints [3]).toArray 3)) (v25.heap.size + 1) [3] from (by have h0 := (nb_new (World.alloc v25 (.cells (ints [4, 4, 3]).toArray 3)) [3]).later (w_refl (World.alloc (World.alloc v25 (.cells (ints [4, 4, 3]).toArray 3)) (.cells (ints [3]).toArray 3))); simpa only [World.size_alloc, World.size_setCell] using h0))
  go_wp2_with fail
  refine (kd25 _ _ _ _ d3.out LV.out LX.out).mono ?_
  rintro e v26 ⟨rfl, hb⟩
  have hbX := hb
  replace KB := Lib.hid (w_below KB.out hbX)
  replace d1 := Lib.hid (d1.out.later hbX)
  replace d2 := Lib.hid (d2.out.later hbX)
  replace d3 := Lib.hid (d3.out.later hbX)
  replace LV := Lib.hid (LV.out.later hbX)
  replace LX := Lib.hid (LX.out.later hbX)
  clear hb hbX
  clear LV
  clear LX
  replace KB := Lib.hid (w_below KB.out (w_alloc (w_alloc (w_alloc (w_refl v26) (.cells (ints [4, 4, 2]).toArray 3)) (.cells (ints [3, 3, 2]).toArray 3)) (.cells (ints [1, 2]).toArray 3)))
  replace d1 := Lib.hid (d1.out.later (w_alloc (w_alloc (w_alloc (w_refl v26) (.cells (ints [4, 4, 2]).toArray 3)) (.cells (ints [3, 3, 2]).toArray 3)) (.cells (ints [1, 2]).toArray 3)))
  replace d2 := Lib.hid (d2.out.later (w_alloc (w_alloc (w_alloc (w_refl v26) (.cells (ints [4, 4, 2]).toArray 3)) (.cells (ints [3, 3, 2]).toArray 3)) (.cells (ints [1, 2]).toArray 3)))
  replace d3 := Lib.hid (d3.out.later (w_alloc (w_alloc (w_alloc (w_refl v26) (.cells (ints [4, 4, 2]).toArray 3)) (.cells (ints [3, 3, 2]).toArray 3)) (.cells (ints [1, 2]).toArray 3)))
  have LP := Lib.hid (show Nb (World.alloc (World.alloc (World.alloc v26 (.cells (ints [4, 4, 2]).toArray 3)) (.cells (ints [3, 3, 2]).toArray 3)) (.cells (ints [1, 2]).toArray 3)) (v26.heap.size) [4, 4, 2] from (by have h0 := (nb_new v26 [4, 4, 2]).later (w_alloc (w_alloc (w_refl (World.alloc v26 (.cells (ints [4, 4, 2]).toArray 3))) (.cells (ints [3, 3, 2]).toArray 3)) (.cells (ints [1, 2]).toArray 3)); simpa only [World.size_alloc, World.size_setCell] using h0))
  have LV := Lib.hid (show Nb (World.alloc (World.alloc (World.alloc v26 (.cells (ints [4, 4, 2]).toArray 3)) (.cells (ints [3, 3, 2]).toArray 3)) (.cells (ints [1, 2]).toArray 3)) (v26.heap.size + 1) [3, 3, 2] from (by have h0 := (nb_new (World.alloc v26 (.cells (ints [4, 4, 2]).toArray 3)) [3, 3, 2]).later (w_alloc (w_refl (World.alloc (World.alloc v26 (.cells (ints [4, 4, 2]).toArray 3)) (.cells (ints [3, 3, 2]).toArray 3))) (.cells (ints [1, 2]).toArray 3)); simpa only [World.size_alloc, World.size_setCell] using h0))
  have LX := Lib.hid (show Nb (World.alloc (World.alloc (World.alloc v26 (.cells (ints [4, 4, 2]).toArray 3)) (.cells (ints [3, 3, 2]).toArray 3)) (.cells (ints [1, 2]).toArray 3)) (v26.heap.size + 1 + 1) [1, 2] from (by have h0 := (nb_new (World.alloc (World.alloc v26 (.cells (ints [4, 4, 2]).toArray 3)) (.cells (ints [3, 3, 2]).toArray 3)) [1, 2]).later (w_refl (World.alloc (World.alloc (World.alloc v26 (.cells (ints [4, 4, 2]).toArray 3)) (.cells (ints [3, 3, 2]).toArray 3)) (.cells (ints [1, 2]).toArray 3))); simpa only [World.size_alloc, World.size_setCell] using h0))
  go_wp2_with fail
  refine (kd26 _ _ _ _ LP.out LV.out LX.out).mono ?_
  rintro e v27 ⟨rfl, hb⟩
  have hbX := hb
  replace KB := Lib.hid (w_below KB.out hbX)
  replace d1 := Lib.hid (d1.out.later hbX)
  replace d2 := Lib.hid (d2.out.later hbX)
  replace d3 := Lib.hid (d3.out.later hbX)
  replace LP := Lib.hid (LP.out.later hbX)
  replace LV := Lib.hid (LV.out.later hbX)
  replace LX := Lib.hid (LX.out.later hbX)
  clear hb hbX
  clear LP
  clear LV
  clear LX
  replace KB := Lib.hid (w_below KB.out (w_alloc (w_alloc (w_refl v27) (.cells (ints [5, 5]).toArray 3)) (.cells (ints [1, 1]).toArray 3)))
  replace d1 := Lib.hid (d1.out.later (w_alloc (w_alloc (w_refl v27) (.cells (ints [5, 5]).toArray 3)) (.cells (ints [1, 1]).toArray 3)))
  replace d2 := Lib.hid (d2.out.later (w_alloc (w_alloc (w_refl v27) (.cells (ints [5, 5]).toArray 3)) (.cells (ints [1, 1]).toArray 3)))
  replace d3 := Lib.hid (d3.out.later (w_alloc (w_alloc (w_refl v27) (.cells (ints [5, 5]).toArray 3)) (.cells (ints [1, 1]).toArray 3)))
  have LV := Lib.hid (show Nb (World.alloc (World.alloc v27 (.cells (ints [5, 5]).toArray 3)) (.cells (ints [1, 1]).toArray 3)) (v27.heap.size) [5, 5] from (by have h0 := (nb_new v27 [5, 5]).later (w_alloc (w_refl (World.alloc v27 (.cells (ints [5, 5]).toArray 3))) (.cells (ints [1, 1]).toArray 3)); simpa only [World.size_alloc, World.size_setCell] using h0))
  have LX := Lib.hid (show Nb (World.alloc (World.alloc v27 (.cells (ints [5, 5]).toArray 3)) (.cells (ints [1, 1]).toArray 3)) (v27.heap.size + 1) [1, 1] from (by have h0 := (nb_new (World.alloc v27 (.cells (ints [5, 5]).toArray 3)) [1, 1]).later (w_refl (World.alloc (World.alloc v27 (.cells (ints [5, 5]).toArray 3)) (.cells (ints [1, 1]).toArray 3))); simpa only [World.size_alloc, World.size_setCell] using h0))
  go_wp2_with fail
  refine (kd27 _ _ _ _ d2.out LV.out LX.out).mono ?_
  rintro e v28 ⟨rfl, hb⟩
  have hbX := hb
  replace KB := Lib.hid (w_below KB.out hbX)
  replace d1 := Lib.hid (d1.out.later hbX)
  replace d2 := Lib.hid (d2.out.later hbX)
  replace d3 := Lib.hid (d3.out.later hbX)
  replace LV := Lib.hid (LV.out.later hbX)
  replace LX := Lib.hid (LX.out.later hbX)
  clear hb hbX
  clear LV
  clear LX
  clear d2
  clear d3
  have KB0 := KB
  have d10 := d1
  go_wp2_with fail
  refine (kd28 _ _ d1.out).mono ?_
  rintro e v29 ⟨qT, cT, rfl, ho⟩
  have hbX := ho.bel
  replace KB := Lib.hid (w_below KB.out hbX)
  replace d1 := Lib.hid (d1.out.later hbX)
  have OT := Lib.hid ho
  have T := Lib.hid (show SlP v29 17 (some ⟨qT, 0, none⟩) 2 cT (flatG (drawG [4, 2] 0 [])) from own_sl ho rfl)
  clear ho hbX
  have c0 : World.cell? v29 ⟨qT, 7, none⟩ = some _ := own_cell OT.out (j := 7) rfl
  have fr := own_frz OT.out 7
  have H5 := Lib.hid (show SlP (World.setCell v29 ⟨qT, 7, none⟩ (.bool true)) 17 (some ⟨qT, 0, none⟩) 2 cT (flatG bth) from by
    have h1 := own_set OT.out.row 7 (.bool true)
    have h2 := flatG_last (drawG [4, 2] 0 []) 0 _ true (sg_some (show 0 < (drawG [4, 2] 0 []).length by decide))
    rw [show 7 = 0 * 17 + 7 by rfl, h2] at h1
    exact own_slr h1 rfl)
  have hbs := own_bel OT.out 7 (.bool true)
  replace KB := Lib.hid (own_belK KB0.out OT.out 7 (.bool true))
  replace d1 := Lib.hid (own_nb d10.out OT.out 7 (.bool true))
  clear hbs
  replace T := H5
  clear H5 OT
  clear KB0 d10
  go_wp2_with fail
  clear c0 fr
  clear d1
  replace KB := Lib.hid (w_below KB.out (w_alloc (w_refl (World.setCell v29 ⟨qT, 7, none⟩ (.bool true))) (.cells (ints [4]).toArray 3)))
  replace T := Lib.hid (T.out.later (w_alloc (w_refl (World.setCell v29 ⟨qT, 7, none⟩ (.bool true))) (.cells (ints [4]).toArray 3)))
  have LP := Lib.hid (show Nb (World.alloc (World.setCell v29 ⟨qT, 7, none⟩ (.bool true)) (.cells (ints [4]).toArray 3)) (v29.heap.size) [4] from (by have h0 := (nb_new (World.setCell v29 ⟨qT, 7, none⟩ (.bool true)) [4]).later (w_refl (World.alloc (World.setCell v29 ⟨qT, 7, none⟩ (.bool true)) (.cells (ints [4]).toArray 3))); simpa only [World.size_alloc, World.size_setCell] using h0))
  go_wp2_with fail
  refine (kd29 _ _ LP.out).mono ?_
  rintro e v30 ⟨qS, cS, rfl, ho⟩
  have hbX := ho.bel
  replace KB := Lib.hid (w_below KB.out hbX)
  replace T := Lib.hid (T.out.later hbX)
  replace LP := Lib.hid (LP.out.later hbX)
  have OS := Lib.hid ho
  have S := Lib.hid (show SlP v30 17 (some ⟨qS, 0, none⟩) 1 cS (flatG (drawG [4] 0 [])) from own_sl ho rfl)
  clear ho hbX
  clear OS
  clear LP
  go_wp2_with fail
  refine (kd30 _ _ _ S.out).mono ?_
  rintro e v31 ⟨rfl, hb⟩
  have hbX := hb
  replace KB := Lib.hid (w_below KB.out hbX)
  replace T := Lib.hid (T.out.later hbX)
  replace S := Lib.hid (S.out.later hbX)
  clear hb hbX
  clear S
  replace KB := Lib.hid (w_below KB.out (w_alloc (w_refl v31) (.cells (ints [4, 4]).toArray 3)))
  replace T := Lib.hid (T.out.later (w_alloc (w_refl v31) (.cells (ints [4, 4]).toArray 3)))
  have LP := Lib.hid (show Nb (World.alloc v31 (.cells (ints [4, 4]).toArray 3)) (v31.heap.size) [4, 4] from (by have h0 := (nb_new v31 [4, 4]).later (w_refl (World.alloc v31 (.cells (ints [4, 4]).toArray 3))); simpa only [World.size_alloc, World.size_setCell] using h0))
  go_wp2_with fail
  refine (kd31 _ _ LP.out).mono ?_
  rintro e v32 ⟨qS, cS, rfl, ho⟩
  have hbX := ho.bel
  replace KB := Lib.hid (w_below KB.out hbX)
  replace T := Lib.hid (T.out.later hbX)
  replace LP := Lib.hid (LP.out.later hbX)
  have OS := Lib.hid ho
  have S := Lib.hid (show SlP v32 17 (some ⟨qS, 0, none⟩) 2 cS (flatG (drawG [4, 4] 0 [])) from own_sl ho rfl)
  clear ho hbX
  clear OS
  clear LP
  go_wp2_with fail
  refine (kd32 _ _ _ S.out).mono ?_
  rintro e v33 ⟨rfl, hb⟩
  have hbX := hb
  replace KB := Lib.hid (w_below KB.out hbX)
  replace T := Lib.hid (T.out.later hbX)
  replace S := Lib.hid (S.out.later hbX)
  clear hb hbX
  clear S
  go_wp2_with fail
  refine (kd33 _ _ _ T.out).mono ?_
  rintro e v34 ⟨rfl, hb⟩
  have hbX := hb
  replace KB := Lib.hid (w_below KB.out hbX)
  replace T := Lib.hid (T.out.later hbX)
  clear hb hbX
  clear T
  go_wp2_with fail
  refine (lawake_any _).mono ?_
  rintro e v35 ⟨rfl, hb⟩
  have hbX := hb
  replace KB := Lib.hid (w_below KB.out hbX)
  clear hb hbX
  go_wp2_with fail
  go_ret
  exact ⟨rfl, KB.out⟩

end Go.Proofs.Ytedkcnphplpacaa
