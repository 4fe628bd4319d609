/- What is read as a mensuration, the kit's Mens, and the chapter's examples. -/
import Derived.Test.YtflgmeajkflobaaDoorMLawA
namespace Go.Proofs.YtflgmeajkflobaaDoor
open Go.RowKit

set_option maxHeartbeats 4000000 in
theorem reads_any (s : ByteArray) (hs : s.size ≤ maxLen) (q : Q4) (h1 : parQ s = q) (h2 : parE s = 0) (w : World) : Calls Tryd.prog 35 #[.string s, mv q] w fun e w' => e = .returned (.bool true) ∧ Below w.heap.size w w' := by
  have P := Lib.hid (fun W => parse_any s hs W)
  unfold ParPost at P
  rw [h1, h2] at P
  have K := Lib.hid (Cell4.made w q 23)
  clear h1 h2 hs
  obtain ⟨a, b, c, d⟩ := q
  go_enter Tryd.func35, Tryd.ntmps35
  go_wp2_with fail
  refine (P.out _).mono ?_
  rintro e w1 ⟨rfl, hb⟩
  have hB := Lib.hid (w_below (w_alloc (w_refl w) (mO (a, b, c, d))) hb)
  obtain ⟨_, c0, c1, c2, c3, _, _, _, _⟩ := K.out.later hb
  clear hb P K
  go_wp2_with fail
  go_ret
  exact ⟨rfl, w_alloc hB.out _⟩

set_option maxHeartbeats 4000000 in
theorem kmens_any (n : Int) (hn : -9223372036854775808 ≤ n ∧ n ≤ 9223372036854775807) (w : World) : Calls Tryd.prog 36 #[.int .i64 n] w fun e w' => e = .returned (mv (ofN (n % 16))) ∧ Below w.heap.size w w' := by
  have M := Lib.hid (fun W => mod_any n 16 W hn.1 hn.2 (by decide) (by decide))
  obtain ⟨k, hk⟩ : ∃ k, n % 16 = k := ⟨_, rfl⟩
  rw [hk] at M ⊢
  have h1 : 0 ≤ k ∧ k ≤ 15 := by omega
  obtain ⟨h1, h2⟩ := h1
  have z1 : 0 ≤ k / 4 ∧ k / 4 ≤ 3 := by omega
  have z2 : 0 ≤ k / 2 ∧ k / 2 ≤ 7 := by omega
  have z3 : 0 ≤ k / 8 ∧ k / 8 ≤ 1 := by omega
  clear hk hn
  go_enter Tryd.func36, Tryd.ntmps36
  go_wp2_with fail
  refine (M.out _).mono ?_
  rintro e w1 ⟨rfl, rfl⟩
  clear M
  go_wp2_with fail
  refine bodyPost_ret (v := mv (ofN k)) (by simp [results, Tryd.results36, go_sem, ofN]) rfl ⟨rfl, ?_⟩
  exact w_alloc (w_refl w) _

theorem kn_f1 : fulV (2, 2, 3, 2) 1 = (24, 1, 0) := by decide +kernel
theorem kn_f7 : fulV (2, 2, 2, 3) 7 = (1, 4, 0) := by decide +kernel
theorem kn_l3 : chkM (3, 3, 3, 3) = 0 ∧ lvlL (3, 3, 3, 3) = [4, 3, 2, 1] := by decide +kernel
theorem kn_a5 : aboV (2, 2, 3, 2) 5 = 3 ∧ valE (2, 2, 3, 2) 5 = 0 := by decide +kernel
theorem kn_a3 : aboV (2, 2, 3, 2) 3 = 0 ∧ valE (2, 2, 3, 2) 3 = 0 := by decide +kernel
theorem kn_p1 : parQ ⟨#[50, 50, 79]⟩ = (0, 0, 0, 0) ∧ parE ⟨#[50, 50, 79]⟩ = 3 := by decide +kernel
theorem kn_p2 : parQ ⟨#[79, 46, 46]⟩ = (0, 0, 0, 0) ∧ parE ⟨#[79, 46, 46]⟩ = 3 := by decide +kernel
theorem kn_p3 : parQ ⟨#[50, 51, 67]⟩ = (2, 3, 2, 2) ∧ parE ⟨#[50, 51, 67]⟩ = 0 := by decide +kernel
theorem kn_p4 : parQ ⟨#[51, 50, 67, 46]⟩ = (3, 2, 2, 3) ∧ parE ⟨#[51, 50, 67, 46]⟩ = 0 := by decide +kernel
theorem kn_nu : numV (2, 2, 3, 2) = 2 ∧ chkM (2, 2, 3, 2) = 0 := by decide +kernel
theorem kn_of : ofQ 16 = (0, 0, 0, 0) ∧ ofE 16 = 2 := by decide +kernel
theorem kn_v4 : fitE (2, 2, 3, 2) 4 1 = 0 ∧ fitL (2, 2, 3, 2) 4 1 = [] := by decide +kernel
theorem kn_g41 : (4 : Int) / gcdI 4 1 = 4 ∧ (1 : Int) / gcdI 4 1 = 1 := by decide +kernel
theorem kn_g14 : (1 : Int) / gcdI 1 4 = 1 ∧ (4 : Int) / gcdI 1 4 = 4 := by decide +kernel
theorem kn_g24 : (24 : Int) / gcdI 24 1 = 24 ∧ (1 : Int) / gcdI 24 1 = 1 := by decide +kernel
theorem above_at {q : Q4} {v a e0 : Int} (h1 : aboV q v = a) (h2 : valE q v = e0) (W : World) : Calls Tryd.prog 14 #[mv q, .int .i64 v] W fun e w' => e = .returned (.tuple #[.int .i64 a, .int .i64 e0]) ∧ Below W.heap.size W w' := by
  subst h1 h2; exact above_any q v W
theorem parse_at {s : ByteArray} {q : Q4} {e0 : Int} (hs : s.size ≤ maxLen) (h1 : parQ s = q) (h2 : parE s = e0) (W : World) : Calls Tryd.prog 26 #[.string s] W fun e w' => e = .returned (mev q e0) ∧ Below W.heap.size W w' := by
  subst h1 h2; exact parse_any s hs W
theorem number_at {q : Q4} {n e0 : Int} (h1 : numV q = n) (h2 : chkM q = e0) (W : World) : Calls Tryd.prog 19 #[mv q] W fun e w' => e = .returned (.tuple #[.int .i64 n, .int .i64 e0]) ∧ Below W.heap.size W w' := by
  subst h1 h2; exact number_any q W
theorem of_at {n : Int} {q : Q4} {e0 : Int} (h1 : ofQ n = q) (h2 : ofE n = e0) (W : World) : Calls Tryd.prog 28 #[.int .i64 n] W fun e w' => e = .returned (mev q e0) ∧ Below W.heap.size W w' := by
  subst h1 h2; exact of_any n W

set_option maxRecDepth 100000 in
set_option maxHeartbeats 8000000 in
theorem known_any (w : World) : Calls Tryd.prog 6 #[] w fun e w' => e = .returned (.bool true) ∧ Below w.heap.size w w' := by
  have CI : Hid (∀ W : World, Calls Tryd.prog 32 #[] W fun e w' => e = .returned (.agg #[.int .i64 2, .int .i64 2, .int .i64 3, .int .i64 2]) ∧ Below W.heap.size W w') := Lib.hid circle_any
  have PT : Hid (∀ W : World, Calls Tryd.prog 33 #[] W fun e w' => e = .returned (.agg #[.int .i64 2, .int .i64 2, .int .i64 2, .int .i64 3]) ∧ Below W.heap.size W w') := Lib.hid point_any
  have F1 : Hid (∀ W : World, Calls Tryd.prog 12 #[.agg #[.int .i64 2, .int .i64 2, .int .i64 3, .int .i64 2], .int .i64 1] W fun e w' => e = .returned (.tuple #[.agg #[.int .i64 24, .int .i64 1], .int .i64 0]) ∧ Below W.heap.size W w') := Lib.hid (fun W => full_at (q := (2, 2, 3, 2)) (v := 1) (r := (24, 1, 0)) kn_f1 W)
  have F7 : Hid (∀ W : World, Calls Tryd.prog 12 #[.agg #[.int .i64 2, .int .i64 2, .int .i64 2, .int .i64 3], .int .i64 7] W fun e w' => e = .returned (.tuple #[.agg #[.int .i64 1, .int .i64 4], .int .i64 0]) ∧ Below W.heap.size W w') := Lib.hid (fun W => full_at (q := (2, 2, 2, 3)) (v := 7) (r := (1, 4, 0)) kn_f7 W)
  have LV : Hid (∀ W : World, Calls Tryd.prog 16 #[.agg #[.int .i64 3, .int .i64 3, .int .i64 3, .int .i64 3]] W fun e w' => ∃ p c, e = .returned (.tuple #[.slice p 4 c, .int .i64 0]) ∧ SlP w' 1 p 4 c (ints [4, 3, 2, 1]) ∧ Below W.heap.size W w') := Lib.hid (fun W => lvl_at (q := (3, 3, 3, 3)) (zs := [4, 3, 2, 1]) kn_l3.1 kn_l3.2 W)
  have A5 : Hid (∀ W : World, Calls Tryd.prog 14 #[.agg #[.int .i64 2, .int .i64 2, .int .i64 3, .int .i64 2], .int .i64 5] W fun e w' => e = .returned (.tuple #[.int .i64 3, .int .i64 0]) ∧ Below W.heap.size W w') := Lib.hid (fun W => above_at kn_a5.1 kn_a5.2 W)
  have A3 : Hid (∀ W : World, Calls Tryd.prog 14 #[.agg #[.int .i64 2, .int .i64 2, .int .i64 3, .int .i64 2], .int .i64 3] W fun e w' => e = .returned (.tuple #[.int .i64 0, .int .i64 0]) ∧ Below W.heap.size W w') := Lib.hid (fun W => above_at kn_a3.1 kn_a3.2 W)
  have P1 : Hid (∀ W : World, Calls Tryd.prog 26 #[.string ⟨#[50, 50, 79]⟩] W fun e w' => e = .returned (.tuple #[.agg #[.int .i64 0, .int .i64 0, .int .i64 0, .int .i64 0], .int .i64 3]) ∧ Below W.heap.size W w') := Lib.hid (fun W => parse_at (s := ⟨#[50, 50, 79]⟩) (q := (0, 0, 0, 0)) (e0 := 3) (by decide) kn_p1.1 kn_p1.2 W)
  have P2 : Hid (∀ W : World, Calls Tryd.prog 26 #[.string ⟨#[79, 46, 46]⟩] W fun e w' => e = .returned (.tuple #[.agg #[.int .i64 0, .int .i64 0, .int .i64 0, .int .i64 0], .int .i64 3]) ∧ Below W.heap.size W w') := Lib.hid (fun W => parse_at (s := ⟨#[79, 46, 46]⟩) (q := (0, 0, 0, 0)) (e0 := 3) (by decide) kn_p2.1 kn_p2.2 W)
  have NU : Hid (∀ W : World, Calls Tryd.prog 19 #[.agg #[.int .i64 2, .int .i64 2, .int .i64 3, .int .i64 2]] W fun e w' => e = .returned (.tuple #[.int .i64 2, .int .i64 0]) ∧ Below W.heap.size W w') := Lib.hid (fun W => number_at (q := (2, 2, 3, 2)) (n := 2) (e0 := 0) kn_nu.1 kn_nu.2 W)
  have OF : Hid (∀ W : World, Calls Tryd.prog 28 #[.int .i64 16] W fun e w' => e = .returned (.tuple #[.agg #[.int .i64 0, .int .i64 0, .int .i64 0, .int .i64 0], .int .i64 2]) ∧ Below W.heap.size W w') := Lib.hid (fun W => of_at (n := 16) (q := (0, 0, 0, 0)) (e0 := 2) kn_of.1 kn_of.2 W)
  have T4 : Hid (∀ W : World, Calls Tryd.prog 34 #[.int .i64 4, .int .i64 1] W fun e w' => e = .returned (.agg #[.int .i64 4, .int .i64 1]) ∧ Below W.heap.size W w') := Lib.hid (fun W => t_at 4 1 4 1 W kn_g41 (by decide) (by decide))
  have FI : Hid (∀ W : World, Calls Tryd.prog 30 #[.agg #[.int .i64 2, .int .i64 2, .int .i64 3, .int .i64 2], .agg #[.int .i64 4, .int .i64 1]] W fun e w' => ∃ p c, e = .returned (.tuple #[.slice p 0 c, .int .i64 0]) ∧ SlP w' 1 p 0 c (ints []) ∧ Below W.heap.size W w') := Lib.hid (fun W => fit_at (q := (2, 2, 3, 2)) (n := 4) (d := 1) (zs := []) kn_v4.1 kn_v4.2 W)
  have T24 : Hid (∀ W : World, Calls Tryd.prog 34 #[.int .i64 24, .int .i64 1] W fun e w' => e = .returned (.agg #[.int .i64 24, .int .i64 1]) ∧ Below W.heap.size W w') := Lib.hid (fun W => t_at 24 1 24 1 W kn_g24 (by decide) (by decide))
  have T14 : Hid (∀ W : World, Calls Tryd.prog 34 #[.int .i64 1, .int .i64 4] W fun e w' => e = .returned (.agg #[.int .i64 1, .int .i64 4]) ∧ Below W.heap.size W w') := Lib.hid (fun W => t_at 1 4 1 4 W kn_g14 (by decide) (by decide))
  have S4 : Hid (∀ q c W, SlP W 1 q 4 c (ints [4, 3, 2, 1]) → Calls Tryd.prog 18 #[.slice q 4 c, .slice (some ⟨W.heap.size, 0, none⟩) 4 4] (W.alloc (.cells #[.int .i64 4, .int .i64 3, .int .i64 2, .int .i64 1] 3)) fun e w' => e = .returned (.bool true) ∧ Below W.heap.size W w') := Lib.hid (fun q c W h => same_at [4, 3, 2, 1] (by decide) q c W h)
  have AW := Lib.hid awake_any
  have R3 : Hid (∀ W : World, Calls Tryd.prog 35 #[.string ⟨#[50, 51, 67]⟩, .agg #[.int .i64 2, .int .i64 3, .int .i64 2, .int .i64 2]] W fun e w' => e = .returned (.bool true) ∧ Below W.heap.size W w') := Lib.hid (fun W => reads_any ⟨#[50, 51, 67]⟩ (by decide) (2, 3, 2, 2) kn_p3.1 kn_p3.2 W)
  have R4 : Hid (∀ W : World, Calls Tryd.prog 35 #[.string ⟨#[51, 50, 67, 46]⟩, .agg #[.int .i64 3, .int .i64 2, .int .i64 2, .int .i64 3]] W fun e w' => e = .returned (.bool true) ∧ Below W.heap.size W w') := Lib.hid (fun W => reads_any ⟨#[51, 50, 67, 46]⟩ (by decide) (3, 2, 2, 3) kn_p4.1 kn_p4.2 W)
  go_enter Tryd.func6, Tryd.ntmps6
  go_wp2_with fail
  refine (CI.out _).mono ?_
  rintro e w1 ⟨rfl, hb⟩
  have hB := Lib.hid hb
  have hbX := hb
  clear hb hbX
  go_wp2_with fail
  refine (F1.out _).mono ?_
  rintro e w2 ⟨rfl, hb⟩
  replace hB := Lib.hid (w_alloc (w_below hB.out hb) (.cells #[.int .i64 24, .int .i64 1] 28))
  have hbX := w_alloc hb (.cells #[.int .i64 24, .int .i64 1] 28)
  have TA := Lib.hid (Own2.made w2 24 1 28)
  clear hb hbX F1
  go_wp2_with fail
  refine (PT.out _).mono ?_
  rintro e w3 ⟨rfl, hb⟩
  replace hB := Lib.hid (w_below hB.out hb)
  have hbX := hb
  replace TA := Lib.hid (TA.out.later hbX)
  clear hb hbX PT
  go_wp2_with fail
  refine (F7.out _).mono ?_
  rintro e w4 ⟨rfl, hb⟩
  replace hB := Lib.hid (w_alloc (w_below hB.out hb) (.cells #[.int .i64 1, .int .i64 4] 28))
  have hbX := w_alloc hb (.cells #[.int .i64 1, .int .i64 4] 28)
  replace TA := Lib.hid (TA.out.later hbX)
  have TB := Lib.hid (Own2.made w4 1 4 28)
  clear hb hbX F7
  go_wp2_with fail
  refine (LV.out _).mono ?_
  rintro e w5 ⟨q5, c5, rfl, hs, hb⟩
  replace hB := Lib.hid (w_below hB.out hb)
  have hbX := hb
  replace TA := Lib.hid (TA.out.later hbX)
  replace TB := Lib.hid (TB.out.later hbX)
  have L5 := Lib.hid hs
  clear hs
  clear hb hbX LV
  go_wp2_with fail
  refine (CI.out _).mono ?_
  rintro e w6 ⟨rfl, hb⟩
  replace hB := Lib.hid (w_below hB.out hb)
  have hbX := hb
  replace TA := Lib.hid (TA.out.later hbX)
  replace TB := Lib.hid (TB.out.later hbX)
  replace L5 := Lib.hid (L5.out.later hbX)
  clear hb hbX
  go_wp2_with fail
  refine (A5.out _).mono ?_
  rintro e w7 ⟨rfl, hb⟩
  replace hB := Lib.hid (w_below hB.out hb)
  have hbX := hb
  replace TA := Lib.hid (TA.out.later hbX)
  replace TB := Lib.hid (TB.out.later hbX)
  replace L5 := Lib.hid (L5.out.later hbX)
  clear hb hbX A5
  go_wp2_with fail
  refine (CI.out _).mono ?_
  rintro e w8 ⟨rfl, hb⟩
  replace hB := Lib.hid (w_below hB.out hb)
  have hbX := hb
  replace TA := Lib.hid (TA.out.later hbX)
  replace TB := Lib.hid (TB.out.later hbX)
  replace L5 := Lib.hid (L5.out.later hbX)
  clear hb hbX
  go_wp2_with fail
  refine (A3.out _).mono ?_
  rintro e w9 ⟨rfl, hb⟩
  replace hB := Lib.hid (w_below hB.out hb)
  have hbX := hb
  replace TA := Lib.hid (TA.out.later hbX)
  replace TB := Lib.hid (TB.out.later hbX)
  replace L5 := Lib.hid (L5.out.later hbX)
  clear hb hbX A3
  go_wp2_with fail
  refine (P1.out _).mono ?_
  rintro e w10 ⟨rfl, hb⟩
  replace hB := Lib.hid (w_alloc (w_below hB.out hb) (mO (0, 0, 0, 0)))
  have hbX := w_alloc hb (mO (0, 0, 0, 0))
  replace TA := Lib.hid (TA.out.later hbX)
  replace TB := Lib.hid (TB.out.later hbX)
  replace L5 := Lib.hid (L5.out.later hbX)
  clear hb hbX P1
  go_wp2_with fail
  refine (P2.out _).mono ?_
  rintro e w11 ⟨rfl, hb⟩
  replace hB := Lib.hid (w_alloc (w_below hB.out hb) (mO (0, 0, 0, 0)))
  have hbX := w_alloc hb (mO (0, 0, 0, 0))
  replace TA := Lib.hid (TA.out.later hbX)
  replace TB := Lib.hid (TB.out.later hbX)
  replace L5 := Lib.hid (L5.out.later hbX)
  clear hb hbX P2
  go_wp2_with fail
  refine (CI.out _).mono ?_
  rintro e w12 ⟨rfl, hb⟩
  replace hB := Lib.hid (w_below hB.out hb)
  have hbX := hb
  replace TA := Lib.hid (TA.out.later hbX)
  replace TB := Lib.hid (TB.out.later hbX)
  replace L5 := Lib.hid (L5.out.later hbX)
  clear hb hbX
  go_wp2_with fail
  refine (NU.out _).mono ?_
  rintro e w13 ⟨rfl, hb⟩
  replace hB := Lib.hid (w_below hB.out hb)
  have hbX := hb
  replace TA := Lib.hid (TA.out.later hbX)
  replace TB := Lib.hid (TB.out.later hbX)
  replace L5 := Lib.hid (L5.out.later hbX)
  clear hb hbX NU
  go_wp2_with fail
  refine (OF.out _).mono ?_
  rintro e w14 ⟨rfl, hb⟩
  replace hB := Lib.hid (w_alloc (w_below hB.out hb) (mO (0, 0, 0, 0)))
  have hbX := w_alloc hb (mO (0, 0, 0, 0))
  replace TA := Lib.hid (TA.out.later hbX)
  replace TB := Lib.hid (TB.out.later hbX)
  replace L5 := Lib.hid (L5.out.later hbX)
  clear hb hbX OF
  go_wp2_with fail
  refine (CI.out _).mono ?_
  rintro e w15 ⟨rfl, hb⟩
  replace hB := Lib.hid (w_below hB.out hb)
  have hbX := hb
  replace TA := Lib.hid (TA.out.later hbX)
  replace TB := Lib.hid (TB.out.later hbX)
  replace L5 := Lib.hid (L5.out.later hbX)
  clear hb hbX CI
  go_wp2_with fail
  refine (T4.out _).mono ?_
  rintro e w16 ⟨rfl, hb⟩
  replace hB := Lib.hid (w_below hB.out hb)
  have hbX := hb
  replace TA := Lib.hid (TA.out.later hbX)
  replace TB := Lib.hid (TB.out.later hbX)
  replace L5 := Lib.hid (L5.out.later hbX)
  clear hb hbX T4
  go_wp2_with fail
  refine (FI.out _).mono ?_
  rintro e w17 ⟨q19, c19, rfl, hs, hb⟩
  replace hB := Lib.hid (w_below hB.out hb)
  have hbX := hb
  replace TA := Lib.hid (TA.out.later hbX)
  replace TB := Lib.hid (TB.out.later hbX)
  replace L5 := Lib.hid (L5.out.later hbX)
  have L19 := Lib.hid hs
  clear hs
  clear hb hbX FI
  go_wp2_with fail
  go_cut [110] (fun s110 wx => s110 = .bool false ∧ Hid (Below w.heap.size w wx))
  case first =>
    have FX := Lib.hid (show _ ∧ _ ∧ _ ∧ _ from ⟨hB.out.drew, TA.out.later (w_refl _).drew, TB.out.later (w_refl _).drew, L5.out.later (w_refl _).drew⟩)
    clear hB TA TB L5 L19
    go_region_held3 (fun W => W.cell? ⟨w2.heap.size, 0, none⟩ = some (.int .i64 24) ∧ W.cell? ⟨w2.heap.size, 1, none⟩ = some (.int .i64 1) ∧ W.cell? ⟨w4.heap.size, 0, none⟩ = some (.int .i64 1) ∧ W.cell? ⟨w4.heap.size, 1, none⟩ = some (.int .i64 4))
      (first
        | exact ⟨FX.out.2.1.c0, FX.out.2.1.c1, FX.out.2.2.1.c0, FX.out.2.2.1.c1⟩
        | exact ⟨(FX.out.2.1.later (w_alloc (w_refl _) _)).c0, (FX.out.2.1.later (w_alloc (w_refl _) _)).c1, (FX.out.2.2.1.later (w_alloc (w_refl _) _)).c0, (FX.out.2.2.1.later (w_alloc (w_refl _) _)).c1⟩
        | fail)
      (first
        | (go_at_call 34; refine (T24.out _).mono ?_; rintro e wn ⟨rfl, hb⟩; replace FX := Lib.hid (show _ ∧ _ ∧ _ ∧ _ from ⟨w_below FX.out.1 hb, FX.out.2.1.later hb, FX.out.2.2.1.later hb, FX.out.2.2.2.later hb⟩); clear hb T24)
        | (go_at_call 34; refine (T14.out _).mono ?_; rintro e wn ⟨rfl, hb⟩; replace FX := Lib.hid (show _ ∧ _ ∧ _ ∧ _ from ⟨w_below FX.out.1 hb, FX.out.2.1.later hb, FX.out.2.2.1.later hb, FX.out.2.2.2.later hb⟩); clear hb T14)
        | (go_at_call 18; refine (S4.out _ _ _ FX.out.2.2.2).mono ?_; rintro e wn ⟨rfl, hb⟩; replace FX := Lib.hid (show _ ∧ _ ∧ _ ∧ _ from ⟨w_below FX.out.1 hb, FX.out.2.1.later hb, FX.out.2.2.1.later hb, FX.out.2.2.2.later hb⟩); clear hb S4)
        | fail)
    all_goals
      go_wp2_with fail
      go_meet
      exact ⟨rfl, Lib.hid FX.out.1⟩
  case rest =>
    obtain ⟨rfl, hB1⟩ := hcut
    clear hB TA TB L5 L19 T24 T14 S4
    go_wp2_with fail
    refine (AW.out _).mono ?_
    rintro e w30 ⟨rfl, hb⟩
    replace hB1 := Lib.hid (w_below hB1.out hb)
    clear hb AW
    go_wp2_with fail
    refine (R3.out _).mono ?_
    rintro e w31 ⟨rfl, hb⟩
    replace hB1 := Lib.hid (w_below hB1.out hb)
    clear hb R3
    go_wp2_with fail
    refine (R4.out _).mono ?_
    rintro e w32 ⟨rfl, hb⟩
    replace hB1 := Lib.hid (w_below hB1.out hb)
    clear hb R4
    go_wp2_with fail
    go_ret
    exact ⟨rfl, hB1.out⟩

end Go.Proofs.YtflgmeajkflobaaDoor
