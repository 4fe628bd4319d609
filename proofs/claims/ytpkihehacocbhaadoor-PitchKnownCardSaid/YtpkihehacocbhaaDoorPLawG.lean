/- The law on the chapter's examples of pitches. -/
import Derived.Test.YtpkihehacocbhaaDoorPLawF
namespace Go.Proofs.YtpkihehacocbhaaDoor
open Go.RowKit

theorem no_fin (l : List UInt8) (h : ∀ n : Fin 63, ∀ k : Fin 3, l ≠ textL (atP n.val ((k.val : Int) - 1))) : ∀ n : Nat, n < 63 → ∀ k : Int, -1 ≤ k → k ≤ 1 → (⟨l.toArray⟩ : ByteArray) ≠ ⟨(textL (atP n k)).toArray⟩ := by
  intro n hn k h1 h2 e
  have e2 := bytes_inj e
  have := h ⟨n, hn⟩ ⟨(k + 1).toNat, by omega⟩
  apply this
  simp only
  rw [show (((k + 1).toNat : Nat) : Int) - 1 = k by omega]
  exact e2
theorem no_1 : ∀ n : Nat, n < 63 → ∀ k : Int, -1 ≤ k → k ≤ 1 → (⟨#[104, 51]⟩ : ByteArray) ≠ ⟨(textL (atP n k)).toArray⟩ := no_fin [104, 51] (by decide +kernel)
theorem no_2 : ∀ n : Nat, n < 63 → ∀ k : Int, -1 ≤ k → k ≤ 1 → (⟨#[99, 35]⟩ : ByteArray) ≠ ⟨(textL (atP n k)).toArray⟩ := no_fin [99, 35] (by decide +kernel)
theorem no_3 : ∀ n : Nat, n < 63 → ∀ k : Int, -1 ≤ k → k ≤ 1 → (⟨#[99, 57]⟩ : ByteArray) ≠ ⟨(textL (atP n k)).toArray⟩ := no_fin [99, 57] (by decide +kernel)

set_option maxRecDepth 100000 in
set_option maxHeartbeats 4000000 in
theorem pknown_any (w : World) (tab : Tab w) : Calls Tryd.prog 3 #[] w fun e w' => e = .returned (.bool true) ∧ Below w.heap.size w w' := by
  have TB := Lib.hid (fun W (b : Below w.heap.size w W) => tab.later b)
  clear tab
  have KN := Lib.hid (fun W => wnumber_any (0, 4, 0) W)
  rw [show numV (0, 4, 0) = (28, 0) by decide] at KN
  have KH := Lib.hid (fun W (b : Below w.heap.size w W) => wheight_any (0, 4, 0) W (TB.out W b))
  rw [show heiV (0, 4, 0) = (48, 0) by decide] at KH
  have KL := Lib.hid (fun W (b : Below w.heap.size w W) => wheight_any (0, 0, -1) W (TB.out W b))
  rw [show heiV (0, 0, -1) = (-1, 0) by decide] at KL
  have O1 := Lib.hid (fun W => wof_any 30 (-1) W (by decide) (by decide))
  unfold OfPost at O1
  rw [show ofV 30 (-1) = ((2, 4, -1), 0) by decide] at O1
  have O2 := Lib.hid (fun W => wof_any 63 0 W (by decide) (by decide))
  unfold OfPost at O2
  rw [show ofV 63 0 = ((0, 0, 0), 2) by decide] at O2
  have O3 := Lib.hid (fun W => wof_any 3 2 W (by decide) (by decide))
  unfold OfPost at O3
  rw [show ofV 3 2 = ((0, 0, 0), 2) by decide] at O3
  have M1 := Lib.hid (fun W => wmove_any (3, 3, 1) 2 W (by decide) (by decide))
  unfold OfPost at M1
  rw [show moveV (3, 3, 1) 2 = ((5, 3, 1), 0) by decide] at M1
  have R1 := Lib.hid (fun W => wmirror_any (1, 4, 0) (4, 4, 0) W)
  unfold OfPost at R1
  rw [show mirV (1, 4, 0) (4, 4, 0) = ((0, 5, 0), 0) by decide] at R1
  have R2 := Lib.hid (fun W => wmirror_any (2, 4, -1) (4, 4, 0) W)
  unfold OfPost at R2
  rw [show mirV (2, 4, -1) (4, 4, 0) = ((6, 4, 1), 0) by decide] at R2
  have M2 := Lib.hid (fun W => wmove_any (6, 8, 0) 1 W (by decide) (by decide))
  unfold OfPost at M2
  rw [show moveV (6, 8, 0) 1 = ((0, 0, 0), 2) by decide] at M2
  have T1 := Lib.hid (fun W (b : Below w.heap.size w W) => wbetween_any (0, 4, 0) (4, 4, 0) W (TB.out W b))
  unfold BetPost at T1
  rw [show betV (0, 4, 0) (4, 4, 0) = ((4, 7), 0) by decide] at T1
  have T2 := Lib.hid (fun W (b : Below w.heap.size w W) => wbetween_any (2, 4, 0) (0, 4, 0) W (TB.out W b))
  unfold BetPost at T2
  rw [show betV (2, 4, 0) (0, 4, 0) = ((-2, -4), 0) by decide] at T2
  have I1 := Lib.hid (fun W (b : Below w.heap.size w W) => is_any (2, 4, -1) (by decide) ⟨#[101, 98, 52]⟩ (by decide +kernel) W (TB.out W b))
  have I2 := Lib.hid (fun W (b : Below w.heap.size w W) => is_any (5, 3, 1) (by decide) ⟨#[97, 35, 51]⟩ (by decide +kernel) W (TB.out W b))
  have I3 := Lib.hid (fun W (b : Below w.heap.size w W) => is_any (0, 5, 0) (by decide) ⟨#[99, 53]⟩ (by decide +kernel) W (TB.out W b))
  have I4 := Lib.hid (fun W (b : Below w.heap.size w W) => is_any (6, 4, 1) (by decide) ⟨#[98, 35, 52]⟩ (by decide +kernel) W (TB.out W b))
  have E1 := Lib.hid (fun W (b : Below w.heap.size w W) => (wparse_any ⟨#[104, 51]⟩ W (TB.out W b) (by decide)).mono fun e w' ⟨r, hr, he, hb⟩ => (show e = Ending.returned (.tuple #[pv (0, 0, 0), .int .i64 3]) ∧ Below W.heap.size W w' from by rw [hr.one (parse_none no_1)] at he; exact ⟨he, hb⟩))
  have E2 := Lib.hid (fun W (b : Below w.heap.size w W) => (wparse_any ⟨#[99, 35]⟩ W (TB.out W b) (by decide)).mono fun e w' ⟨r, hr, he, hb⟩ => (show e = Ending.returned (.tuple #[pv (0, 0, 0), .int .i64 3]) ∧ Below W.heap.size W w' from by rw [hr.one (parse_none no_2)] at he; exact ⟨he, hb⟩))
  have E3 := Lib.hid (fun W (b : Below w.heap.size w W) => (wparse_any ⟨#[99, 57]⟩ W (TB.out W b) (by decide)).mono fun e w' ⟨r, hr, he, hb⟩ => (show e = Ending.returned (.tuple #[pv (0, 0, 0), .int .i64 3]) ∧ Below W.heap.size W w' from by rw [hr.one (parse_none no_3)] at he; exact ⟨he, hb⟩))
  have RD := Lib.hid (fun W (b : Below w.heap.size w W) => reads_any (6, 3, 0) (by decide) ⟨#[98, 51]⟩ (by decide +kernel) W (TB.out W b))
  have WK := Lib.hid (fun W (b : Below w.heap.size w W) => pwake_any W (TB.out W b))
  go_enter Tryd.func3, Tryd.ntmps3
  have BX := Lib.hid (show Cell3 _ w.heap.size (0, 4, 0) ∧ Cell3 _ (w.heap.size + 1) (4, 4, 0) from ⟨(Cell3.made w (0, 4, 0) 23).later (w_alloc (w_refl _) (pO (4, 4, 0))), by
    have := Cell3.made (w.alloc (pO (0, 4, 0))) (4, 4, 0) 23
    rwa [World.size_alloc] at this⟩)
  have CC0 := Lib.hid BX.out.1
  have GG0 := Lib.hid BX.out.2
  have B0 := Lib.hid (w_alloc (w_alloc (w_refl w) (pO (0, 4, 0))) (pO (4, 4, 0)))
  clear BX
  obtain ⟨_, cca, ccb, ccc, ccf, ccg, cch⟩ := CC0.out
  obtain ⟨_, gga, ggb, ggc, ggf, ggg, ggh⟩ := GG0.out
  simp only at cca ccb ccc gga ggb ggc
  go_wp2_with fail
  refine (KN.out _).mono ?_
  rintro e w1 ⟨rfl, hb⟩
  clear cca ccb ccc ccf ccg cch
  clear gga ggb ggc ggf ggg ggh
  have hw := hb
  have CC1 := Lib.hid (CC0.out.later hw)
  have GG1 := Lib.hid (GG0.out.later hw)
  have B1 := Lib.hid (w_below B0.out hw)
  clear hw hb
  obtain ⟨_, cca, ccb, ccc, ccf, ccg, cch⟩ := CC1.out
  obtain ⟨_, gga, ggb, ggc, ggf, ggg, ggh⟩ := GG1.out
  simp only at cca ccb ccc gga ggb ggc
  go_wp2_with fail
  refine (KH.out _ B1.out).mono ?_
  rintro e w2 ⟨rfl, hb⟩
  clear cca ccb ccc ccf ccg cch
  clear gga ggb ggc ggf ggg ggh
  have hw := hb
  have CC2 := Lib.hid (CC1.out.later hw)
  have GG2 := Lib.hid (GG1.out.later hw)
  have B2 := Lib.hid (w_below B1.out hw)
  clear hw hb
  obtain ⟨_, cca, ccb, ccc, ccf, ccg, cch⟩ := CC2.out
  obtain ⟨_, gga, ggb, ggc, ggf, ggg, ggh⟩ := GG2.out
  simp only at cca ccb ccc gga ggb ggc
  go_wp2_with fail
  refine (KL.out _ B2.out).mono ?_
  rintro e w3 ⟨rfl, hb⟩
  clear cca ccb ccc ccf ccg cch
  clear gga ggb ggc ggf ggg ggh
  have hw := hb
  have CC3 := Lib.hid (CC2.out.later hw)
  have GG3 := Lib.hid (GG2.out.later hw)
  have B3 := Lib.hid (w_below B2.out hw)
  clear hw hb
  obtain ⟨_, cca, ccb, ccc, ccf, ccg, cch⟩ := CC3.out
  obtain ⟨_, gga, ggb, ggc, ggf, ggg, ggh⟩ := GG3.out
  simp only at cca ccb ccc gga ggb ggc
  go_wp2_with fail
  refine (O1.out _).mono ?_
  rintro e w4 ⟨rfl, hb⟩
  clear cca ccb ccc ccf ccg cch
  clear gga ggb ggc ggf ggg ggh
  have hxx := (GG3.out.later hb).inb
  have hw := w_below hb (w_alloc (w_refl w4) (pO (2, 4, -1)))
  have CC4 := Lib.hid (CC3.out.later hw)
  have GG4 := Lib.hid (GG3.out.later hw)
  have B4 := Lib.hid (w_below B3.out hw)
  have XX4 := Lib.hid (Cell3.made w4 (2, 4, -1) 23)
  clear hw hb
  obtain ⟨_, cca, ccb, ccc, ccf, ccg, cch⟩ := CC4.out
  obtain ⟨_, gga, ggb, ggc, ggf, ggg, ggh⟩ := GG4.out
  obtain ⟨_, xxa, xxb, xxc, xxf, xxg, xxh⟩ := XX4.out
  simp only at cca ccb ccc gga ggb ggc xxa xxb xxc
  go_wp2_with fail
  refine (O2.out _).mono ?_
  rintro e w5 ⟨rfl, hb⟩
  clear cca ccb ccc ccf ccg cch
  clear gga ggb ggc ggf ggg ggh
  clear xxa xxb xxc xxf xxg xxh
  have hw := hb
  have CC5 := Lib.hid (CC4.out.later hw)
  have GG5 := Lib.hid (GG4.out.later hw)
  have XX5 := Lib.hid (XX4.out.later hw)
  have B5 := Lib.hid (w_below B4.out hw)
  clear hw hb
  obtain ⟨_, cca, ccb, ccc, ccf, ccg, cch⟩ := CC5.out
  obtain ⟨_, gga, ggb, ggc, ggf, ggg, ggh⟩ := GG5.out
  obtain ⟨_, xxa, xxb, xxc, xxf, xxg, xxh⟩ := XX5.out
  simp only at cca ccb ccc gga ggb ggc xxa xxb xxc
  go_wp2_with fail
  refine (O3.out _).mono ?_
  rintro e w6 ⟨rfl, hb⟩
  clear cca ccb ccc ccf ccg cch
  clear gga ggb ggc ggf ggg ggh
  clear xxa xxb xxc xxf xxg xxh
  have hw := hb
  have CC6 := Lib.hid (CC5.out.later hw)
  have GG6 := Lib.hid (GG5.out.later hw)
  have XX6 := Lib.hid (XX5.out.later hw)
  have B6 := Lib.hid (w_below B5.out hw)
  clear hw hb
  obtain ⟨_, cca, ccb, ccc, ccf, ccg, cch⟩ := CC6.out
  obtain ⟨_, gga, ggb, ggc, ggf, ggg, ggh⟩ := GG6.out
  obtain ⟨_, xxa, xxb, xxc, xxf, xxg, xxh⟩ := XX6.out
  simp only at cca ccb ccc gga ggb ggc xxa xxb xxc
  go_wp2_with fail
  refine (I1.out _ B6.out).mono ?_
  rintro e w7 ⟨rfl, hb⟩
  clear cca ccb ccc ccf ccg cch
  clear gga ggb ggc ggf ggg ggh
  clear xxa xxb xxc xxf xxg xxh
  have hw := hb
  have CC7 := Lib.hid (CC6.out.later hw)
  have GG7 := Lib.hid (GG6.out.later hw)
  have XX7 := Lib.hid (XX6.out.later hw)
  have B7 := Lib.hid (w_below B6.out hw)
  clear hw hb
  obtain ⟨_, cca, ccb, ccc, ccf, ccg, cch⟩ := CC7.out
  obtain ⟨_, gga, ggb, ggc, ggf, ggg, ggh⟩ := GG7.out
  obtain ⟨_, xxa, xxb, xxc, xxf, xxg, xxh⟩ := XX7.out
  simp only at cca ccb ccc gga ggb ggc xxa xxb xxc
  go_wp2_with fail
  refine (M1.out _).mono ?_
  rintro e w8 ⟨rfl, hb⟩
  clear cca ccb ccc ccf ccg cch
  clear gga ggb ggc ggf ggg ggh
  clear xxa xxb xxc xxf xxg xxh
  have hw := hb
  have CC8 := Lib.hid (CC7.out.later hw)
  have GG8 := Lib.hid (GG7.out.later hw)
  have XX8 := Lib.hid (XX7.out.later hw)
  have B8 := Lib.hid (w_below B7.out hw)
  clear hw hb
  obtain ⟨_, oa, ob, oc, of, og, oh⟩ := XX8.out
  simp only at oa ob oc
  have B8p := Lib.hid (w_set (w_set (w_set B8.out (show w.heap.size ≤ w4.heap.size by omega) _) (show w.heap.size ≤ w4.heap.size by omega) _) (show w.heap.size ≤ w4.heap.size by omega) _ : Below w.heap.size w (put3 w8 w4.heap.size (5, 3, 1)))
  have CC8p := Lib.hid (CC8.out.other (c := w4.heap.size) (5, 3, 1) (by omega))
  have GG8p := Lib.hid (GG8.out.other (c := w4.heap.size) (5, 3, 1) (by omega))
  have XX8p := Lib.hid (XX8.out.put (5, 3, 1))
  obtain ⟨_, cca, ccb, ccc, ccf, ccg, cch⟩ := CC8p.out
  obtain ⟨_, gga, ggb, ggc, ggf, ggg, ggh⟩ := GG8p.out
  obtain ⟨_, xxa, xxb, xxc, xxf, xxg, xxh⟩ := XX8p.out
  simp only at cca ccb ccc gga ggb ggc xxa xxb xxc
  go_wp2_with fail
  refine (R1.out _).mono ?_
  rintro e w9 ⟨rfl, hb⟩
  clear cca ccb ccc ccf ccg cch
  clear gga ggb ggc ggf ggg ggh
  clear xxa xxb xxc xxf xxg xxh
  have hw := w_below hb (w_alloc (w_refl w9) (pO (0, 5, 0)))
  have CC9 := Lib.hid (CC8p.out.later hw)
  have GG9 := Lib.hid (GG8p.out.later hw)
  have XX9 := Lib.hid (XX8p.out.later hw)
  have B9 := Lib.hid (w_below B8p.out hw)
  have YY9 := Lib.hid (Cell3.made w9 (0, 5, 0) 23)
  clear hw hb
  obtain ⟨_, cca, ccb, ccc, ccf, ccg, cch⟩ := CC9.out
  obtain ⟨_, gga, ggb, ggc, ggf, ggg, ggh⟩ := GG9.out
  obtain ⟨_, xxa, xxb, xxc, xxf, xxg, xxh⟩ := XX9.out
  obtain ⟨_, yya, yyb, yyc, yyf, yyg, yyh⟩ := YY9.out
  simp only at cca ccb ccc gga ggb ggc xxa xxb xxc yya yyb yyc
  clear oa ob oc of og oh
  go_wp2_with fail
  refine (R2.out _).mono ?_
  rintro e w10 ⟨rfl, hb⟩
  clear cca ccb ccc ccf ccg cch
  clear gga ggb ggc ggf ggg ggh
  clear xxa xxb xxc xxf xxg xxh
  clear yya yyb yyc yyf yyg yyh
  have hw := w_below hb (w_alloc (w_refl w10) (pO (6, 4, 1)))
  have CC10 := Lib.hid (CC9.out.later hw)
  have GG10 := Lib.hid (GG9.out.later hw)
  have XX10 := Lib.hid (XX9.out.later hw)
  have YY10 := Lib.hid (YY9.out.later hw)
  have B10 := Lib.hid (w_below B9.out hw)
  have ZZ10 := Lib.hid (Cell3.made w10 (6, 4, 1) 23)
  clear hw hb
  obtain ⟨_, cca, ccb, ccc, ccf, ccg, cch⟩ := CC10.out
  obtain ⟨_, gga, ggb, ggc, ggf, ggg, ggh⟩ := GG10.out
  obtain ⟨_, xxa, xxb, xxc, xxf, xxg, xxh⟩ := XX10.out
  obtain ⟨_, yya, yyb, yyc, yyf, yyg, yyh⟩ := YY10.out
  obtain ⟨_, zza, zzb, zzc, zzf, zzg, zzh⟩ := ZZ10.out
  simp only at cca ccb ccc gga ggb ggc xxa xxb xxc yya yyb yyc zza zzb zzc
  go_wp2_with fail
  refine (I2.out _ B10.out).mono ?_
  rintro e w11 ⟨rfl, hb⟩
  clear cca ccb ccc ccf ccg cch
  clear gga ggb ggc ggf ggg ggh
  clear xxa xxb xxc xxf xxg xxh
  clear yya yyb yyc yyf yyg yyh
  clear zza zzb zzc zzf zzg zzh
  have hw := hb
  have CC11 := Lib.hid (CC10.out.later hw)
  have GG11 := Lib.hid (GG10.out.later hw)
  have XX11 := Lib.hid (XX10.out.later hw)
  have YY11 := Lib.hid (YY10.out.later hw)
  have ZZ11 := Lib.hid (ZZ10.out.later hw)
  have B11 := Lib.hid (w_below B10.out hw)
  clear hw hb
  obtain ⟨_, cca, ccb, ccc, ccf, ccg, cch⟩ := CC11.out
  obtain ⟨_, gga, ggb, ggc, ggf, ggg, ggh⟩ := GG11.out
  obtain ⟨_, xxa, xxb, xxc, xxf, xxg, xxh⟩ := XX11.out
  obtain ⟨_, yya, yyb, yyc, yyf, yyg, yyh⟩ := YY11.out
  obtain ⟨_, zza, zzb, zzc, zzf, zzg, zzh⟩ := ZZ11.out
  simp only at cca ccb ccc gga ggb ggc xxa xxb xxc yya yyb yyc zza zzb zzc
  go_wp2_with fail
  refine (I3.out _ B11.out).mono ?_
  rintro e w12 ⟨rfl, hb⟩
  clear cca ccb ccc ccf ccg cch
  clear gga ggb ggc ggf ggg ggh
  clear xxa xxb xxc xxf xxg xxh
  clear yya yyb yyc yyf yyg yyh
  clear zza zzb zzc zzf zzg zzh
  have hw := hb
  have CC12 := Lib.hid (CC11.out.later hw)
  have GG12 := Lib.hid (GG11.out.later hw)
  have XX12 := Lib.hid (XX11.out.later hw)
  have YY12 := Lib.hid (YY11.out.later hw)
  have ZZ12 := Lib.hid (ZZ11.out.later hw)
  have B12 := Lib.hid (w_below B11.out hw)
  clear hw hb
  obtain ⟨_, cca, ccb, ccc, ccf, ccg, cch⟩ := CC12.out
  obtain ⟨_, gga, ggb, ggc, ggf, ggg, ggh⟩ := GG12.out
  obtain ⟨_, xxa, xxb, xxc, xxf, xxg, xxh⟩ := XX12.out
  obtain ⟨_, yya, yyb, yyc, yyf, yyg, yyh⟩ := YY12.out
  obtain ⟨_, zza, zzb, zzc, zzf, zzg, zzh⟩ := ZZ12.out
  simp only at cca ccb ccc gga ggb ggc xxa xxb xxc yya yyb yyc zza zzb zzc
  go_wp2_with fail
  refine (I4.out _ B12.out).mono ?_
  rintro e w13 ⟨rfl, hb⟩
  clear cca ccb ccc ccf ccg cch
  clear gga ggb ggc ggf ggg ggh
  clear xxa xxb xxc xxf xxg xxh
  clear yya yyb yyc yyf yyg yyh
  clear zza zzb zzc zzf zzg zzh
  have hw := hb
  have CC13 := Lib.hid (CC12.out.later hw)
  have GG13 := Lib.hid (GG12.out.later hw)
  have XX13 := Lib.hid (XX12.out.later hw)
  have YY13 := Lib.hid (YY12.out.later hw)
  have ZZ13 := Lib.hid (ZZ12.out.later hw)
  have B13 := Lib.hid (w_below B12.out hw)
  clear hw hb
  obtain ⟨_, cca, ccb, ccc, ccf, ccg, cch⟩ := CC13.out
  obtain ⟨_, gga, ggb, ggc, ggf, ggg, ggh⟩ := GG13.out
  obtain ⟨_, xxa, xxb, xxc, xxf, xxg, xxh⟩ := XX13.out
  obtain ⟨_, yya, yyb, yyc, yyf, yyg, yyh⟩ := YY13.out
  obtain ⟨_, zza, zzb, zzc, zzf, zzg, zzh⟩ := ZZ13.out
  simp only at cca ccb ccc gga ggb ggc xxa xxb xxc yya yyb yyc zza zzb zzc
  go_wp2_with fail
  refine (M2.out _).mono ?_
  rintro e w14 ⟨rfl, hb⟩
  clear cca ccb ccc ccf ccg cch
  clear gga ggb ggc ggf ggg ggh
  clear xxa xxb xxc xxf xxg xxh
  clear yya yyb yyc yyf yyg yyh
  clear zza zzb zzc zzf zzg zzh
  have hw := hb
  have CC14 := Lib.hid (CC13.out.later hw)
  have GG14 := Lib.hid (GG13.out.later hw)
  have XX14 := Lib.hid (XX13.out.later hw)
  have YY14 := Lib.hid (YY13.out.later hw)
  have ZZ14 := Lib.hid (ZZ13.out.later hw)
  have B14 := Lib.hid (w_below B13.out hw)
  clear hw hb
  obtain ⟨_, cca, ccb, ccc, ccf, ccg, cch⟩ := CC14.out
  obtain ⟨_, gga, ggb, ggc, ggf, ggg, ggh⟩ := GG14.out
  obtain ⟨_, xxa, xxb, xxc, xxf, xxg, xxh⟩ := XX14.out
  obtain ⟨_, yya, yyb, yyc, yyf, yyg, yyh⟩ := YY14.out
  obtain ⟨_, zza, zzb, zzc, zzf, zzg, zzh⟩ := ZZ14.out
  simp only at cca ccb ccc gga ggb ggc xxa xxb xxc yya yyb yyc zza zzb zzc
  go_wp2_with fail
  refine (T1.out _ B14.out).mono ?_
  rintro e w15 ⟨rfl, hb⟩
  clear cca ccb ccc ccf ccg cch
  clear gga ggb ggc ggf ggg ggh
  clear xxa xxb xxc xxf xxg xxh
  clear yya yyb yyc yyf yyg yyh
  clear zza zzb zzc zzf zzg zzh
  have hw := w_below hb (w_alloc (w_refl w15) (iO 4 7))
  have CC15 := Lib.hid (CC14.out.later hw)
  have GG15 := Lib.hid (GG14.out.later hw)
  have XX15 := Lib.hid (XX14.out.later hw)
  have YY15 := Lib.hid (YY14.out.later hw)
  have ZZ15 := Lib.hid (ZZ14.out.later hw)
  have B15 := Lib.hid (w_below B14.out hw)
  have II15 := Lib.hid (CellI.made w15 4 7 33)
  clear hw hb
  obtain ⟨_, cca, ccb, ccc, ccf, ccg, cch⟩ := CC15.out
  obtain ⟨_, gga, ggb, ggc, ggf, ggg, ggh⟩ := GG15.out
  obtain ⟨_, xxa, xxb, xxc, xxf, xxg, xxh⟩ := XX15.out
  obtain ⟨_, yya, yyb, yyc, yyf, yyg, yyh⟩ := YY15.out
  obtain ⟨_, zza, zzb, zzc, zzf, zzg, zzh⟩ := ZZ15.out
  obtain ⟨_, iia, iib, iif, iig⟩ := II15.out
  simp only at cca ccb ccc gga ggb ggc xxa xxb xxc yya yyb yyc zza zzb zzc
  go_wp2_with fail
  refine (T2.out _ B15.out).mono ?_
  rintro e w16 ⟨rfl, hb⟩
  clear cca ccb ccc ccf ccg cch
  clear gga ggb ggc ggf ggg ggh
  clear xxa xxb xxc xxf xxg xxh
  clear yya yyb yyc yyf yyg yyh
  clear zza zzb zzc zzf zzg zzh
  clear iia iib iif iig
  have hw := w_below hb (w_alloc (w_refl w16) (iO (-2) (-4)))
  have CC16 := Lib.hid (CC15.out.later hw)
  have GG16 := Lib.hid (GG15.out.later hw)
  have XX16 := Lib.hid (XX15.out.later hw)
  have YY16 := Lib.hid (YY15.out.later hw)
  have ZZ16 := Lib.hid (ZZ15.out.later hw)
  have II16 := Lib.hid (II15.out.later hw)
  have B16 := Lib.hid (w_below B15.out hw)
  have JJ16 := Lib.hid (CellI.made w16 (-2) (-4) 33)
  clear hw hb
  obtain ⟨_, cca, ccb, ccc, ccf, ccg, cch⟩ := CC16.out
  obtain ⟨_, gga, ggb, ggc, ggf, ggg, ggh⟩ := GG16.out
  obtain ⟨_, xxa, xxb, xxc, xxf, xxg, xxh⟩ := XX16.out
  obtain ⟨_, yya, yyb, yyc, yyf, yyg, yyh⟩ := YY16.out
  obtain ⟨_, zza, zzb, zzc, zzf, zzg, zzh⟩ := ZZ16.out
  obtain ⟨_, iia, iib, iif, iig⟩ := II16.out
  obtain ⟨_, jja, jjb, jjf, jjg⟩ := JJ16.out
  simp only at cca ccb ccc gga ggb ggc xxa xxb xxc yya yyb yyc zza zzb zzc
  go_wp2_with fail
  refine (E1.out _ B16.out).mono ?_
  rintro e w17 ⟨rfl, hb⟩
  clear cca ccb ccc ccf ccg cch
  clear gga ggb ggc ggf ggg ggh
  clear xxa xxb xxc xxf xxg xxh
  clear yya yyb yyc yyf yyg yyh
  clear zza zzb zzc zzf zzg zzh
  clear iia iib iif iig
  clear jja jjb jjf jjg
  have hw := hb
  have CC17 := Lib.hid (CC16.out.later hw)
  have GG17 := Lib.hid (GG16.out.later hw)
  have XX17 := Lib.hid (XX16.out.later hw)
  have YY17 := Lib.hid (YY16.out.later hw)
  have ZZ17 := Lib.hid (ZZ16.out.later hw)
  have II17 := Lib.hid (II16.out.later hw)
  have JJ17 := Lib.hid (JJ16.out.later hw)
  have B17 := Lib.hid (w_below B16.out hw)
  clear hw hb
  obtain ⟨_, cca, ccb, ccc, ccf, ccg, cch⟩ := CC17.out
  obtain ⟨_, gga, ggb, ggc, ggf, ggg, ggh⟩ := GG17.out
  obtain ⟨_, xxa, xxb, xxc, xxf, xxg, xxh⟩ := XX17.out
  obtain ⟨_, yya, yyb, yyc, yyf, yyg, yyh⟩ := YY17.out
  obtain ⟨_, zza, zzb, zzc, zzf, zzg, zzh⟩ := ZZ17.out
  obtain ⟨_, iia, iib, iif, iig⟩ := II17.out
  obtain ⟨_, jja, jjb, jjf, jjg⟩ := JJ17.out
  simp only at cca ccb ccc gga ggb ggc xxa xxb xxc yya yyb yyc zza zzb zzc
  go_wp2_with fail
  refine (E2.out _ B17.out).mono ?_
  rintro e w18 ⟨rfl, hb⟩
  clear cca ccb ccc ccf ccg cch
  clear gga ggb ggc ggf ggg ggh
  clear xxa xxb xxc xxf xxg xxh
  clear yya yyb yyc yyf yyg yyh
  clear zza zzb zzc zzf zzg zzh
  clear iia iib iif iig
  clear jja jjb jjf jjg
  have hw := hb
  have CC18 := Lib.hid (CC17.out.later hw)
  have GG18 := Lib.hid (GG17.out.later hw)
  have XX18 := Lib.hid (XX17.out.later hw)
  have YY18 := Lib.hid (YY17.out.later hw)
  have ZZ18 := Lib.hid (ZZ17.out.later hw)
  have II18 := Lib.hid (II17.out.later hw)
  have JJ18 := Lib.hid (JJ17.out.later hw)
  have B18 := Lib.hid (w_below B17.out hw)
  clear hw hb
  obtain ⟨_, cca, ccb, ccc, ccf, ccg, cch⟩ := CC18.out
  obtain ⟨_, gga, ggb, ggc, ggf, ggg, ggh⟩ := GG18.out
  obtain ⟨_, xxa, xxb, xxc, xxf, xxg, xxh⟩ := XX18.out
  obtain ⟨_, yya, yyb, yyc, yyf, yyg, yyh⟩ := YY18.out
  obtain ⟨_, zza, zzb, zzc, zzf, zzg, zzh⟩ := ZZ18.out
  obtain ⟨_, iia, iib, iif, iig⟩ := II18.out
  obtain ⟨_, jja, jjb, jjf, jjg⟩ := JJ18.out
  simp only at cca ccb ccc gga ggb ggc xxa xxb xxc yya yyb yyc zza zzb zzc
  go_wp2_with fail
  refine (E3.out _ B18.out).mono ?_
  rintro e w19 ⟨rfl, hb⟩
  clear cca ccb ccc ccf ccg cch
  clear gga ggb ggc ggf ggg ggh
  clear xxa xxb xxc xxf xxg xxh
  clear yya yyb yyc yyf yyg yyh
  clear zza zzb zzc zzf zzg zzh
  clear iia iib iif iig
  clear jja jjb jjf jjg
  have hw := hb
  have CC19 := Lib.hid (CC18.out.later hw)
  have GG19 := Lib.hid (GG18.out.later hw)
  have XX19 := Lib.hid (XX18.out.later hw)
  have YY19 := Lib.hid (YY18.out.later hw)
  have ZZ19 := Lib.hid (ZZ18.out.later hw)
  have II19 := Lib.hid (II18.out.later hw)
  have JJ19 := Lib.hid (JJ18.out.later hw)
  have B19 := Lib.hid (w_below B18.out hw)
  clear hw hb
  obtain ⟨_, cca, ccb, ccc, ccf, ccg, cch⟩ := CC19.out
  obtain ⟨_, gga, ggb, ggc, ggf, ggg, ggh⟩ := GG19.out
  obtain ⟨_, xxa, xxb, xxc, xxf, xxg, xxh⟩ := XX19.out
  obtain ⟨_, yya, yyb, yyc, yyf, yyg, yyh⟩ := YY19.out
  obtain ⟨_, zza, zzb, zzc, zzf, zzg, zzh⟩ := ZZ19.out
  obtain ⟨_, iia, iib, iif, iig⟩ := II19.out
  obtain ⟨_, jja, jjb, jjf, jjg⟩ := JJ19.out
  simp only at cca ccb ccc gga ggb ggc xxa xxb xxc yya yyb yyc zza zzb zzc
  go_wp2_with fail
  refine (RD.out _ B19.out).mono ?_
  rintro e w20 ⟨rfl, hb⟩
  clear cca ccb ccc ccf ccg cch
  clear gga ggb ggc ggf ggg ggh
  clear xxa xxb xxc xxf xxg xxh
  clear yya yyb yyc yyf yyg yyh
  clear zza zzb zzc zzf zzg zzh
  clear iia iib iif iig
  clear jja jjb jjf jjg
  have hw := hb
  have CC20 := Lib.hid (CC19.out.later hw)
  have GG20 := Lib.hid (GG19.out.later hw)
  have XX20 := Lib.hid (XX19.out.later hw)
  have YY20 := Lib.hid (YY19.out.later hw)
  have ZZ20 := Lib.hid (ZZ19.out.later hw)
  have II20 := Lib.hid (II19.out.later hw)
  have JJ20 := Lib.hid (JJ19.out.later hw)
  have B20 := Lib.hid (w_below B19.out hw)
  clear hw hb
  obtain ⟨_, cca, ccb, ccc, ccf, ccg, cch⟩ := CC20.out
  obtain ⟨_, gga, ggb, ggc, ggf, ggg, ggh⟩ := GG20.out
  obtain ⟨_, xxa, xxb, xxc, xxf, xxg, xxh⟩ := XX20.out
  obtain ⟨_, yya, yyb, yyc, yyf, yyg, yyh⟩ := YY20.out
  obtain ⟨_, zza, zzb, zzc, zzf, zzg, zzh⟩ := ZZ20.out
  obtain ⟨_, iia, iib, iif, iig⟩ := II20.out
  obtain ⟨_, jja, jjb, jjf, jjg⟩ := JJ20.out
  simp only at cca ccb ccc gga ggb ggc xxa xxb xxc yya yyb yyc zza zzb zzc
  go_wp2_with fail
  refine (WK.out _ B20.out).mono ?_
  rintro e w21 ⟨rfl, hb⟩
  clear cca ccb ccc ccf ccg cch
  clear gga ggb ggc ggf ggg ggh
  clear xxa xxb xxc xxf xxg xxh
  clear yya yyb yyc yyf yyg yyh
  clear zza zzb zzc zzf zzg zzh
  clear iia iib iif iig
  clear jja jjb jjf jjg
  have hw := hb
  have CC21 := Lib.hid (CC20.out.later hw)
  have GG21 := Lib.hid (GG20.out.later hw)
  have XX21 := Lib.hid (XX20.out.later hw)
  have YY21 := Lib.hid (YY20.out.later hw)
  have ZZ21 := Lib.hid (ZZ20.out.later hw)
  have II21 := Lib.hid (II20.out.later hw)
  have JJ21 := Lib.hid (JJ20.out.later hw)
  have B21 := Lib.hid (w_below B20.out hw)
  clear hw hb
  obtain ⟨_, cca, ccb, ccc, ccf, ccg, cch⟩ := CC21.out
  obtain ⟨_, gga, ggb, ggc, ggf, ggg, ggh⟩ := GG21.out
  obtain ⟨_, xxa, xxb, xxc, xxf, xxg, xxh⟩ := XX21.out
  obtain ⟨_, yya, yyb, yyc, yyf, yyg, yyh⟩ := YY21.out
  obtain ⟨_, zza, zzb, zzc, zzf, zzg, zzh⟩ := ZZ21.out
  obtain ⟨_, iia, iib, iif, iig⟩ := II21.out
  obtain ⟨_, jja, jjb, jjf, jjg⟩ := JJ21.out
  simp only at cca ccb ccc gga ggb ggc xxa xxb xxc yya yyb yyc zza zzb zzc
  go_wp2_with fail
  go_ret
  exact ⟨rfl, B21.out⟩

end Go.Proofs.YtpkihehacocbhaaDoor
