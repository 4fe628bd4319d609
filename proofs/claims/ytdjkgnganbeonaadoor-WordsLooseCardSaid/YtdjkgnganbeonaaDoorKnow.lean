/- The law on the chapter's examples. -/
import Derived.Test.YtdjkgnganbeonaaDoorKn
namespace Go.Proofs.YtdjkgnganbeonaaDoor
open Go.RowKit

theorem krows (T : ByteArray) (rs : List Rw) (hT : T.size ≤ 29) (h : rowsF T 31 0 = (rs, none)) (w : World) : Calls Tryd.prog 10 #[.string T] w fun e w' => ∃ v, e = .returned (.tuple #[v, .agg #[.int .i64 0, .int .i64 0]]) ∧ RowsV w' v rs ∧ Below w.heap.size w w' := by
  refine (wrows_any T w (by omega)).mono ?_
  rintro e w1 ⟨rs', b, v, hres, hb1, rfl, hv1⟩
  obtain ⟨rfl, rfl⟩ := rows_calc T 31 (by omega) (by omega) hres
  rw [h] at hv1 ⊢
  exact ⟨v, rfl, hv1, hb1⟩
theorem wordsV_none (w : World) : WordsV w (.slice none 0 0) [] := ⟨none, 0, rfl, Nat.le_refl _, by omega, fun _ => rfl, rfl, fun h => by simp at h⟩
section
variable {w W W' : World} {v : Value} {rs : List Rw} {b : Nat} {o : Obj}
theorem ks_b (hb : Below w.heap.size w W) (h : Below (W.alloc o).heap.size (W.alloc o) W') : Below w.heap.size w W' := w_below (w_alloc hb o) h
theorem ks_v (hv : RowsV W v rs) (h : Below (W.alloc o).heap.size (W.alloc o) W') : RowsV W' v rs := (hv.later (w_alloc (w_refl W) o)).later h
theorem ks_d (hc : Cell2 W b 0 0) : Cell2 (W.alloc o) b 0 0 := hc.below (w_alloc (w_refl W) o) hc.inb
theorem ks_c (hc : Cell2 W b 0 0) (h : Below (W.alloc o).heap.size (W.alloc o) W') : Cell2 W' b 0 0 := by
  have d : Cell2 (W.alloc o) b 0 0 := hc.below (w_alloc (w_refl W) o) hc.inb
  exact d.below h d.inb
theorem ks_n (h : Below (W.alloc (.cells #[.int .i64 0, .int .i64 0] 26)).heap.size (W.alloc (.cells #[.int .i64 0, .int .i64 0] 26)) W') : Cell2 W' W.heap.size 0 0 :=
  (Cell2.made W 0 0 26).below h (Cell2.made W 0 0 26).inb
end

set_option maxRecDepth 100000 in
set_option maxHeartbeats 8000000 in
theorem known_any (w : World) : Calls Tryd.prog 6 #[] w fun e w' => e = .returned (.bool true) ∧ Below w.heap.size w w' := by
  have R1 := Lib.hid (fun W => krows ⟨#[]⟩ _ (by decide) kn_1 W)
  have R2 := Lib.hid (fun W => krows ⟨#[32, 59, 32, 120]⟩ _ (by decide) kn_2 W)
  have R3 := Lib.hid (fun W => krows ⟨#[97, 10, 32, 10, 98]⟩ _ (by decide) kn_3 W)
  have R4 := Lib.hid (fun W => krows ⟨#[34, 34, 32, 59, 34]⟩ _ (by decide) kn_4 W)
  go_enter Tryd.func6, Tryd.ntmps6
  go_wp2_with fail
  refine (R1.out _).mono ?_
  rintro e w1 ⟨v1, rfl, hv, hb⟩
  obtain ⟨p1, c1, rfl, f1, g1⟩ := rows_nil hv
  simp only [List.length_nil] at f1 ⊢
  clear hv
  have b1 := Lib.hid hb
  clear hb R1
  go_wp2_with fail
  refine (R2.out _).mono ?_
  rintro e w2 ⟨v2, rfl, hv, hb⟩
  obtain ⟨p2, c2, rfl, f2, g2⟩ := rows_nil hv
  simp only [List.length_nil] at f2 ⊢
  clear hv
  have q1 := Lib.hid (ks_n hb)
  have b2 := Lib.hid (ks_b b1.out hb)
  clear b1 hb R2
  go_wp2_with fail
  refine (R3.out _).mono ?_
  rintro e w3 ⟨v3, rfl, hv, hb⟩
  have q1' := Lib.hid (ks_c q1.out hb)
  have q2 := Lib.hid (ks_n hb)
  have b3 := Lib.hid (ks_b b2.out hb)
  have HV3 := Lib.hid hv
  obtain ⟨p3, c3, rfl, f3, g3⟩ := rows_nil hv
  simp only [List.length_cons, List.length_nil, Nat.zero_add, Nat.reduceAdd] at f3 ⊢
  clear hv q1 b2 hb R3
  go_wp2_with fail
  refine (R4.out _).mono ?_
  rintro e w4 ⟨v4, rfl, hv, hb⟩
  have q1 := Lib.hid (ks_d (o := .cells #[.int .i64 0, .int .i64 0] 26) (ks_c q1'.out hb))
  have q2' := Lib.hid (ks_d (o := .cells #[.int .i64 0, .int .i64 0] 26) (ks_c q2.out hb))
  have q3 := Lib.hid (ks_d (o := .cells #[.int .i64 0, .int .i64 0] 26) (ks_n hb))
  have q4 := Lib.hid (Cell2.made w4 0 0 26)
  have b4 := Lib.hid (w_alloc (ks_b b3.out hb) (.cells #[.int .i64 0, .int .i64 0] 26))
  have HV3' := Lib.hid ((ks_v HV3.out hb).later (w_alloc (w_refl _) (.cells #[.int .i64 0, .int .i64 0] 26)))
  have HV4 := Lib.hid (hv.later (w_alloc (w_refl _) (.cells #[.int .i64 0, .int .i64 0] 26)))
  obtain ⟨p4, c4, rfl, f4, g4⟩ := rows_nil hv
  simp only [List.length_cons, List.length_nil, Nat.zero_add] at f4 ⊢
  clear hv hb q1' q2 b3 HV3 R4
  obtain ⟨_, o0, o1, o2, o3⟩ := q1.out
  obtain ⟨_, o4, o5, o6, o7⟩ := q2'.out
  obtain ⟨_, o8, o9, o10, o11⟩ := q3.out
  obtain ⟨_, o12, o13, o14, o15⟩ := q4.out
  clear q1 q2' q3 q4
  have RW := Lib.hid row_any
  go_wp2_with fail
  clear o0 o1 o2 o3 o4 o5 o6 o7 o8 o9 o10 o11 o12 o13 o14 o15
  refine (RW.out _ _ _).mono ?_
  rintro e w5 ⟨v5, rfl, hv, hb⟩
  have b5 := Lib.hid (w_below b4.out hb)
  have HV3 := Lib.hid (HV3'.out.later hb)
  have HV4' := Lib.hid (HV4.out.later hb)
  have HT := Lib.hid (wtext_any _ _ _ hv (modest_one _ _ _ _ (by decide)))
  clear hv hb b4 HV3' HV4
  go_wp2_with fail
  refine (HT.out).mono ?_
  rintro e w6 ⟨he, hb⟩
  rw [kn_text] at he
  subst he
  have b6 := Lib.hid (w_below b5.out hb)
  have HV3' := Lib.hid (HV3.out.later hb)
  have HV4 := Lib.hid (HV4'.out.later hb)
  clear hb b5 HV3 HV4' HT
  have N1 := Lib.hid (fun W => show Calls Tryd.prog 17 #[.string ⟨#[49, 48, 57, 57, 53, 49, 49, 54, 50, 55, 55, 55, 54]⟩] W fun e w' => e = .returned (.tuple #[.int .i64 1099511627776, .bool true]) ∧ W = w' from by have := wnumber_any ⟨#[49, 48, 57, 57, 53, 49, 49, 54, 50, 55, 55, 55, 54]⟩ W (by unfold maxLen; decide); rw [kn_n1] at this; exact this)
  have N2 := Lib.hid (fun W => show Calls Tryd.prog 17 #[.string ⟨#[49, 48, 57, 57, 53, 49, 49, 54, 50, 55, 55, 55, 55]⟩] W fun e w' => e = .returned (.tuple #[.int .i64 0, .bool false]) ∧ W = w' from by have := wnumber_any ⟨#[49, 48, 57, 57, 53, 49, 49, 54, 50, 55, 55, 55, 55]⟩ W (by unfold maxLen; decide); rw [kn_n2] at this; exact this)
  have N3 := Lib.hid (fun W => show Calls Tryd.prog 17 #[.string ⟨#[48, 48, 55]⟩] W fun e w' => e = .returned (.tuple #[.int .i64 0, .bool false]) ∧ W = w' from by have := wnumber_any ⟨#[48, 48, 55]⟩ W (by unfold maxLen; decide); rw [kn_n3] at this; exact this)
  have S1 := Lib.hid (fun W => show Calls Tryd.prog 21 #[.string ⟨#[45, 48]⟩] W fun e w' => e = .returned (.tuple #[.int .i64 0, .bool false]) ∧ W = w' from by have := wsigned_any ⟨#[45, 48]⟩ W (by unfold maxLen; decide); rw [kn_s1] at this; exact this)
  have S2 := Lib.hid (fun W => show Calls Tryd.prog 21 #[.string ⟨#[43, 52]⟩] W fun e w' => e = .returned (.tuple #[.int .i64 0, .bool false]) ∧ W = w' from by have := wsigned_any ⟨#[43, 52]⟩ W (by unfold maxLen; decide); rw [kn_s2] at this; exact this)
  have P1 := Lib.hid (fun W => show Calls Tryd.prog 23 #[.string ⟨#[51, 47, 50]⟩, .int .u8 47] W fun e w' => e = .returned (.tuple #[.string ⟨#[51]⟩, .string ⟨#[50]⟩, .bool true]) ∧ Below W.heap.size W w' from by have := wpair_any ⟨#[51, 47, 50]⟩ 47 W (by decide) (by decide) (by decide); rw [kn_p1] at this; exact this)
  have P2 := Lib.hid (fun W => show Calls Tryd.prog 23 #[.string ⟨#[51, 47, 50, 47, 49]⟩, .int .u8 47] W fun e w' => e = .returned (.tuple #[.string ⟨#[]⟩, .string ⟨#[]⟩, .bool false]) ∧ Below W.heap.size W w' from by have := wpair_any ⟨#[51, 47, 50, 47, 49]⟩ 47 W (by decide) (by decide) (by decide); rw [kn_p2] at this; exact this)
  have P3 := Lib.hid (fun W => show Calls Tryd.prog 23 #[.string ⟨#[47]⟩, .int .u8 47] W fun e w' => e = .returned (.tuple #[.string ⟨#[]⟩, .string ⟨#[]⟩, .bool true]) ∧ Below W.heap.size W w' from by have := wpair_any ⟨#[47]⟩ 47 W (by decide) (by decide) (by decide); rw [kn_p3] at this; exact this)
  have M1 := Lib.hid (fun W => show Calls Tryd.prog 19 #[.string ⟨#[45]⟩] W fun e w' => e = .returned (.bool false) ∧ W = w' from by have := wname_any ⟨#[45]⟩ W (by unfold maxLen; decide); rw [kn_m] at this; exact this)
  go_wp2_with fail
  refine (N1.out _).mono ?_
  rintro e w7 ⟨rfl, rfl⟩
  go_wp2_with fail
  refine (N2.out _).mono ?_
  rintro e w7 ⟨rfl, rfl⟩
  go_wp2_with fail
  refine (N3.out _).mono ?_
  rintro e w7 ⟨rfl, rfl⟩
  go_wp2_with fail
  refine (S1.out _).mono ?_
  rintro e w7 ⟨rfl, rfl⟩
  go_wp2_with fail
  refine (S2.out _).mono ?_
  rintro e w7 ⟨rfl, rfl⟩
  go_wp2_with fail
  refine (P1.out _).mono ?_
  rintro e w7 ⟨rfl, hb⟩
  have b7 := Lib.hid (w_below b6.out hb)
  have HV3 := Lib.hid (HV3'.out.later hb)
  have HV4' := Lib.hid (HV4.out.later hb)
  clear hb b6 HV3' HV4
  go_wp2_with fail
  refine (P2.out _).mono ?_
  rintro e w8 ⟨rfl, hb⟩
  have b8 := Lib.hid (w_below b7.out hb)
  have HV3' := Lib.hid (HV3.out.later hb)
  have HV4 := Lib.hid (HV4'.out.later hb)
  clear hb b7 HV3 HV4'
  go_wp2_with fail
  refine (P3.out _).mono ?_
  rintro e w9 ⟨rfl, hb⟩
  have b9 := Lib.hid (w_below b8.out hb)
  have HV3 := Lib.hid (HV3'.out.later hb)
  have HV4' := Lib.hid (HV4.out.later hb)
  clear hb b8 HV3' HV4
  have F := Lib.hid fault_any
  go_wp2_with fail
  refine (F.out _ _ _ (by decide) kn_f1).mono ?_
  rintro e w10 ⟨rfl, hb⟩
  have b10 := Lib.hid (w_below b9.out hb)
  have HV3' := Lib.hid (HV3.out.later hb)
  have HV4 := Lib.hid (HV4'.out.later hb)
  clear hb b9 HV3 HV4'
  go_wp2_with fail
  refine (F.out _ _ _ (by decide) kn_f2).mono ?_
  rintro e w11 ⟨rfl, hb⟩
  have b11 := Lib.hid (w_below b10.out hb)
  have HV3 := Lib.hid (HV3'.out.later hb)
  have HV4' := Lib.hid (HV4.out.later hb)
  clear hb b10 HV3' HV4
  go_wp2_with fail
  refine (F.out _ _ _ (by decide) kn_f3).mono ?_
  rintro e w12 ⟨rfl, hb⟩
  have b12 := Lib.hid (w_below b11.out hb)
  have HV3' := Lib.hid (HV3.out.later hb)
  have HV4 := Lib.hid (HV4'.out.later hb)
  clear hb b11 HV3 HV4'
  go_wp2_with fail
  refine (F.out _ _ _ (by decide) kn_f4).mono ?_
  rintro e w13 ⟨rfl, hb⟩
  have b13 := Lib.hid (w_below b12.out hb)
  have HV3 := Lib.hid (HV3'.out.later hb)
  have HV4' := Lib.hid (HV4.out.later hb)
  clear hb b12 HV3' HV4
  obtain ⟨B, off, cp, q, c, hv1, hb1, _, _, e0, e1, _⟩ := rows_at HV3.out 1 (by decide)
  simp only [Value.slice.injEq] at hv1
  obtain ⟨rfl, _, rfl⟩ := hv1
  simp only [List.getD_cons_succ, List.getD_cons_zero] at e0
  clear HV3 e1
  go_wp2_with fail
  refine (RW.out _ _ _).mono ?_
  rintro e w14 ⟨v14, rfl, hv, hb⟩
  have b14 := Lib.hid (w_below b13.out hb)
  have SA := Lib.hid (same_any _ _ _ _ false _ (HV4'.out.later hb) hv (SameR.refl false _))
  clear hb hv b13 HV4' e0 hb1
  go_wp2_with fail
  refine (SA.out).mono ?_
  rintro e w15 ⟨rfl, hb⟩
  have b15 := Lib.hid (w_below b14.out hb)
  clear hb b14 SA
  have RF := Lib.hid (show Calls Tryd.prog 27 #[.slice (some ⟨w15.heap.size, 0, none⟩) 1 1] (w15.alloc (.cells #[.int .i64 0, .slice none 0 0] 44)) fun e w' => e = .returned (.bool true) ∧ Below (w15.alloc (.cells #[.int .i64 0, .slice none 0 0] 44)).heap.size (w15.alloc (.cells #[.int .i64 0, .slice none 0 0] 44)) w' from by
    have c := lit_rows w15 [(0, .slice none 0 0)] [⟨0, []⟩] 44 (by decide) (show AllR _ none _ _ from ⟨⟨rfl, wordsV_none _, fun h => by simp at h⟩, trivial⟩)
    exact refused_any _ _ _ c (modest_bare 0) kn_r1)
  go_wp2_with fail
  refine (RF.out).mono ?_
  rintro e w16 ⟨rfl, hb⟩
  have b16 := Lib.hid (ks_b b15.out hb)
  clear hb b15 RF
  go_wp2_with fail
  refine (RW.out _ _ _).mono ?_
  rintro e w17 ⟨v17, rfl, hv, hb⟩
  have b17 := Lib.hid (w_below b16.out hb)
  have RF := Lib.hid (refused_any _ _ _ hv (modest_one _ _ _ _ (by decide)) kn_r2)
  clear hb hv b16
  go_wp2_with fail
  refine (RF.out).mono ?_
  rintro e w18 ⟨rfl, hb⟩
  have b18 := Lib.hid (w_below b17.out hb)
  clear hb b17 RF
  go_wp2_with fail
  refine (wake_any _).mono ?_
  rintro e w19 ⟨rfl, hb⟩
  have b19 := Lib.hid (w_below b18.out hb)
  clear hb b18
  go_wp2_with fail
  refine (M1.out _).mono ?_
  rintro e w20 ⟨rfl, rfl⟩
  go_wp2_with fail
  go_ret
  exact ⟨rfl, b19.out⟩

end Go.Proofs.YtdjkgnganbeonaaDoor
