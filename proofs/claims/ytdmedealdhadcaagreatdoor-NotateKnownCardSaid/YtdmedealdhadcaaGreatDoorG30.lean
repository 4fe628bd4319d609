/- NotateKnown: the chapter's examples. -/
import Derived.Test.YtdmedealdhadcaaGreatDoorG28

namespace Go.Proofs.YtdmedealdhadcaaGreatDoor
open Go.RowKit
set_option maxRecDepth 100000 in
set_option maxHeartbeats 4000000 in
theorem wl_buildG {ops : Array Oper} {rest : List Oper} {t : TypeId} {ps : String} {af : Array Edge} {a : Act} {Q : Exit → Act → World → Prop} {w : World} {d : Tmp} {g : Option (Nat × Bool)} (parts : Array (Nat × Operand)) (s : Sg)
    (hw : Region.wanted { dst := some d, op := .build 27 parts, type := t, pos := ps, after := af, guard := g } (yielded ops a.tmps) = true)
    (hb : Tryz.prog.built 27 (parts.map fun (i, x) => (i, a.eval x)).toList = some (sgA s)) (h : wpList Tryz.prog ops Q rest (a.put (some d) (sgv s)) w) :
    wpList Tryz.prog ops Q ({ dst := some d, op := .build 27 parts, type := t, pos := ps, after := af, guard := g } :: rest) a w := by
  refine wpList_step fun K hK => ?_
  rw [if_pos hw]
  have e : (Tryz.prog.built 27 (parts.map fun (i, x) => (i, a.eval x)).toList).isSome = true := by rw [hb]; rfl
  have hk : K (a.put (some d) (.agg ((Tryz.prog.built 27 (parts.map fun (i, x) => (i, a.eval x)).toList).getD #[]))) w := by rw [hb]; exact hK _ _ h
  generalize hv : Tryz.prog.built 27 (parts.map fun (i, x) => (i, a.eval x)).toList = v at *
  subst hv
  exact wp_build (P := Tryz.prog) 27 parts rfl e hk
def kW0 : Sg := { zS with kind := 2, val := 3 }
theorem kW0_one : oneE kW0 = 0 := by kernel_rfl
theorem kW0_word : wordT kW0 = [114, 66] := by kernel_rfl
def kW1 : Sg := { zS with kind := 4, place := 4, stem := 1, last := true }
theorem kW1_one : oneE kW1 = 0 := by kernel_rfl
theorem kW1_word : wordT kW1 = [116, 52, 94, 33] := by kernel_rfl
def kW2 : Sg := { zS with kind := 5, m0 := 2, m1 := 2, m2 := 3, m3 := 3, stk := true }
theorem kW2_one : oneE kW2 = 0 := by kernel_rfl
theorem kW2_word : wordT kW2 = [40, 79, 46, 41, 124] := by kernel_rfl
def kW3 : Sg := { zS with kind := 6, n := 3, d := 2 }
theorem kW3_one : oneE kW3 = 0 := by kernel_rfl
theorem kW3_word : wordT kW3 = [51, 47, 50] := by kernel_rfl
def kW4 : Sg := { zS with kind := 7, c1 := 3 }
theorem kW4_one : oneE kW4 = 0 := by kernel_rfl
theorem kW4_word : wordT kW4 = [64, 67, 51] := by kernel_rfl
def kW5 : Sg := { zS with kind := 10, n := 2 }
theorem kW5_one : oneE kW5 = 0 := by kernel_rfl
theorem kW5_word : wordT kW5 = [93, 50] := by kernel_rfl
def kW6 : Sg := { zS with kind := 11 }
theorem kW6_one : oneE kW6 = 0 := by kernel_rfl
theorem kW6_word : wordT kW6 = [116, 117, 114, 110] := by kernel_rfl
theorem kE0 : signV [77, 49, 51] = (zS, 2) := by kernel_rfl
theorem kE1 : signV [77, 48, 52] = (zS, 3) := by kernel_rfl
theorem kE2 : signV [115, 52] = (zS, 3) := by kernel_rfl
theorem kE3 : signV [116, 52, 33, 126] = (zS, 3) := by kernel_rfl
theorem kE4 : signV [116, 52, 126, 33] = (zS, 3) := by kernel_rfl
theorem kE5 : signV [48, 47, 50] = (zS, 2) := by kernel_rfl
theorem kE6 : signV [91, 50] = (zS, 3) := by kernel_rfl
theorem kE7 : signV [93, 49] = (zS, 2) := by kernel_rfl
theorem kE8 : signV [40, 50, 50, 79, 41] = (zS, 3) := by kernel_rfl
theorem kE9 : signV [64, 68, 51] = (zS, 3) := by kernel_rfl
theorem kF0 : prsV ⟨#[]⟩ = (noP, (9, 0)) := by kernel_rfl
theorem kF1 : prsV ⟨#[112, 97, 114, 116, 32, 97, 10, 83, 52, 10]⟩ = (noP, (9, 10)) := by kernel_rfl
theorem kF2 : prsV ⟨#[112, 97, 114, 116, 32, 65, 10, 101, 110, 100, 10]⟩ = (noP, (7, 5)) := by kernel_rfl
theorem kF3 : prsV ⟨#[112, 97, 114, 116, 32, 97, 10, 116, 52, 32, 83, 51, 10, 101, 110, 100, 10]⟩ = (noP, (3, 7)) := by kernel_rfl
theorem kF4 : prsV ⟨#[112, 97, 114, 116, 32, 97, 10, 101, 110, 100, 10, 32, 101, 110, 100, 10]⟩ = (noP, (3, 12)) := by kernel_rfl
set_option maxRecDepth 100000 in
set_option maxHeartbeats 8000000 in
theorem lknown_any (w : World) (T : TabN w) : Calls Tryz.prog 7 #[] w fun e w' => e = .returned (.bool true) ∧ Below w.heap.size w w' := by
  have W0 := Lib.hid (show ∀ V, Below w.heap.size w V → Calls Tryz.prog 25 #[sgv kW0, .string ⟨#[114, 66]⟩] V fun e w' => e = .returned (.bool true) ∧ Below V.heap.size V w' from fun V b => by have := lwritten_any kW0 kW0_one V (T.later b); rwa [kW0_word] at this)
  have W1 := Lib.hid (show ∀ V, Below w.heap.size w V → Calls Tryz.prog 25 #[sgv kW1, .string ⟨#[116, 52, 94, 33]⟩] V fun e w' => e = .returned (.bool true) ∧ Below V.heap.size V w' from fun V b => by have := lwritten_any kW1 kW1_one V (T.later b); rwa [kW1_word] at this)
  have W2 := Lib.hid (show ∀ V, Below w.heap.size w V → Calls Tryz.prog 25 #[sgv kW2, .string ⟨#[40, 79, 46, 41, 124]⟩] V fun e w' => e = .returned (.bool true) ∧ Below V.heap.size V w' from fun V b => by have := lwritten_any kW2 kW2_one V (T.later b); rwa [kW2_word] at this)
  have W3 := Lib.hid (show ∀ V, Below w.heap.size w V → Calls Tryz.prog 25 #[sgv kW3, .string ⟨#[51, 47, 50]⟩] V fun e w' => e = .returned (.bool true) ∧ Below V.heap.size V w' from fun V b => by have := lwritten_any kW3 kW3_one V (T.later b); rwa [kW3_word] at this)
  have W4 := Lib.hid (show ∀ V, Below w.heap.size w V → Calls Tryz.prog 25 #[sgv kW4, .string ⟨#[64, 67, 51]⟩] V fun e w' => e = .returned (.bool true) ∧ Below V.heap.size V w' from fun V b => by have := lwritten_any kW4 kW4_one V (T.later b); rwa [kW4_word] at this)
  have W5 := Lib.hid (show ∀ V, Below w.heap.size w V → Calls Tryz.prog 25 #[sgv kW5, .string ⟨#[93, 50]⟩] V fun e w' => e = .returned (.bool true) ∧ Below V.heap.size V w' from fun V b => by have := lwritten_any kW5 kW5_one V (T.later b); rwa [kW5_word] at this)
  have W6 := Lib.hid (show ∀ V, Below w.heap.size w V → Calls Tryz.prog 25 #[sgv kW6, .string ⟨#[116, 117, 114, 110]⟩] V fun e w' => e = .returned (.bool true) ∧ Below V.heap.size V w' from fun V b => by have := lwritten_any kW6 kW6_one V (T.later b); rwa [kW6_word] at this)
  have E0 := Lib.hid (show ∀ V, Below w.heap.size w V → Calls Tryz.prog 26 #[.string ⟨#[77, 49, 51]⟩, .int .i64 2] V fun e w' => e = .returned (.bool true) ∧ Below V.heap.size V w' from fun V b => lrefused_any [77, 49, 51] (by decide) 2 kE0 V (T.later b))
  have E1 := Lib.hid (show ∀ V, Below w.heap.size w V → Calls Tryz.prog 26 #[.string ⟨#[77, 48, 52]⟩, .int .i64 3] V fun e w' => e = .returned (.bool true) ∧ Below V.heap.size V w' from fun V b => lrefused_any [77, 48, 52] (by decide) 3 kE1 V (T.later b))
  have E2 := Lib.hid (show ∀ V, Below w.heap.size w V → Calls Tryz.prog 26 #[.string ⟨#[115, 52]⟩, .int .i64 3] V fun e w' => e = .returned (.bool true) ∧ Below V.heap.size V w' from fun V b => lrefused_any [115, 52] (by decide) 3 kE2 V (T.later b))
  have E3 := Lib.hid (show ∀ V, Below w.heap.size w V → Calls Tryz.prog 26 #[.string ⟨#[116, 52, 33, 126]⟩, .int .i64 3] V fun e w' => e = .returned (.bool true) ∧ Below V.heap.size V w' from fun V b => lrefused_any [116, 52, 33, 126] (by decide) 3 kE3 V (T.later b))
  have E4 := Lib.hid (show ∀ V, Below w.heap.size w V → Calls Tryz.prog 26 #[.string ⟨#[116, 52, 126, 33]⟩, .int .i64 3] V fun e w' => e = .returned (.bool true) ∧ Below V.heap.size V w' from fun V b => lrefused_any [116, 52, 126, 33] (by decide) 3 kE4 V (T.later b))
  have E5 := Lib.hid (show ∀ V, Below w.heap.size w V → Calls Tryz.prog 26 #[.string ⟨#[48, 47, 50]⟩, .int .i64 2] V fun e w' => e = .returned (.bool true) ∧ Below V.heap.size V w' from fun V b => lrefused_any [48, 47, 50] (by decide) 2 kE5 V (T.later b))
  have E6 := Lib.hid (show ∀ V, Below w.heap.size w V → Calls Tryz.prog 26 #[.string ⟨#[91, 50]⟩, .int .i64 3] V fun e w' => e = .returned (.bool true) ∧ Below V.heap.size V w' from fun V b => lrefused_any [91, 50] (by decide) 3 kE6 V (T.later b))
  have E7 := Lib.hid (show ∀ V, Below w.heap.size w V → Calls Tryz.prog 26 #[.string ⟨#[93, 49]⟩, .int .i64 2] V fun e w' => e = .returned (.bool true) ∧ Below V.heap.size V w' from fun V b => lrefused_any [93, 49] (by decide) 2 kE7 V (T.later b))
  have E8 := Lib.hid (show ∀ V, Below w.heap.size w V → Calls Tryz.prog 26 #[.string ⟨#[40, 50, 50, 79, 41]⟩, .int .i64 3] V fun e w' => e = .returned (.bool true) ∧ Below V.heap.size V w' from fun V b => lrefused_any [40, 50, 50, 79, 41] (by decide) 3 kE8 V (T.later b))
  have E9 := Lib.hid (show ∀ V, Below w.heap.size w V → Calls Tryz.prog 26 #[.string ⟨#[64, 68, 51]⟩, .int .i64 3] V fun e w' => e = .returned (.bool true) ∧ Below V.heap.size V w' from fun V b => lrefused_any [64, 68, 51] (by decide) 3 kE9 V (T.later b))
  have F0 := Lib.hid (show ∀ V, Below w.heap.size w V → Calls Tryz.prog 27 #[.string ⟨#[]⟩, .int .i64 9, .int .i64 0] V fun e w' => e = .returned (.bool true) ∧ Below V.heap.size V w' from fun V b => lfault_any ⟨#[]⟩ (by decide) 9 0 kF0 V (T.later b))
  have F1 := Lib.hid (show ∀ V, Below w.heap.size w V → Calls Tryz.prog 27 #[.string ⟨#[112, 97, 114, 116, 32, 97, 10, 83, 52, 10]⟩, .int .i64 9, .int .i64 10] V fun e w' => e = .returned (.bool true) ∧ Below V.heap.size V w' from fun V b => lfault_any ⟨#[112, 97, 114, 116, 32, 97, 10, 83, 52, 10]⟩ (by decide) 9 10 kF1 V (T.later b))
  have F2 := Lib.hid (show ∀ V, Below w.heap.size w V → Calls Tryz.prog 27 #[.string ⟨#[112, 97, 114, 116, 32, 65, 10, 101, 110, 100, 10]⟩, .int .i64 7, .int .i64 5] V fun e w' => e = .returned (.bool true) ∧ Below V.heap.size V w' from fun V b => lfault_any ⟨#[112, 97, 114, 116, 32, 65, 10, 101, 110, 100, 10]⟩ (by decide) 7 5 kF2 V (T.later b))
  have F3 := Lib.hid (show ∀ V, Below w.heap.size w V → Calls Tryz.prog 27 #[.string ⟨#[112, 97, 114, 116, 32, 97, 10, 116, 52, 32, 83, 51, 10, 101, 110, 100, 10]⟩, .int .i64 3, .int .i64 7] V fun e w' => e = .returned (.bool true) ∧ Below V.heap.size V w' from fun V b => lfault_any ⟨#[112, 97, 114, 116, 32, 97, 10, 116, 52, 32, 83, 51, 10, 101, 110, 100, 10]⟩ (by decide) 3 7 kF3 V (T.later b))
  have F4 := Lib.hid (show ∀ V, Below w.heap.size w V → Calls Tryz.prog 27 #[.string ⟨#[112, 97, 114, 116, 32, 97, 10, 101, 110, 100, 10, 32, 101, 110, 100, 10]⟩, .int .i64 3, .int .i64 12] V fun e w' => e = .returned (.bool true) ∧ Below V.heap.size V w' from fun V b => lfault_any ⟨#[112, 97, 114, 116, 32, 97, 10, 101, 110, 100, 10, 32, 101, 110, 100, 10]⟩ (by decide) 3 12 kF4 V (T.later b))
  have AW := Lib.hid (show ∀ V, Below w.heap.size w V → Calls Tryz.prog 10 #[] V fun e w' => e = .returned (.bool true) ∧ Below V.heap.size V w' from fun V b => awake_any V (T.later b))
  have B := Lib.hid (w_refl w)
  clear T
  go_enter Tryz.func7, Tryz.ntmps7
  go_wp2_with (first | (refine wl_buildS (d := 4) _ kW0 (by kernel_rfl) ?_) | fail)
  refine (W0.out _ B.out).mono ?_
  rintro e w1 ⟨rfl, hb⟩
  replace B := Lib.hid (w_below B.out hb)
  clear hb W0
  go_wp2_with (first | (refine wl_buildG (d := 7) _ kW1 (by kernel_rfl) (by kernel_rfl) ?_) | fail)
  refine (W1.out _ B.out).mono ?_
  rintro e w1 ⟨rfl, hb⟩
  replace B := Lib.hid (w_below B.out hb)
  clear hb W1
  go_wp2_with (first | (refine wl_buildG (d := 12) _ kW2 (by kernel_rfl) (by kernel_rfl) ?_) | fail)
  refine (W2.out _ B.out).mono ?_
  rintro e w1 ⟨rfl, hb⟩
  replace B := Lib.hid (w_below B.out hb)
  clear hb W2
  go_wp2_with (first | (refine wl_buildG (d := 16) _ kW3 (by kernel_rfl) (by kernel_rfl) ?_) | fail)
  refine (W3.out _ B.out).mono ?_
  rintro e w1 ⟨rfl, hb⟩
  replace B := Lib.hid (w_below B.out hb)
  clear hb W3
  go_wp2_with (first | (refine wl_buildG (d := 21) _ kW4 (by kernel_rfl) (by kernel_rfl) ?_) | fail)
  refine (W4.out _ B.out).mono ?_
  rintro e w1 ⟨rfl, hb⟩
  replace B := Lib.hid (w_below B.out hb)
  clear hb W4
  go_wp2_with (first | (refine wl_buildG (d := 25) _ kW5 (by kernel_rfl) (by kernel_rfl) ?_) | fail)
  refine (W5.out _ B.out).mono ?_
  rintro e w1 ⟨rfl, hb⟩
  replace B := Lib.hid (w_below B.out hb)
  clear hb W5
  go_wp2_with (first | (refine wl_buildG (d := 29) _ kW6 (by kernel_rfl) (by kernel_rfl) ?_) | fail)
  refine (W6.out _ B.out).mono ?_
  rintro e w1 ⟨rfl, hb⟩
  replace B := Lib.hid (w_below B.out hb)
  clear hb W6
  go_wp2_with fail
  refine (E0.out _ B.out).mono ?_
  rintro e w1 ⟨rfl, hb⟩
  replace B := Lib.hid (w_below B.out hb)
  clear hb E0
  go_wp2_with fail
  refine (E1.out _ B.out).mono ?_
  rintro e w1 ⟨rfl, hb⟩
  replace B := Lib.hid (w_below B.out hb)
  clear hb E1
  go_wp2_with fail
  refine (E2.out _ B.out).mono ?_
  rintro e w1 ⟨rfl, hb⟩
  replace B := Lib.hid (w_below B.out hb)
  clear hb E2
  go_wp2_with fail
  refine (E3.out _ B.out).mono ?_
  rintro e w1 ⟨rfl, hb⟩
  replace B := Lib.hid (w_below B.out hb)
  clear hb E3
  go_wp2_with fail
  refine (E4.out _ B.out).mono ?_
  rintro e w1 ⟨rfl, hb⟩
  replace B := Lib.hid (w_below B.out hb)
  clear hb E4
  go_wp2_with fail
  refine (E5.out _ B.out).mono ?_
  rintro e w1 ⟨rfl, hb⟩
  replace B := Lib.hid (w_below B.out hb)
  clear hb E5
  go_wp2_with fail
  refine (E6.out _ B.out).mono ?_
  rintro e w1 ⟨rfl, hb⟩
  replace B := Lib.hid (w_below B.out hb)
  clear hb E6
  go_wp2_with fail
  refine (E7.out _ B.out).mono ?_
  rintro e w1 ⟨rfl, hb⟩
  replace B := Lib.hid (w_below B.out hb)
  clear hb E7
  go_wp2_with fail
  refine (E8.out _ B.out).mono ?_
  rintro e w1 ⟨rfl, hb⟩
  replace B := Lib.hid (w_below B.out hb)
  clear hb E8
  go_wp2_with fail
  refine (E9.out _ B.out).mono ?_
  rintro e w1 ⟨rfl, hb⟩
  replace B := Lib.hid (w_below B.out hb)
  clear hb E9
  go_wp2_with fail
  refine (F0.out _ B.out).mono ?_
  rintro e w1 ⟨rfl, hb⟩
  replace B := Lib.hid (w_below B.out hb)
  clear hb F0
  go_wp2_with fail
  refine (F1.out _ B.out).mono ?_
  rintro e w1 ⟨rfl, hb⟩
  replace B := Lib.hid (w_below B.out hb)
  clear hb F1
  go_wp2_with fail
  refine (F2.out _ B.out).mono ?_
  rintro e w1 ⟨rfl, hb⟩
  replace B := Lib.hid (w_below B.out hb)
  clear hb F2
  go_wp2_with fail
  refine (F3.out _ B.out).mono ?_
  rintro e w1 ⟨rfl, hb⟩
  replace B := Lib.hid (w_below B.out hb)
  clear hb F3
  go_wp2_with fail
  refine (F4.out _ B.out).mono ?_
  rintro e w1 ⟨rfl, hb⟩
  replace B := Lib.hid (w_below B.out hb)
  clear hb F4
  go_wp2_with fail
  refine (AW.out _ B.out).mono ?_
  rintro e w1 ⟨rfl, hb⟩
  replace B := Lib.hid (w_below B.out hb)
  clear hb AW
  go_wp2_with fail
  go_ret
  exact ⟨rfl, B.out⟩
end Go.Proofs.YtdmedealdhadcaaGreatDoor
