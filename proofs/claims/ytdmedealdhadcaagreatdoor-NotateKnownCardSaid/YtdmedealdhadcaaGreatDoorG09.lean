/- Pieces that a cursor takes: one of five marks. Pieces that a cursor takes: accidentals, stems, steps of clefs. Pieces that a cursor takes: digits, places, numbers, values. -/
import Derived.Test.YtdmedealdhadcaaGreatDoorG08
import Derived.Shelf.Strings.SlTrimAscii

namespace Go.Proofs.YtdmedealdhadcaaGreatDoor
open Go.RowKit
/-- The first of the marks that comes next. -/
def oneF : List ByteArray → Nat → List UInt8 → Option (Nat × List UInt8)
  | [], _, _ => none
  | m :: ms, k, l => if m.toList.isEmpty = false ∧ Lib.hasPrefix l m.data.toList = true then some (k, Lib.trimPrefix l m.data.toList) else oneF ms (k + 1) l
theorem one_hit {m : ByteArray} {ms : List ByteArray} {k : Nat} {l : List UInt8} (h1 : m.toList.isEmpty = false) (h2 : Lib.hasPrefix l m.data.toList = true) : oneF (m :: ms) k l = some (k, Lib.trimPrefix l m.data.toList) := if_pos ⟨h1, h2⟩
theorem one_skip {m : ByteArray} {ms : List ByteArray} {k : Nat} {l : List UInt8} (h : m.toList.isEmpty = true) : oneF (m :: ms) k l = oneF ms (k + 1) l := if_neg (fun x => by rw [h] at x; cases x.1)
theorem one_miss {m : ByteArray} {ms : List ByteArray} {k : Nat} {l : List UInt8} (h : Lib.hasPrefix l m.data.toList = false) : oneF (m :: ms) k l = oneF ms (k + 1) l := if_neg (fun x => by rw [h] at x; cases x.2)
def marksV (a b c d e : ByteArray) : Value := .agg #[.string a, .string b, .string c, .string d, .string e]
def OnePost (R : Option (Nat × List UInt8)) (b : Nat) (x : Cu) (W : World) (e : Ending) (W' : World) : Prop :=
  Mv b W W' ∧ (∀ k t, R = some (k, t) → e = .returned (.tuple #[.int .i64 k, .bool true]) ∧ CuX W' b (t, x.2)) ∧ (R = none → e = .returned (.tuple #[.int .i64 0, .bool false]) ∧ CuX W' b x)
theorem ix_m0 (m0 m1 m2 m3 m4 : ByteArray) (V : World) : (Instr.index 162 (.agg #[.string m0, .string m1, .string m2, .string m3, .string m4]) (.int .i64 0)).run Tryz.prog V = .ok (.string m0) V := by kernel_rfl
theorem ix_m1 (m0 m1 m2 m3 m4 : ByteArray) (V : World) : (Instr.index 162 (.agg #[.string m0, .string m1, .string m2, .string m3, .string m4]) (.int .i64 1)).run Tryz.prog V = .ok (.string m1) V := by kernel_rfl
theorem ix_m2 (m0 m1 m2 m3 m4 : ByteArray) (V : World) : (Instr.index 162 (.agg #[.string m0, .string m1, .string m2, .string m3, .string m4]) (.int .i64 2)).run Tryz.prog V = .ok (.string m2) V := by kernel_rfl
theorem ix_m3 (m0 m1 m2 m3 m4 : ByteArray) (V : World) : (Instr.index 162 (.agg #[.string m0, .string m1, .string m2, .string m3, .string m4]) (.int .i64 3)).run Tryz.prog V = .ok (.string m3) V := by kernel_rfl
theorem ix_m4 (m0 m1 m2 m3 m4 : ByteArray) (V : World) : (Instr.index 162 (.agg #[.string m0, .string m1, .string m2, .string m3, .string m4]) (.int .i64 4)).run Tryz.prog V = .ok (.string m4) V := by kernel_rfl
set_option maxRecDepth 100000 in
set_option maxHeartbeats 8000000 in
theorem pone_of (m0 m1 m2 m3 m4 : ByteArray) (b : Nat) (x : Cu) (W : World) (h : CuX W b x) :
    Calls Tryz.prog 167 #[.pointer (some ⟨b, 0, none⟩), marksV m0 m1 m2 m3 m4] W (OnePost (oneF [m0, m1, m2, m3, m4] 0 x.1) b x W) := by
  obtain ⟨R, hR0⟩ : ∃ R, oneF [m0, m1, m2, m3, m4] 0 x.1 = R := ⟨_, rfl⟩
  rw [hR0]
  have HR := Lib.hid hR0
  have HX := Lib.hid h
  have T := Lib.hid (fun m V (hV : CuX V b x) => take_raw m b x V hV)
  have hlt := h.lt
  clear hR0 h
  unfold OnePost marksV
  go_enter Tryz.func167, Tryz.ntmps167
  go_wp2_with fail
  go_loopw [9] (fun s9 W2 => ∃ k : Nat, k ≤ 5 ∧ s9 = .int .i64 k ∧ Hid (oneF ([m0, m1, m2, m3, m4].drop k) k x.1 = R) ∧ Hid (CuX W2 b x) ∧ Hid (Mv b W W2)) (fun s9 _ => 5 - (intOf s9).toNat)
  case atStart => exact ⟨0, by omega, rfl, HR, Lib.hid (HX.out.later (w_alloc (w_refl W) _)), Lib.hid (Mv.of (w_alloc (w_refl W) _))⟩
  case round =>
    clear HX HR
    obtain ⟨k, hk5, rfl, hk, HX, HM⟩ := hrel
    rename World => W2
    by_cases hk6 : k < 5
    · have c : k = 0 ∨ k = 1 ∨ k = 2 ∨ k = 3 ∨ k = 4 := by omega
      clear hk5 hk6
      rcases c with rfl | rfl | rfl | rfl | rfl
      · have hix := fun V => ix_m0 m0 m1 m2 m3 m4 V
        have hR := Lib.hid (show oneF (m0 :: [m1, m2, m3, m4]) 0 x.1 = R from hk.out)
        clear hk
        by_cases he : m0.toList.isEmpty = true
        · have hn := Lib.hid (show oneF [m1, m2, m3, m4] 1 x.1 = R by rw [← hR.out, one_skip he])
          clear hR T
          go_wp2_with fail
          go_roundw
          case rel => exact ⟨1, by decide, rfl, hn, HX, HM⟩
          case measure => decide
        · have he : m0.toList.isEmpty = false := by simpa using he
          have TK := Lib.hid (T.out m0 W2 HX.out)
          cases hp : Lib.hasPrefix x.1 m0.data.toList with
          | true =>
            have hf := Lib.hid (show some (0, Lib.trimPrefix x.1 m0.data.toList) = R by rw [← hR.out, one_hit he hp])
            rw [hp] at TK
            clear hR T hp HX
            go_wp2_with fail
            refine TK.out.mono ?_
            rintro e w3 ⟨rfl, hc, hm⟩
            have HX := Lib.hid hc
            have H3 := Lib.hid (HM.out.trans hm)
            clear hc hm TK HM
            go_wp2_with fail
            go_ret2
            refine ⟨H3.out, fun k t hk => ?_, fun hn => ?_⟩
            · rw [← hf.out] at hk
              obtain ⟨rfl, rfl⟩ := Prod.mk.inj (Option.some.inj hk)
              exact ⟨rfl, HX.out⟩
            · rw [← hf.out] at hn; cases hn
          | false =>
            have hn := Lib.hid (show oneF [m1, m2, m3, m4] 1 x.1 = R by rw [← hR.out, one_miss hp])
            have htr := Lib.hid (show Lib.trimPrefix x.1 m0.data.toList = x.1 by unfold Lib.trimPrefix; rw [hp]; rfl)
            rw [hp, htr.out] at TK
            clear hR T hp HX htr
            go_wp2_with fail
            refine TK.out.mono ?_
            rintro e w3 ⟨rfl, hc, hm⟩
            have HX := Lib.hid hc
            have H3 := Lib.hid (HM.out.trans hm)
            clear hc hm TK HM
            go_wp2_with fail
            go_roundw
            case rel => exact ⟨1, by decide, rfl, hn, HX, H3⟩
            case measure => decide
      · have hix := fun V => ix_m1 m0 m1 m2 m3 m4 V
        have hR := Lib.hid (show oneF (m1 :: [m2, m3, m4]) 1 x.1 = R from hk.out)
        clear hk
        by_cases he : m1.toList.isEmpty = true
        · have hn := Lib.hid (show oneF [m2, m3, m4] 2 x.1 = R by rw [← hR.out, one_skip he])
          clear hR T
          go_wp2_with fail
          go_roundw
          case rel => exact ⟨2, by decide, rfl, hn, HX, HM⟩
          case measure => decide
        · have he : m1.toList.isEmpty = false := by simpa using he
          have TK := Lib.hid (T.out m1 W2 HX.out)
          cases hp : Lib.hasPrefix x.1 m1.data.toList with
          | true =>
            have hf := Lib.hid (show some (1, Lib.trimPrefix x.1 m1.data.toList) = R by rw [← hR.out, one_hit he hp])
            rw [hp] at TK
            clear hR T hp HX
            go_wp2_with fail
            refine TK.out.mono ?_
            rintro e w3 ⟨rfl, hc, hm⟩
            have HX := Lib.hid hc
            have H3 := Lib.hid (HM.out.trans hm)
            clear hc hm TK HM
            go_wp2_with fail
            go_ret2
            refine ⟨H3.out, fun k t hk => ?_, fun hn => ?_⟩
            · rw [← hf.out] at hk
              obtain ⟨rfl, rfl⟩ := Prod.mk.inj (Option.some.inj hk)
              exact ⟨rfl, HX.out⟩
            · rw [← hf.out] at hn; cases hn
          | false =>
            have hn := Lib.hid (show oneF [m2, m3, m4] 2 x.1 = R by rw [← hR.out, one_miss hp])
            have htr := Lib.hid (show Lib.trimPrefix x.1 m1.data.toList = x.1 by unfold Lib.trimPrefix; rw [hp]; rfl)
            rw [hp, htr.out] at TK
            clear hR T hp HX htr
            go_wp2_with fail
            refine TK.out.mono ?_
            rintro e w3 ⟨rfl, hc, hm⟩
            have HX := Lib.hid hc
            have H3 := Lib.hid (HM.out.trans hm)
            clear hc hm TK HM
            go_wp2_with fail
            go_roundw
            case rel => exact ⟨2, by decide, rfl, hn, HX, H3⟩
            case measure => decide
      · have hix := fun V => ix_m2 m0 m1 m2 m3 m4 V
        have hR := Lib.hid (show oneF (m2 :: [m3, m4]) 2 x.1 = R from hk.out)
        clear hk
        by_cases he : m2.toList.isEmpty = true
        · have hn := Lib.hid (show oneF [m3, m4] 3 x.1 = R by rw [← hR.out, one_skip he])
          clear hR T
          go_wp2_with fail
          go_roundw
          case rel => exact ⟨3, by decide, rfl, hn, HX, HM⟩
          case measure => decide
        · have he : m2.toList.isEmpty = false := by simpa using he
          have TK := Lib.hid (T.out m2 W2 HX.out)
          cases hp : Lib.hasPrefix x.1 m2.data.toList with
          | true =>
            have hf := Lib.hid (show some (2, Lib.trimPrefix x.1 m2.data.toList) = R by rw [← hR.out, one_hit he hp])
            rw [hp] at TK
            clear hR T hp HX
            go_wp2_with fail
            refine TK.out.mono ?_
            rintro e w3 ⟨rfl, hc, hm⟩
            have HX := Lib.hid hc
            have H3 := Lib.hid (HM.out.trans hm)
            clear hc hm TK HM
            go_wp2_with fail
            go_ret2
            refine ⟨H3.out, fun k t hk => ?_, fun hn => ?_⟩
            · rw [← hf.out] at hk
              obtain ⟨rfl, rfl⟩ := Prod.mk.inj (Option.some.inj hk)
              exact ⟨rfl, HX.out⟩
            · rw [← hf.out] at hn; cases hn
          | false =>
            have hn := Lib.hid (show oneF [m3, m4] 3 x.1 = R by rw [← hR.out, one_miss hp])
            have htr := Lib.hid (show Lib.trimPrefix x.1 m2.data.toList = x.1 by unfold Lib.trimPrefix; rw [hp]; rfl)
            rw [hp, htr.out] at TK
            clear hR T hp HX htr
            go_wp2_with fail
            refine TK.out.mono ?_
            rintro e w3 ⟨rfl, hc, hm⟩
            have HX := Lib.hid hc
            have H3 := Lib.hid (HM.out.trans hm)
            clear hc hm TK HM
            go_wp2_with fail
            go_roundw
            case rel => exact ⟨3, by decide, rfl, hn, HX, H3⟩
            case measure => decide
      · have hix := fun V => ix_m3 m0 m1 m2 m3 m4 V
        have hR := Lib.hid (show oneF (m3 :: [m4]) 3 x.1 = R from hk.out)
        clear hk
        by_cases he : m3.toList.isEmpty = true
        · have hn := Lib.hid (show oneF [m4] 4 x.1 = R by rw [← hR.out, one_skip he])
          clear hR T
          go_wp2_with fail
          go_roundw
          case rel => exact ⟨4, by decide, rfl, hn, HX, HM⟩
          case measure => decide
        · have he : m3.toList.isEmpty = false := by simpa using he
          have TK := Lib.hid (T.out m3 W2 HX.out)
          cases hp : Lib.hasPrefix x.1 m3.data.toList with
          | true =>
            have hf := Lib.hid (show some (3, Lib.trimPrefix x.1 m3.data.toList) = R by rw [← hR.out, one_hit he hp])
            rw [hp] at TK
            clear hR T hp HX
            go_wp2_with fail
            refine TK.out.mono ?_
            rintro e w3 ⟨rfl, hc, hm⟩
            have HX := Lib.hid hc
            have H3 := Lib.hid (HM.out.trans hm)
            clear hc hm TK HM
            go_wp2_with fail
            go_ret2
            refine ⟨H3.out, fun k t hk => ?_, fun hn => ?_⟩
            · rw [← hf.out] at hk
              obtain ⟨rfl, rfl⟩ := Prod.mk.inj (Option.some.inj hk)
              exact ⟨rfl, HX.out⟩
            · rw [← hf.out] at hn; cases hn
          | false =>
            have hn := Lib.hid (show oneF [m4] 4 x.1 = R by rw [← hR.out, one_miss hp])
            have htr := Lib.hid (show Lib.trimPrefix x.1 m3.data.toList = x.1 by unfold Lib.trimPrefix; rw [hp]; rfl)
            rw [hp, htr.out] at TK
            clear hR T hp HX htr
            go_wp2_with fail
            refine TK.out.mono ?_
            rintro e w3 ⟨rfl, hc, hm⟩
            have HX := Lib.hid hc
            have H3 := Lib.hid (HM.out.trans hm)
            clear hc hm TK HM
            go_wp2_with fail
            go_roundw
            case rel => exact ⟨4, by decide, rfl, hn, HX, H3⟩
            case measure => decide
      · have hix := fun V => ix_m4 m0 m1 m2 m3 m4 V
        have hR := Lib.hid (show oneF (m4 :: []) 4 x.1 = R from hk.out)
        clear hk
        by_cases he : m4.toList.isEmpty = true
        · have hn := Lib.hid (show oneF [] 5 x.1 = R by rw [← hR.out, one_skip he])
          clear hR T
          go_wp2_with fail
          go_roundw
          case rel => exact ⟨5, by decide, rfl, hn, HX, HM⟩
          case measure => decide
        · have he : m4.toList.isEmpty = false := by simpa using he
          have TK := Lib.hid (T.out m4 W2 HX.out)
          cases hp : Lib.hasPrefix x.1 m4.data.toList with
          | true =>
            have hf := Lib.hid (show some (4, Lib.trimPrefix x.1 m4.data.toList) = R by rw [← hR.out, one_hit he hp])
            rw [hp] at TK
            clear hR T hp HX
            go_wp2_with fail
            refine TK.out.mono ?_
            rintro e w3 ⟨rfl, hc, hm⟩
            have HX := Lib.hid hc
            have H3 := Lib.hid (HM.out.trans hm)
            clear hc hm TK HM
            go_wp2_with fail
            go_ret2
            refine ⟨H3.out, fun k t hk => ?_, fun hn => ?_⟩
            · rw [← hf.out] at hk
              obtain ⟨rfl, rfl⟩ := Prod.mk.inj (Option.some.inj hk)
              exact ⟨rfl, HX.out⟩
            · rw [← hf.out] at hn; cases hn
          | false =>
            have hn := Lib.hid (show oneF [] 5 x.1 = R by rw [← hR.out, one_miss hp])
            have htr := Lib.hid (show Lib.trimPrefix x.1 m4.data.toList = x.1 by unfold Lib.trimPrefix; rw [hp]; rfl)
            rw [hp, htr.out] at TK
            clear hR T hp HX htr
            go_wp2_with fail
            refine TK.out.mono ?_
            rintro e w3 ⟨rfl, hc, hm⟩
            have HX := Lib.hid hc
            have H3 := Lib.hid (HM.out.trans hm)
            clear hc hm TK HM
            go_wp2_with fail
            go_roundw
            case rel => exact ⟨5, by decide, rfl, hn, HX, H3⟩
            case measure => decide
    · obtain rfl : k = 5 := by omega
      have hf := Lib.hid (show none = R from hk.out)
      clear hk T
      go_wp2_with fail
      go_ret2
      refine ⟨HM.out, fun k t hk => ?_, fun _ => ⟨rfl, HX.out⟩⟩
      rw [← hf.out] at hk; cases hk
end Go.Proofs.YtdmedealdhadcaaGreatDoor

namespace Go.Proofs.YtdmedealdhadcaaGreatDoor
open Go.RowKit
set_option maxRecDepth 100000 in
theorem maccidentals_any (w : World) : Calls Tryz.prog 164 #[] w fun e w' => e = .returned (marksV ⟨#[98]⟩ ⟨#[]⟩ ⟨#[35]⟩ ⟨#[110]⟩ ⟨#[]⟩) ∧ Below w.heap.size w w' := by
  go_enter Tryz.func164, Tryz.ntmps164
  go_wp2_with fail
  refine bodyPost_ret (v := marksV ⟨#[98]⟩ ⟨#[]⟩ ⟨#[35]⟩ ⟨#[110]⟩ ⟨#[]⟩) (by simp [results, Tryz.results164, go_sem, marksV]) rfl ⟨rfl, ?_⟩
  exact w_alloc (w_refl w) _
def Laccidentals : List ByteArray := [⟨#[98]⟩, ⟨#[]⟩, ⟨#[35]⟩, ⟨#[110]⟩, ⟨#[]⟩]
set_option maxRecDepth 100000 in
theorem mstems_any (w : World) : Calls Tryz.prog 127 #[] w fun e w' => e = .returned (marksV ⟨#[]⟩ ⟨#[94]⟩ ⟨#[118]⟩ ⟨#[62]⟩ ⟨#[]⟩) ∧ Below w.heap.size w w' := by
  go_enter Tryz.func127, Tryz.ntmps127
  go_wp2_with fail
  refine bodyPost_ret (v := marksV ⟨#[]⟩ ⟨#[94]⟩ ⟨#[118]⟩ ⟨#[62]⟩ ⟨#[]⟩) (by simp [results, Tryz.results127, go_sem, marksV]) rfl ⟨rfl, ?_⟩
  exact w_alloc (w_refl w) _
def Lstems : List ByteArray := [⟨#[]⟩, ⟨#[94]⟩, ⟨#[118]⟩, ⟨#[62]⟩, ⟨#[]⟩]
set_option maxRecDepth 100000 in
theorem mclefs_any (w : World) : Calls Tryz.prog 137 #[] w fun e w' => e = .returned (marksV ⟨#[67]⟩ ⟨#[]⟩ ⟨#[]⟩ ⟨#[70]⟩ ⟨#[71]⟩) ∧ Below w.heap.size w w' := by
  go_enter Tryz.func137, Tryz.ntmps137
  go_wp2_with fail
  refine bodyPost_ret (v := marksV ⟨#[67]⟩ ⟨#[]⟩ ⟨#[]⟩ ⟨#[70]⟩ ⟨#[71]⟩) (by simp [results, Tryz.results137, go_sem, marksV]) rfl ⟨rfl, ?_⟩
  exact w_alloc (w_refl w) _
def Lclefs : List ByteArray := [⟨#[67]⟩, ⟨#[]⟩, ⟨#[]⟩, ⟨#[70]⟩, ⟨#[71]⟩]
theorem em0 : (⟨#[]⟩ : ByteArray).toList.isEmpty = true := by rw [Lib.toList_data]; rfl
theorem em1 (c : UInt8) : (⟨#[c]⟩ : ByteArray).toList.isEmpty = false := by rw [Lib.toList_data]; rfl
theorem one_tk (c : UInt8) (ms : List ByteArray) (k : Nat) (l : List UInt8) : oneF (⟨#[c]⟩ :: ms) k l = ((tk c l).map fun t => (k, t)).or (oneF ms (k + 1) l) := by
  obtain ⟨p1, p2⟩ := pre_tk c l
  have e : (⟨#[c]⟩ : ByteArray) = bytes [c] := rfl
  show (if _ then _ else _) = _
  rw [e, p1, p2]
  cases h : tk c l with
  | some t => rw [if_pos ⟨em1 c, rfl⟩]; rfl
  | none => rw [if_neg (fun x => by cases x.2)]; rfl
theorem one_em (ms : List ByteArray) (k : Nat) (l : List UInt8) : oneF (⟨#[]⟩ :: ms) k l = oneF ms (k + 1) l := one_skip em0
theorem acc_one (l : List UInt8) : (∀ k t, oneF Laccidentals 0 l = some (k, t) → accR l = ((k : Int) - 1, t)) ∧ (oneF Laccidentals 0 l = none → accR l = (0, l)) := by
  have e : oneF Laccidentals 0 l = ((tk 98 l).map fun t => (0, t)).or (((tk 35 l).map fun t => (2, t)).or (((tk 110 l).map fun t => (3, t)).or none)) := by
    unfold Laccidentals
    rw [one_tk, one_em, one_tk, one_tk, one_em]; rfl
  rw [e]
  unfold accR
  cases tk 98 l with
  | some t => exact ⟨fun k u h => by cases h; rfl, fun h => by cases h⟩
  | none =>
    cases tk 35 l with
    | some t => exact ⟨fun k u h => by cases h; rfl, fun h => by cases h⟩
    | none =>
      cases tk 110 l with
      | some t => exact ⟨fun k u h => by cases h; rfl, fun h => by cases h⟩
      | none => exact ⟨fun k u h => (by cases h), fun _ => rfl⟩
theorem stem_one (l : List UInt8) : (∀ k t, oneF Lstems 0 l = some (k, t) → stemR l = ((k : Int), t)) ∧ (oneF Lstems 0 l = none → stemR l = (0, l)) := by
  have e : oneF Lstems 0 l = ((tk 94 l).map fun t => (1, t)).or (((tk 118 l).map fun t => (2, t)).or (((tk 62 l).map fun t => (3, t)).or none)) := by
    unfold Lstems
    rw [one_em, one_tk, one_tk, one_tk, one_em]; rfl
  rw [e]
  unfold stemR
  cases tk 94 l with
  | some t => exact ⟨fun k u h => by cases h; rfl, fun h => by cases h⟩
  | none =>
    cases tk 118 l with
    | some t => exact ⟨fun k u h => by cases h; rfl, fun h => by cases h⟩
    | none =>
      cases tk 62 l with
      | some t => exact ⟨fun k u h => by cases h; rfl, fun h => by cases h⟩
      | none => exact ⟨fun k u h => (by cases h), fun _ => rfl⟩
theorem step_one (l : List UInt8) (s : Sg) : (∀ k t, oneF Lclefs 0 l = some (k, t) → rdStep (l, s) = some (t, { s with c0 := (k : Int) })) ∧ (oneF Lclefs 0 l = none → rdStep (l, s) = none) := by
  have e : oneF Lclefs 0 l = ((tk 67 l).map fun t => (0, t)).or (((tk 70 l).map fun t => (3, t)).or (((tk 71 l).map fun t => (4, t)).or none)) := by
    unfold Lclefs
    rw [one_tk, one_em, one_em, one_tk, one_tk]; rfl
  rw [e]
  unfold rdStep
  cases tk 67 l with
  | some t => exact ⟨fun k u h => by cases h; rfl, fun h => by cases h⟩
  | none =>
    cases tk 70 l with
    | some t => exact ⟨fun k u h => by cases h; rfl, fun h => by cases h⟩
    | none =>
      cases tk 71 l with
      | some t => exact ⟨fun k u h => by cases h; rfl, fun h => by cases h⟩
      | none => exact ⟨fun k u h => (by cases h), fun _ => rfl⟩
def PcA (f : FuncId) (F : Cu → Option Cu) : Prop := ∀ (W : World) (b : Nat) (x : Cu), x.1.length ≤ 1000000 → x.2.acc = 0 → CuX W b x → Calls Tryz.prog f #[.pointer (some ⟨b, 0, none⟩)] W
  fun e W' => Mv b W W' ∧ (∀ y, F x = some y → e = .returned (.bool true) ∧ CuX W' b y) ∧ (F x = none → e = .returned (.bool false))
theorem oneF_le : ∀ (ms : List ByteArray) (i : Nat) (l : List UInt8) {k : Nat} {t : List UInt8}, oneF ms i l = some (k, t) → k + 1 ≤ i + ms.length
  | [], _, _, _, _, h => by cases h
  | m :: ms, i, l, k, t, h => by
    unfold oneF at h
    split at h
    · obtain ⟨rfl, _⟩ := Prod.mk.inj (Option.some.inj h)
      simp only [List.length_cons]; omega
    · have := oneF_le ms (i + 1) l h
      simp only [List.length_cons]; omega
theorem one_le {l : List UInt8} {k : Nat} {t : List UInt8} (h : oneF Laccidentals 0 l = some (k, t)) : k ≤ 4 := by
  have := oneF_le _ _ _ h
  simp only [Laccidentals, List.length_cons, List.length_nil] at this; omega
set_option maxRecDepth 100000 in
set_option maxHeartbeats 4000000 in
theorem pstem_any : Pc 129 rdStem := by
  intro W b x _ h
  obtain ⟨l, s⟩ := x
  have HX := Lib.hid h
  have MA := Lib.hid (fun V => mstems_any V)
  have OA := Lib.hid (fun V (hV : CuX V b (l, s)) => pone_of ⟨#[]⟩ ⟨#[94]⟩ ⟨#[118]⟩ ⟨#[62]⟩ ⟨#[]⟩ b (l, s) V hV)
  have hlt := h.lt
  cases e : oneF Lstems 0 l with
  | some r =>
    obtain ⟨k, t⟩ := r
    have fin := Lib.hid (show rdStem (l, s) = some (t, { s with stem := (k : Int) }) by unfold rdStem; rw [(stem_one l).1 k t e])
    have e2 : oneF [⟨#[]⟩, ⟨#[94]⟩, ⟨#[118]⟩, ⟨#[62]⟩, ⟨#[]⟩] 0 (l, s).1 = some (k, t) := e
    rw [e2] at OA
    clear e e2 h
    go_enter Tryz.func129, Tryz.ntmps129
    go_wp2_with fail
    refine (MA.out _).mono ?_
    rintro e w1 ⟨rfl, hb⟩
    have HX1 := Lib.hid (HX.out.later hb)
    have HM1 := Lib.hid (Mv.of (b := b) hb)
    have O1 := Lib.hid (OA.out w1 HX1.out)
    clear hb MA OA HX HX1
    unfold marksV
    unfold marksV at O1
    go_wp2_with fail
    refine O1.out.mono ?_
    rintro e w2 ⟨hm, hs, hn⟩
    obtain ⟨rfl, hc⟩ := hs k t rfl
    have HX := Lib.hid hc
    have HM := Lib.hid (HM1.out.trans hm)
    unfold CuX at HX
    clear hc hm hs hn O1 HM1
    go_wp2_with (first | (refine wl_cell 3 b 6 123 _ (.int .i64 (k : Int)) (by kernel_rfl) (by kernel_rfl) HX.out (show 6 < 18 by decide) sz_int rfl rfl ?_) | fail)
    intro W2 h2 h3
    have H2 := Lib.hid h2
    have H3 := Lib.hid (HM.out.trans h3)
    clear h2 h3 HX HM
    go_wp2_with fail
    go_ret
    refine ⟨H3.out, fun y hy => ?_, fun hn => ?_⟩
    · obtain rfl := Option.some.inj (hy.symm.trans fin.out)
      exact ⟨rfl, H2.out⟩
    · rw [fin.out] at hn; cases hn
  | none =>
    have fin := Lib.hid (show rdStem (l, s) = some (l, { s with stem := 0 }) by unfold rdStem; rw [(stem_one l).2 e])
    have e2 : oneF [⟨#[]⟩, ⟨#[94]⟩, ⟨#[118]⟩, ⟨#[62]⟩, ⟨#[]⟩] 0 (l, s).1 = none := e
    rw [e2] at OA
    clear e e2 h
    go_enter Tryz.func129, Tryz.ntmps129
    go_wp2_with fail
    refine (MA.out _).mono ?_
    rintro e w1 ⟨rfl, hb⟩
    have HX1 := Lib.hid (HX.out.later hb)
    have HM1 := Lib.hid (Mv.of (b := b) hb)
    have O1 := Lib.hid (OA.out w1 HX1.out)
    clear hb MA OA HX HX1
    unfold marksV
    unfold marksV at O1
    go_wp2_with fail
    refine O1.out.mono ?_
    rintro e w2 ⟨hm, hs, hn⟩
    obtain ⟨rfl, hc⟩ := hn rfl
    have HX := Lib.hid hc
    have HM := Lib.hid (HM1.out.trans hm)
    unfold CuX at HX
    clear hc hm hs hn O1 HM1
    go_wp2_with (first | (refine wl_cell 3 b 6 123 _ (.int .i64 0) (by kernel_rfl) (by kernel_rfl) HX.out (show 6 < 18 by decide) sz_int rfl rfl ?_) | fail)
    intro W2 h2 h3
    have H2 := Lib.hid h2
    have H3 := Lib.hid (HM.out.trans h3)
    clear h2 h3 HX HM
    go_wp2_with fail
    go_ret
    refine ⟨H3.out, fun y hy => ?_, fun hn => ?_⟩
    · obtain rfl := Option.some.inj (hy.symm.trans fin.out)
      exact ⟨rfl, H2.out⟩
    · rw [fin.out] at hn; cases hn
set_option maxRecDepth 100000 in
set_option maxHeartbeats 4000000 in
theorem pstep_any : Pc 138 rdStep := by
  intro W b x _ h
  obtain ⟨l, s⟩ := x
  have HX := Lib.hid h
  have MA := Lib.hid (fun V => mclefs_any V)
  have OA := Lib.hid (fun V (hV : CuX V b (l, s)) => pone_of ⟨#[67]⟩ ⟨#[]⟩ ⟨#[]⟩ ⟨#[70]⟩ ⟨#[71]⟩ b (l, s) V hV)
  have hlt := h.lt
  cases e : oneF Lclefs 0 l with
  | some r =>
    obtain ⟨k, t⟩ := r
    have fin := Lib.hid ((step_one l s).1 k t e)
    have e2 : oneF [⟨#[67]⟩, ⟨#[]⟩, ⟨#[]⟩, ⟨#[70]⟩, ⟨#[71]⟩] 0 (l, s).1 = some (k, t) := e
    rw [e2] at OA
    clear e e2 h
    go_enter Tryz.func138, Tryz.ntmps138
    go_wp2_with fail
    refine (MA.out _).mono ?_
    rintro e w1 ⟨rfl, hb⟩
    have HX1 := Lib.hid (HX.out.later hb)
    have HM1 := Lib.hid (Mv.of (b := b) hb)
    have O1 := Lib.hid (OA.out w1 HX1.out)
    clear hb MA OA HX HX1
    unfold marksV
    unfold marksV at O1
    go_wp2_with fail
    refine O1.out.mono ?_
    rintro e w2 ⟨hm, hs, hn⟩
    obtain ⟨rfl, hc⟩ := hs k t rfl
    have HX := Lib.hid hc
    have HM := Lib.hid (HM1.out.trans hm)
    unfold CuX at HX
    clear hc hm hs hn O1 HM1
    go_wp2_with (first | (refine wl_cell 3 b 16 123 _ (.int .i64 (k : Int)) (by kernel_rfl) (by kernel_rfl) HX.out (show 16 < 18 by decide) sz_int rfl rfl ?_) | fail)
    intro W2 h2 h3
    have H2 := Lib.hid h2
    have H3 := Lib.hid (HM.out.trans h3)
    clear h2 h3 HX HM
    go_wp2_with fail
    go_ret
    refine ⟨H3.out, fun y hy => ?_, fun hn => ?_⟩
    · obtain rfl := Option.some.inj (hy.symm.trans fin.out)
      exact ⟨rfl, H2.out⟩
    · rw [fin.out] at hn; cases hn
  | none =>
    have fin := Lib.hid ((step_one l s).2 e)
    have e2 : oneF [⟨#[67]⟩, ⟨#[]⟩, ⟨#[]⟩, ⟨#[70]⟩, ⟨#[71]⟩] 0 (l, s).1 = none := e
    rw [e2] at OA
    clear e e2 h
    go_enter Tryz.func138, Tryz.ntmps138
    go_wp2_with fail
    refine (MA.out _).mono ?_
    rintro e w1 ⟨rfl, hb⟩
    have HX1 := Lib.hid (HX.out.later hb)
    have HM1 := Lib.hid (Mv.of (b := b) hb)
    have O1 := Lib.hid (OA.out w1 HX1.out)
    clear hb MA OA HX HX1
    unfold marksV
    unfold marksV at O1
    go_wp2_with fail
    refine O1.out.mono ?_
    rintro e w2 ⟨hm, hs, hn⟩
    obtain ⟨rfl, hc⟩ := hn rfl
    have HX := Lib.hid hc
    have HM := Lib.hid (HM1.out.trans hm)
    unfold CuX at HX
    clear hc hm hs hn O1 HM1
    go_wp2_with (first | (refine wl_cell 3 b 16 123 _ (.int .i64 0) (by kernel_rfl) (by kernel_rfl) HX.out (show 16 < 18 by decide) sz_int rfl rfl ?_) | fail)
    intro W2 h2 h3
    have H3 := Lib.hid (HM.out.trans h3)
    clear h2 h3 HX HM
    go_wp2_with fail
    go_ret
    exact ⟨H3.out, fun y hy => (by rw [fin.out] at hy; cases hy), fun _ => rfl⟩
set_option maxRecDepth 100000 in
set_option maxHeartbeats 4000000 in
theorem pacc_any : PcA 122 rdAcc := by
  intro W b x _ h0 h
  obtain ⟨l, s⟩ := x
  have HX := Lib.hid h
  have MA := Lib.hid (fun V => maccidentals_any V)
  have OA := Lib.hid (fun V (hV : CuX V b (l, s)) => pone_of ⟨#[98]⟩ ⟨#[]⟩ ⟨#[35]⟩ ⟨#[110]⟩ ⟨#[]⟩ b (l, s) V hV)
  have hlt := h.lt
  cases e : oneF Laccidentals 0 l with
  | some r =>
    obtain ⟨k, t⟩ := r
    have fin := Lib.hid (show rdAcc (l, s) = some (t, { s with acc := (k : Int) - 1 }) by unfold rdAcc; rw [(acc_one l).1 k t e])
    have hkb : k ≤ 4 := one_le e
    have e2 : oneF [⟨#[98]⟩, ⟨#[]⟩, ⟨#[35]⟩, ⟨#[110]⟩, ⟨#[]⟩] 0 (l, s).1 = some (k, t) := e
    rw [e2] at OA
    clear e e2 h
    go_enter Tryz.func122, Tryz.ntmps122
    go_wp2_with fail
    refine (MA.out _).mono ?_
    rintro e w1 ⟨rfl, hb⟩
    have HX1 := Lib.hid (HX.out.later hb)
    have HM1 := Lib.hid (Mv.of (b := b) hb)
    have O1 := Lib.hid (OA.out w1 HX1.out)
    clear hb MA OA HX HX1
    unfold marksV
    unfold marksV at O1
    go_wp2_with fail
    refine O1.out.mono ?_
    rintro e w2 ⟨hm, hs, hn⟩
    obtain ⟨rfl, hc⟩ := hs k t rfl
    have HX := Lib.hid hc
    have HM := Lib.hid (HM1.out.trans hm)
    unfold CuX at HX
    clear hc hm hs hn O1 HM1
    go_wp2_with (first | (refine wl_cell 3 b 4 123 _ (.int .i64 ((k : Int) - 1)) (by kernel_rfl) (by kernel_rfl) HX.out (show 4 < 18 by decide) sz_int rfl rfl ?_) | fail)
    intro W2 h2 h3
    have H2 := Lib.hid h2
    have H3 := Lib.hid (HM.out.trans h3)
    clear h2 h3 HX HM
    go_wp2_with fail
    go_ret
    refine ⟨H3.out, fun y hy => ?_, fun hn => ?_⟩
    · obtain rfl := Option.some.inj (hy.symm.trans fin.out)
      exact ⟨rfl, H2.out⟩
    · rw [fin.out] at hn; cases hn
  | none =>
    have fin := Lib.hid (show rdAcc (l, s) = some (l, s) by unfold rdAcc; rw [(acc_one l).2 e]; obtain ⟨_, _, _, _⟩ := s; obtain rfl := h0; rfl)
    have e2 : oneF [⟨#[98]⟩, ⟨#[]⟩, ⟨#[35]⟩, ⟨#[110]⟩, ⟨#[]⟩] 0 (l, s).1 = none := e
    rw [e2] at OA
    clear e e2 h
    go_enter Tryz.func122, Tryz.ntmps122
    go_wp2_with fail
    refine (MA.out _).mono ?_
    rintro e w1 ⟨rfl, hb⟩
    have HX1 := Lib.hid (HX.out.later hb)
    have HM1 := Lib.hid (Mv.of (b := b) hb)
    have O1 := Lib.hid (OA.out w1 HX1.out)
    clear hb MA OA HX HX1
    unfold marksV
    unfold marksV at O1
    go_wp2_with fail
    refine O1.out.mono ?_
    rintro e w2 ⟨hm, hs, hn⟩
    obtain ⟨rfl, hc⟩ := hn rfl
    have HX := Lib.hid hc
    have HM := Lib.hid (HM1.out.trans hm)
    unfold CuX at HX
    clear hc hm hs hn O1 HM1
    go_wp2_with fail
    go_ret
    refine ⟨HM.out, fun y hy => ?_, fun hn => ?_⟩
    · obtain rfl := Option.some.inj (hy.symm.trans fin.out)
      exact ⟨rfl, HX.out⟩
    · rw [fin.out] at hn; cases hn
end Go.Proofs.YtdmedealdhadcaaGreatDoor

namespace Go.Proofs.YtdmedealdhadcaaGreatDoor
open Go.RowKit
def digB : ByteArray := ⟨#[48, 49, 50, 51, 52, 53, 54, 55, 56, 57]⟩
theorem dig_cut : ∀ n ∈ List.range 256, digB.data.toList.contains (UInt8.ofNat n) = dig (UInt8.ofNat n) := by decide +kernel
theorem trim_dig (l : List UInt8) : Lib.trimLeftS l digB.data.toList = l.dropWhile dig := by
  unfold Lib.trimLeftS
  congr 1
  funext c
  have := dig_cut c.toNat (List.mem_range.2 c.toNat_lt)
  rwa [show UInt8.ofNat c.toNat = c by simp] at this
theorem trim_any (s : ByteArray) (w : World) : Calls Tryz.prog 182 #[.string s, .string digB] w fun e w' => e = .returned (.string (bytes (s.data.toList.dropWhile dig))) ∧ Below w.heap.size w w' := by
  have := Any.strings_TrimLeft_laid Tryz.lays161 (by kernel_rfl) s digB w (by decide) (Go.Proofs.ascii_of_all (by decide +kernel))
  rw [trim_dig] at this
  exact this
theorem take_drop (l : List UInt8) : l.length = (l.takeWhile dig).length + (l.dropWhile dig).length := by
  have := congrArg List.length (List.takeWhile_append_dropWhile (p := dig) (l := l))
  rw [List.length_append] at this
  exact this.symm
theorem extract_take (l : List UInt8) : (bytes l).extract 0 (l.takeWhile dig).length = bytes (l.takeWhile dig) := by
  rw [extract_bytes _ _ _ (by rw [bytes_size]; have := take_drop l; omega) (Nat.zero_le _), bytes_data, List.drop_zero]
  congr 1
  have e : l.take (l.takeWhile dig).length = (l.takeWhile dig ++ l.dropWhile dig).take (l.takeWhile dig).length := by rw [List.takeWhile_append_dropWhile]
  rw [e, List.take_left]
set_option maxRecDepth 100000 in
set_option maxHeartbeats 4000000 in
theorem pdig_any (b : Nat) (x : Cu) (W : World) (hl : x.1.length ≤ 1000000) (h : CuX W b x) : Calls Tryz.prog 166 #[.pointer (some ⟨b, 0, none⟩)] W
    fun e W' => e = .returned (.string (bytes (x.1.takeWhile dig))) ∧ CuX W' b (x.1.dropWhile dig, x.2) ∧ Mv b W W' := by
  obtain ⟨l, s⟩ := x
  have T := Lib.hid (fun V => trim_any (bytes l) V)
  rw [bytes_data] at T
  have c0 := h.left
  have HX := Lib.hid h
  have z1 : (bytes l).size = l.length := bytes_size l
  have z2 : (bytes (l.dropWhile dig)).size = (l.dropWhile dig).length := bytes_size _
  have z3 := take_drop l
  have ex := extract_take l
  change l.length ≤ 1000000 at hl
  show Calls _ _ _ _ fun e W' => e = .returned (.string (bytes (l.takeWhile dig))) ∧ CuX W' b (l.dropWhile dig, s) ∧ Mv b W W'
  unfold CuX at HX ⊢
  change Hid (HoldsB W b _ (cuA l s)) at HX
  change W.cell? _ = some (.string (bytes l)) at c0
  clear h
  show Calls _ _ _ _ fun e W' => e = .returned (.string (bytes (l.takeWhile dig))) ∧ HoldsB W' b _ (cuA (l.dropWhile dig) s) ∧ Mv b W W'
  generalize l.takeWhile dig = ds at *
  generalize l.dropWhile dig = rs at *
  generalize hL : bytes l = L at *
  generalize hR : bytes rs = R at *
  generalize hD : bytes ds = D at *
  generalize l.length = n at *
  generalize ds.length = p at *
  generalize rs.length = q at *
  have hpq : (n : Int) - q = p := by omega
  go_enter Tryz.func166, Tryz.ntmps166
  go_wp2_with fail
  refine (T.out _).mono ?_
  rintro e w1 ⟨rfl, hb⟩
  have c1 := cell_later hb c0
  have HX1 := Lib.hid (HX.out.later hb)
  have HM1 := Lib.hid (Mv.of (b := b) hb)
  clear hb T HX c0
  go_wp2_with fail
  go_region
  go_wp2_with (first | (refine wl_cell 9 b 0 123 _ (.string R) (by kernel_rfl) (by kernel_rfl) HX1.out (show 0 < 18 by decide) sz_string rfl rfl ?_) | fail)
  intro W2 h2 h3
  have H2 := Lib.hid (show HoldsB W2 b 123 (cuA rs s) by subst hR; exact h2)
  have H3 := Lib.hid (HM1.out.trans ((Mv.of (w_refl w1).drew).trans h3))
  clear h2 h3 HX1 HM1 c1
  go_wp2_with fail
  go_ret
  exact ⟨rfl, H2.out, H3.out⟩
/-! ### Numbers -/
set_option maxRecDepth 100000 in
set_option maxHeartbeats 4000000 in
/-- A number that goes into a field of the sign. -/
theorem pnum_any (b j : Nat) (hj : j < 18) (x : Cu) (W : World) (hl : x.1.length ≤ 1000000) (h : CuX W b x) : Calls Tryz.prog 136 #[.pointer (some ⟨b, 0, none⟩), .pointer (some ⟨b, j, none⟩)] W
    fun e W' => Mv b W W' ∧ (∀ n, numberV (x.1.takeWhile dig) = some n → e = .returned (.bool true) ∧ HoldsB W' b 123 ((cuA (x.1.dropWhile dig) x.2).setIfInBounds j (.int .i64 n))) ∧ (numberV (x.1.takeWhile dig) = none → e = .returned (.bool false)) := by
  have D := Lib.hid (pdig_any b x W hl h)
  obtain ⟨l, s⟩ := x
  change l.length ≤ 1000000 at hl
  have hz : (bytes (l.takeWhile dig)).size ≤ maxLen := by rw [bytes_size]; have := take_drop l; unfold maxLen; omega
  have NU := Lib.hid (fun V => wnumber_any (bytes (l.takeWhile dig)) V hz)
  rw [bytes_data] at NU
  change Hid (Calls _ _ _ _ fun e W' => e = .returned (.string (bytes (l.takeWhile dig))) ∧ CuX W' b (l.dropWhile dig, s) ∧ Mv b W W') at D
  show Calls _ _ _ _ fun e W' => Mv b W W' ∧ (∀ n, numberV (l.takeWhile dig) = some n → e = .returned (.bool true) ∧ HoldsB W' b 123 ((cuA (l.dropWhile dig) s).setIfInBounds j (.int .i64 n))) ∧ (numberV (l.takeWhile dig) = none → e = .returned (.bool false))
  clear h hz hl
  generalize l.takeWhile dig = ds at *
  generalize l.dropWhile dig = rs at *
  have hsz : ∀ s : Sg, j < (cuA rs s).size := fun _ => hj
  cases hv : numberV ds with
  | some n =>
    rw [hv] at NU
    have N2 := Lib.hid (fun V => show Calls Tryz.prog 173 #[.string (bytes ds)] V fun e w' => e = .returned (.tuple #[.int .i64 n, .bool true]) ∧ V = w' from NU.out V)
    clear NU hv
    go_enter Tryz.func136, Tryz.ntmps136
    go_wp2_with fail
    refine D.out.mono ?_
    rintro e w1 ⟨rfl, hc, hm⟩
    have HX := Lib.hid hc
    have HM := Lib.hid hm
    unfold CuX at HX
    clear hc hm D
    go_wp2_with fail
    refine (N2.out _).mono ?_
    rintro e w2 ⟨rfl, rfl⟩
    clear N2
    go_wp2_with (first | (refine wl_cell 3 b j 123 _ (.int .i64 n) (by kernel_rfl) (by kernel_rfl) HX.out (hsz s) sz_int rfl rfl ?_) | fail)
    intro W2 h2 h3
    have H2 := Lib.hid h2
    have H3 := Lib.hid (HM.out.trans h3)
    clear h2 h3 HX HM
    go_wp2_with fail
    go_ret
    refine ⟨H3.out, fun m hm => ?_, fun hn => (by cases hn)⟩
    obtain rfl := Option.some.inj hm
    exact ⟨rfl, H2.out⟩
  | none =>
    rw [hv] at NU
    have N2 := Lib.hid (fun V => show Calls Tryz.prog 173 #[.string (bytes ds)] V fun e w' => e = .returned (.tuple #[.int .i64 0, .bool false]) ∧ V = w' from NU.out V)
    clear NU hv
    go_enter Tryz.func136, Tryz.ntmps136
    go_wp2_with fail
    refine D.out.mono ?_
    rintro e w1 ⟨rfl, hc, hm⟩
    have HX := Lib.hid hc
    have HM := Lib.hid hm
    unfold CuX at HX
    clear hc hm D
    go_wp2_with fail
    refine (N2.out _).mono ?_
    rintro e w2 ⟨rfl, rfl⟩
    clear N2
    go_wp2_with (first | (refine wl_cell 3 b j 123 _ (.int .i64 0) (by kernel_rfl) (by kernel_rfl) HX.out (hsz s) sz_int rfl rfl ?_) | fail)
    intro W2 h2 h3
    have H3 := Lib.hid (HM.out.trans h3)
    clear h2 h3 HX HM
    go_wp2_with fail
    go_ret
    exact ⟨H3.out, fun m hm => (by cases hm), fun _ => rfl⟩
end Go.Proofs.YtdmedealdhadcaaGreatDoor
