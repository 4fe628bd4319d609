/- Pieces that a cursor takes: accidentals, stems, steps of clefs. Pieces that a cursor takes: digits, places, numbers, values. Pieces that a cursor takes: places and values. Pieces that a cursor takes: mensurations with their brackets. -/
import Derived.Test.YtdmedealdhadcaaGreatDoorG08
import Derived.Shelf.Strings.SlTrimAscii

namespace Go.Proofs.YtdmedealdhadcaaGreatDoor
open Go.RowKit
set_option maxRecDepth 100000 in
theorem maccidentals_any (w : World) : Calls Tryz.prog 164 #[] w fun e w' => e = .returned (marksV ⟨#[98]⟩ ⟨#[]⟩ ⟨#[35]⟩ ⟨#[110]⟩ ⟨#[]⟩) ∧ Below w.heap.size w w' := by
  go_enter Tryz.func164, Tryz.ntmps164
  go_wp2_with fail
  refine bodyPost_ret (v := marksV ⟨#[98]⟩ ⟨#[]⟩ ⟨#[35]⟩ ⟨#[110]⟩ ⟨#[]⟩) (by simp [results, Tryz.results164, go_sem, marksV]) rfl ⟨rfl, ?_⟩
  exact w_alloc (w_refl w) _
def Laccidentals : List ByteArray := [⟨#[98]⟩, ⟨#[]⟩, ⟨#[35]⟩, ⟨#[110]⟩, ⟨#[]⟩]
set_option maxRecDepth 100000 in
theorem mstems_any (w : World) : Calls Tryz.prog 127 #[] w fun e w' => e = .returned (marksV ⟨#[]⟩ ⟨#[94]⟩ ⟨#[118]⟩ ⟨#[62]⟩ ⟨#[]⟩) ∧ Below w.heap.size w w' := by
  go_enter Tryz.func127, Tryz.ntmps127
  go_wp2_with fail
  refine bodyPost_ret (v := marksV ⟨#[]⟩ ⟨#[94]⟩ ⟨#[118]⟩ ⟨#[62]⟩ ⟨#[]⟩) (by simp [results, Tryz.results127, go_sem, marksV]) rfl ⟨rfl, ?_⟩
  exact w_alloc (w_refl w) _
def Lstems : List ByteArray := [⟨#[]⟩, ⟨#[94]⟩, ⟨#[118]⟩, ⟨#[62]⟩, ⟨#[]⟩]
set_option maxRecDepth 100000 in
theorem mclefs_any (w : World) : Calls Tryz.prog 137 #[] w fun e w' => e = .returned (marksV ⟨#[67]⟩ ⟨#[]⟩ ⟨#[]⟩ ⟨#[70]⟩ ⟨#[71]⟩) ∧ Below w.heap.size w w' := by
  go_enter Tryz.func137, Tryz.ntmps137
  go_wp2_with fail
  refine bodyPost_ret (v := marksV ⟨#[67]⟩ ⟨#[]⟩ ⟨#[]⟩ ⟨#[70]⟩ ⟨#[71]⟩) (by simp [results, Tryz.results137, go_sem, marksV]) rfl ⟨rfl, ?_⟩
  exact w_alloc (w_refl w) _
def Lclefs : List ByteArray := [⟨#[67]⟩, ⟨#[]⟩, ⟨#[]⟩, ⟨#[70]⟩, ⟨#[71]⟩]
theorem em0 : (⟨#[]⟩ : ByteArray).toList.isEmpty = true := by rw [Lib.toList_data]; rfl
theorem em1 (c : UInt8) : (⟨#[c]⟩ : ByteArray).toList.isEmpty = false := by rw [Lib.toList_data]; rfl
theorem one_tk (c : UInt8) (ms : List ByteArray) (k : Nat) (l : List UInt8) : oneF (⟨#[c]⟩ :: ms) k l = ((tk c l).map fun t => (k, t)).or (oneF ms (k + 1) l) := by
  obtain ⟨p1, p2⟩ := pre_tk c l
  have e : (⟨#[c]⟩ : ByteArray) = bytes [c] := rfl
  show (if _ then _ else _) = _
  rw [e, p1, p2]
  cases h : tk c l with
  | some t => rw [if_pos ⟨em1 c, rfl⟩]; rfl
  | none => rw [if_neg (fun x => by cases x.2)]; rfl
theorem one_em (ms : List ByteArray) (k : Nat) (l : List UInt8) : oneF (⟨#[]⟩ :: ms) k l = oneF ms (k + 1) l := one_skip em0
theorem acc_one (l : List UInt8) : (∀ k t, oneF Laccidentals 0 l = some (k, t) → accR l = ((k : Int) - 1, t)) ∧ (oneF Laccidentals 0 l = none → accR l = (0, l)) := by
  have e : oneF Laccidentals 0 l = ((tk 98 l).map fun t => (0, t)).or (((tk 35 l).map fun t => (2, t)).or (((tk 110 l).map fun t => (3, t)).or none)) := by
    unfold Laccidentals
    rw [one_tk, one_em, one_tk, one_tk, one_em]; rfl
  rw [e]
  unfold accR
  cases tk 98 l with
  | some t => exact ⟨fun k u h => by cases h; rfl, fun h => by cases h⟩
  | none =>
    cases tk 35 l with
    | some t => exact ⟨fun k u h => by cases h; rfl, fun h => by cases h⟩
    | none =>
      cases tk 110 l with
      | some t => exact ⟨fun k u h => by cases h; rfl, fun h => by cases h⟩
      | none => exact ⟨fun k u h => (by cases h), fun _ => rfl⟩
theorem stem_one (l : List UInt8) : (∀ k t, oneF Lstems 0 l = some (k, t) → stemR l = ((k : Int), t)) ∧ (oneF Lstems 0 l = none → stemR l = (0, l)) := by
  have e : oneF Lstems 0 l = ((tk 94 l).map fun t => (1, t)).or (((tk 118 l).map fun t => (2, t)).or (((tk 62 l).map fun t => (3, t)).or none)) := by
    unfold Lstems
    rw [one_em, one_tk, one_tk, one_tk, one_em]; rfl
  rw [e]
  unfold stemR
  cases tk 94 l with
  | some t => exact ⟨fun k u h => by cases h; rfl, fun h => by cases h⟩
  | none =>
    cases tk 118 l with
    | some t => exact ⟨fun k u h => by cases h; rfl, fun h => by cases h⟩
    | none =>
      cases tk 62 l with
      | some t => exact ⟨fun k u h => by cases h; rfl, fun h => by cases h⟩
      | none => exact ⟨fun k u h => (by cases h), fun _ => rfl⟩
theorem step_one (l : List UInt8) (s : Sg) : (∀ k t, oneF Lclefs 0 l = some (k, t) → rdStep (l, s) = some (t, { s with c0 := (k : Int) })) ∧ (oneF Lclefs 0 l = none → rdStep (l, s) = none) := by
  have e : oneF Lclefs 0 l = ((tk 67 l).map fun t => (0, t)).or (((tk 70 l).map fun t => (3, t)).or (((tk 71 l).map fun t => (4, t)).or none)) := by
    unfold Lclefs
    rw [one_tk, one_em, one_em, one_tk, one_tk]; rfl
  rw [e]
  unfold rdStep
  cases tk 67 l with
  | some t => exact ⟨fun k u h => by cases h; rfl, fun h => by cases h⟩
  | none =>
    cases tk 70 l with
    | some t => exact ⟨fun k u h => by cases h; rfl, fun h => by cases h⟩
    | none =>
      cases tk 71 l with
      | some t => exact ⟨fun k u h => by cases h; rfl, fun h => by cases h⟩
      | none => exact ⟨fun k u h => (by cases h), fun _ => rfl⟩
def PcA (f : FuncId) (F : Cu → Option Cu) : Prop := ∀ (W : World) (b : Nat) (x : Cu), x.1.length ≤ 1000000 → x.2.acc = 0 → CuX W b x → Calls Tryz.prog f #[.pointer (some ⟨b, 0, none⟩)] W
  fun e W' => Mv b W W' ∧ (∀ y, F x = some y → e = .returned (.bool true) ∧ CuX W' b y) ∧ (F x = none → e = .returned (.bool false))
theorem oneF_le : ∀ (ms : List ByteArray) (i : Nat) (l : List UInt8) {k : Nat} {t : List UInt8}, oneF ms i l = some (k, t) → k + 1 ≤ i + ms.length
  | [], _, _, _, _, h => by cases h
  | m :: ms, i, l, k, t, h => by
    unfold oneF at h
    split at h
    · obtain ⟨rfl, _⟩ := Prod.mk.inj (Option.some.inj h)
      simp only [List.length_cons]; omega
    · have := oneF_le ms (i + 1) l h
      simp only [List.length_cons]; omega
theorem one_le {l : List UInt8} {k : Nat} {t : List UInt8} (h : oneF Laccidentals 0 l = some (k, t)) : k ≤ 4 := by
  have := oneF_le _ _ _ h
  simp only [Laccidentals, List.length_cons, List.length_nil] at this; omega
set_option maxRecDepth 100000 in
set_option maxHeartbeats 4000000 in
theorem pstem_any : Pc 129 rdStem := by
  intro W b x _ h
  obtain ⟨l, s⟩ := x
  have HX := Lib.hid h
  have MA := Lib.hid (fun V => mstems_any V)
  have OA := Lib.hid (fun V (hV : CuX V b (l, s)) => pone_of ⟨#[]⟩ ⟨#[94]⟩ ⟨#[118]⟩ ⟨#[62]⟩ ⟨#[]⟩ b (l, s) V hV)
  have hlt := h.lt
  cases e : oneF Lstems 0 l with
  | some r =>
    obtain ⟨k, t⟩ := r
    have fin := Lib.hid (show rdStem (l, s) = some (t, { s with stem := (k : Int) }) by unfold rdStem; rw [(stem_one l).1 k t e])
    have e2 : oneF [⟨#[]⟩, ⟨#[94]⟩, ⟨#[118]⟩, ⟨#[62]⟩, ⟨#[]⟩] 0 (l, s).1 = some (k, t) := e
    rw [e2] at OA
    clear e e2 h
    go_enter Tryz.func129, Tryz.ntmps129
    go_wp2_with fail
    refine (MA.out _).mono ?_
    rintro e w1 ⟨rfl, hb⟩
    have HX1 := Lib.hid (HX.out.later hb)
    have HM1 := Lib.hid (Mv.of (b := b) hb)
    have O1 := Lib.hid (OA.out w1 HX1.out)
    clear hb MA OA HX HX1
    unfold marksV
    unfold marksV at O1
    go_wp2_with fail
    refine O1.out.mono ?_
    rintro e w2 ⟨hm, hs, hn⟩
    obtain ⟨rfl, hc⟩ := hs k t rfl
    have HX := Lib.hid hc
    have HM := Lib.hid (HM1.out.trans hm)
    unfold CuX at HX
    clear hc hm hs hn O1 HM1
    go_wp2_with (first | (refine wl_cell 3 b 6 123 _ (.int .i64 (k : Int)) (by kernel_rfl) (by kernel_rfl) HX.out (show 6 < 18 by decide) sz_int rfl rfl ?_) | fail)
    intro W2 h2 h3
    have H2 := Lib.hid h2
    have H3 := Lib.hid (HM.out.trans h3)
    clear h2 h3 HX HM
    go_wp2_with fail
    go_ret
    refine ⟨H3.out, fun y hy => ?_, fun hn => ?_⟩
    · obtain rfl := Option.some.inj (hy.symm.trans fin.out)
      exact ⟨rfl, H2.out⟩
    · rw [fin.out] at hn; cases hn
  | none =>
    have fin := Lib.hid (show rdStem (l, s) = some (l, { s with stem := 0 }) by unfold rdStem; rw [(stem_one l).2 e])
    have e2 : oneF [⟨#[]⟩, ⟨#[94]⟩, ⟨#[118]⟩, ⟨#[62]⟩, ⟨#[]⟩] 0 (l, s).1 = none := e
    rw [e2] at OA
    clear e e2 h
    go_enter Tryz.func129, Tryz.ntmps129
    go_wp2_with fail
    refine (MA.out _).mono ?_
    rintro e w1 ⟨rfl, hb⟩
    have HX1 := Lib.hid (HX.out.later hb)
    have HM1 := Lib.hid (Mv.of (b := b) hb)
    have O1 := Lib.hid (OA.out w1 HX1.out)
    clear hb MA OA HX HX1
    unfold marksV
    unfold marksV at O1
    go_wp2_with fail
    refine O1.out.mono ?_
    rintro e w2 ⟨hm, hs, hn⟩
    obtain ⟨rfl, hc⟩ := hn rfl
    have HX := Lib.hid hc
    have HM := Lib.hid (HM1.out.trans hm)
    unfold CuX at HX
    clear hc hm hs hn O1 HM1
    go_wp2_with (first | (refine wl_cell 3 b 6 123 _ (.int .i64 0) (by kernel_rfl) (by kernel_rfl) HX.out (show 6 < 18 by decide) sz_int rfl rfl ?_) | fail)
    intro W2 h2 h3
    have H2 := Lib.hid h2
    have H3 := Lib.hid (HM.out.trans h3)
    clear h2 h3 HX HM
    go_wp2_with fail
    go_ret
    refine ⟨H3.out, fun y hy => ?_, fun hn => ?_⟩
    · obtain rfl := Option.some.inj (hy.symm.trans fin.out)
      exact ⟨rfl, H2.out⟩
    · rw [fin.out] at hn; cases hn
set_option maxRecDepth 100000 in
set_option maxHeartbeats 4000000 in
theorem pstep_any : Pc 138 rdStep := by
  intro W b x _ h
  obtain ⟨l, s⟩ := x
  have HX := Lib.hid h
  have MA := Lib.hid (fun V => mclefs_any V)
  have OA := Lib.hid (fun V (hV : CuX V b (l, s)) => pone_of ⟨#[67]⟩ ⟨#[]⟩ ⟨#[]⟩ ⟨#[70]⟩ ⟨#[71]⟩ b (l, s) V hV)
  have hlt := h.lt
  cases e : oneF Lclefs 0 l with
  | some r =>
    obtain ⟨k, t⟩ := r
    have fin := Lib.hid ((step_one l s).1 k t e)
    have e2 : oneF [⟨#[67]⟩, ⟨#[]⟩, ⟨#[]⟩, ⟨#[70]⟩, ⟨#[71]⟩] 0 (l, s).1 = some (k, t) := e
    rw [e2] at OA
    clear e e2 h
    go_enter Tryz.func138, Tryz.ntmps138
    go_wp2_with fail
    refine (MA.out _).mono ?_
    rintro e w1 ⟨rfl, hb⟩
    have HX1 := Lib.hid (HX.out.later hb)
    have HM1 := Lib.hid (Mv.of (b := b) hb)
    have O1 := Lib.hid (OA.out w1 HX1.out)
    clear hb MA OA HX HX1
    unfold marksV
    unfold marksV at O1
    go_wp2_with fail
    refine O1.out.mono ?_
    rintro e w2 ⟨hm, hs, hn⟩
    obtain ⟨rfl, hc⟩ := hs k t rfl
    have HX := Lib.hid hc
    have HM := Lib.hid (HM1.out.trans hm)
    unfold CuX at HX
    clear hc hm hs hn O1 HM1
    go_wp2_with (first | (refine wl_cell 3 b 16 123 _ (.int .i64 (k : Int)) (by kernel_rfl) (by kernel_rfl) HX.out (show 16 < 18 by decide) sz_int rfl rfl ?_) | fail)
    intro W2 h2 h3
    have H2 := Lib.hid h2
    have H3 := Lib.hid (HM.out.trans h3)
    clear h2 h3 HX HM
    go_wp2_with fail
    go_ret
    refine ⟨H3.out, fun y hy => ?_, fun hn => ?_⟩
    · obtain rfl := Option.some.inj (hy.symm.trans fin.out)
      exact ⟨rfl, H2.out⟩
    · rw [fin.out] at hn; cases hn
  | none =>
    have fin := Lib.hid ((step_one l s).2 e)
    have e2 : oneF [⟨#[67]⟩, ⟨#[]⟩, ⟨#[]⟩, ⟨#[70]⟩, ⟨#[71]⟩] 0 (l, s).1 = none := e
    rw [e2] at OA
    clear e e2 h
    go_enter Tryz.func138, Tryz.ntmps138
    go_wp2_with fail
    refine (MA.out _).mono ?_
    rintro e w1 ⟨rfl, hb⟩
    have HX1 := Lib.hid (HX.out.later hb)
    have HM1 := Lib.hid (Mv.of (b := b) hb)
    have O1 := Lib.hid (OA.out w1 HX1.out)
    clear hb MA OA HX HX1
    unfold marksV
    unfold marksV at O1
    go_wp2_with fail
    refine O1.out.mono ?_
    rintro e w2 ⟨hm, hs, hn⟩
    obtain ⟨rfl, hc⟩ := hn rfl
    have HX := Lib.hid hc
    have HM := Lib.hid (HM1.out.trans hm)
    unfold CuX at HX
    clear hc hm hs hn O1 HM1
    go_wp2_with (first | (refine wl_cell 3 b 16 123 _ (.int .i64 0) (by kernel_rfl) (by kernel_rfl) HX.out (show 16 < 18 by decide) sz_int rfl rfl ?_) | fail)
    intro W2 h2 h3
    have H3 := Lib.hid (HM.out.trans h3)
    clear h2 h3 HX HM
    go_wp2_with fail
    go_ret
    exact ⟨H3.out, fun y hy => (by rw [fin.out] at hy; cases hy), fun _ => rfl⟩
set_option maxRecDepth 100000 in
set_option maxHeartbeats 4000000 in
theorem pacc_any : PcA 122 rdAcc := by
  intro W b x _ h0 h
  obtain ⟨l, s⟩ := x
  have HX := Lib.hid h
  have MA := Lib.hid (fun V => maccidentals_any V)
  have OA := Lib.hid (fun V (hV : CuX V b (l, s)) => pone_of ⟨#[98]⟩ ⟨#[]⟩ ⟨#[35]⟩ ⟨#[110]⟩ ⟨#[]⟩ b (l, s) V hV)
  have hlt := h.lt
  cases e : oneF Laccidentals 0 l with
  | some r =>
    obtain ⟨k, t⟩ := r
    have fin := Lib.hid (show rdAcc (l, s) = some (t, { s with acc := (k : Int) - 1 }) by unfold rdAcc; rw [(acc_one l).1 k t e])
    have hkb : k ≤ 4 := one_le e
    have e2 : oneF [⟨#[98]⟩, ⟨#[]⟩, ⟨#[35]⟩, ⟨#[110]⟩, ⟨#[]⟩] 0 (l, s).1 = some (k, t) := e
    rw [e2] at OA
    clear e e2 h
    go_enter Tryz.func122, Tryz.ntmps122
    go_wp2_with fail
    refine (MA.out _).mono ?_
    rintro e w1 ⟨rfl, hb⟩
    have HX1 := Lib.hid (HX.out.later hb)
    have HM1 := Lib.hid (Mv.of (b := b) hb)
    have O1 := Lib.hid (OA.out w1 HX1.out)
    clear hb MA OA HX HX1
    unfold marksV
    unfold marksV at O1
    go_wp2_with fail
    refine O1.out.mono ?_
    rintro e w2 ⟨hm, hs, hn⟩
    obtain ⟨rfl, hc⟩ := hs k t rfl
    have HX := Lib.hid hc
    have HM := Lib.hid (HM1.out.trans hm)
    unfold CuX at HX
    clear hc hm hs hn O1 HM1
    go_wp2_with (first | (refine wl_cell 3 b 4 123 _ (.int .i64 ((k : Int) - 1)) (by kernel_rfl) (by kernel_rfl) HX.out (show 4 < 18 by decide) sz_int rfl rfl ?_) | fail)
    intro W2 h2 h3
    have H2 := Lib.hid h2
    have H3 := Lib.hid (HM.out.trans h3)
    clear h2 h3 HX HM
    go_wp2_with fail
    go_ret
    refine ⟨H3.out, fun y hy => ?_, fun hn => ?_⟩
    · obtain rfl := Option.some.inj (hy.symm.trans fin.out)
      exact ⟨rfl, H2.out⟩
    · rw [fin.out] at hn; cases hn
  | none =>
    have fin := Lib.hid (show rdAcc (l, s) = some (l, s) by unfold rdAcc; rw [(acc_one l).2 e]; obtain ⟨_, _, _, _⟩ := s; obtain rfl := h0; rfl)
    have e2 : oneF [⟨#[98]⟩, ⟨#[]⟩, ⟨#[35]⟩, ⟨#[110]⟩, ⟨#[]⟩] 0 (l, s).1 = none := e
    rw [e2] at OA
    clear e e2 h
    go_enter Tryz.func122, Tryz.ntmps122
    go_wp2_with fail
    refine (MA.out _).mono ?_
    rintro e w1 ⟨rfl, hb⟩
    have HX1 := Lib.hid (HX.out.later hb)
    have HM1 := Lib.hid (Mv.of (b := b) hb)
    have O1 := Lib.hid (OA.out w1 HX1.out)
    clear hb MA OA HX HX1
    unfold marksV
    unfold marksV at O1
    go_wp2_with fail
    refine O1.out.mono ?_
    rintro e w2 ⟨hm, hs, hn⟩
    obtain ⟨rfl, hc⟩ := hn rfl
    have HX := Lib.hid hc
    have HM := Lib.hid (HM1.out.trans hm)
    unfold CuX at HX
    clear hc hm hs hn O1 HM1
    go_wp2_with fail
    go_ret
    refine ⟨HM.out, fun y hy => ?_, fun hn => ?_⟩
    · obtain rfl := Option.some.inj (hy.symm.trans fin.out)
      exact ⟨rfl, HX.out⟩
    · rw [fin.out] at hn; cases hn
end Go.Proofs.YtdmedealdhadcaaGreatDoor

namespace Go.Proofs.YtdmedealdhadcaaGreatDoor
open Go.RowKit
def digB : ByteArray := ⟨#[48, 49, 50, 51, 52, 53, 54, 55, 56, 57]⟩
theorem dig_cut : ∀ n ∈ List.range 256, digB.data.toList.contains (UInt8.ofNat n) = dig (UInt8.ofNat n) := by decide +kernel
theorem trim_dig (l : List UInt8) : Lib.trimLeftS l digB.data.toList = l.dropWhile dig := by
  unfold Lib.trimLeftS
  congr 1
  funext c
  have := dig_cut c.toNat (List.mem_range.2 c.toNat_lt)
  rwa [show UInt8.ofNat c.toNat = c by simp] at this
theorem trim_any (s : ByteArray) (w : World) : Calls Tryz.prog 182 #[.string s, .string digB] w fun e w' => e = .returned (.string (bytes (s.data.toList.dropWhile dig))) ∧ Below w.heap.size w w' := by
  have := Any.strings_TrimLeft_laid Tryz.lays161 (by kernel_rfl) s digB w (by decide) (Go.Proofs.ascii_of_all (by decide +kernel))
  rw [trim_dig] at this
  exact this
theorem take_drop (l : List UInt8) : l.length = (l.takeWhile dig).length + (l.dropWhile dig).length := by
  have := congrArg List.length (List.takeWhile_append_dropWhile (p := dig) (l := l))
  rw [List.length_append] at this
  exact this.symm
theorem extract_take (l : List UInt8) : (bytes l).extract 0 (l.takeWhile dig).length = bytes (l.takeWhile dig) := by
  rw [extract_bytes _ _ _ (by rw [bytes_size]; have := take_drop l; omega) (Nat.zero_le _), bytes_data, List.drop_zero]
  congr 1
  have e : l.take (l.takeWhile dig).length = (l.takeWhile dig ++ l.dropWhile dig).take (l.takeWhile dig).length := by rw [List.takeWhile_append_dropWhile]
  rw [e, List.take_left]
set_option maxRecDepth 100000 in
set_option maxHeartbeats 4000000 in
theorem pdig_any (b : Nat) (x : Cu) (W : World) (hl : x.1.length ≤ 1000000) (h : CuX W b x) : Calls Tryz.prog 166 #[.pointer (some ⟨b, 0, none⟩)] W
    fun e W' => e = .returned (.string (bytes (x.1.takeWhile dig))) ∧ CuX W' b (x.1.dropWhile dig, x.2) ∧ Mv b W W' := by
  obtain ⟨l, s⟩ := x
  have T := Lib.hid (fun V => trim_any (bytes l) V)
  rw [bytes_data] at T
  have c0 := h.left
  have HX := Lib.hid h
  have z1 : (bytes l).size = l.length := bytes_size l
  have z2 : (bytes (l.dropWhile dig)).size = (l.dropWhile dig).length := bytes_size _
  have z3 := take_drop l
  have ex := extract_take l
  change l.length ≤ 1000000 at hl
  show Calls _ _ _ _ fun e W' => e = .returned (.string (bytes (l.takeWhile dig))) ∧ CuX W' b (l.dropWhile dig, s) ∧ Mv b W W'
  unfold CuX at HX ⊢
  change Hid (HoldsB W b _ (cuA l s)) at HX
  change W.cell? _ = some (.string (bytes l)) at c0
  clear h
  show Calls _ _ _ _ fun e W' => e = .returned (.string (bytes (l.takeWhile dig))) ∧ HoldsB W' b _ (cuA (l.dropWhile dig) s) ∧ Mv b W W'
  generalize l.takeWhile dig = ds at *
  generalize l.dropWhile dig = rs at *
  generalize hL : bytes l = L at *
  generalize hR : bytes rs = R at *
  generalize hD : bytes ds = D at *
  generalize l.length = n at *
  generalize ds.length = p at *
  generalize rs.length = q at *
  have hpq : (n : Int) - q = p := by omega
  go_enter Tryz.func166, Tryz.ntmps166
  go_wp2_with fail
  refine (T.out _).mono ?_
  rintro e w1 ⟨rfl, hb⟩
  have c1 := cell_later hb c0
  have HX1 := Lib.hid (HX.out.later hb)
  have HM1 := Lib.hid (Mv.of (b := b) hb)
  clear hb T HX c0
  go_wp2_with fail
  go_region
  go_wp2_with (first | (refine wl_cell 9 b 0 123 _ (.string R) (by kernel_rfl) (by kernel_rfl) HX1.out (show 0 < 18 by decide) sz_string rfl rfl ?_) | fail)
  intro W2 h2 h3
  have H2 := Lib.hid (show HoldsB W2 b 123 (cuA rs s) by subst hR; exact h2)
  have H3 := Lib.hid (HM1.out.trans ((Mv.of (w_refl w1).drew).trans h3))
  clear h2 h3 HX1 HM1 c1
  go_wp2_with fail
  go_ret
  exact ⟨rfl, H2.out, H3.out⟩
/-! ### Numbers -/
set_option maxRecDepth 100000 in
set_option maxHeartbeats 4000000 in
/-- A number that goes into a field of the sign. -/
theorem pnum_any (b j : Nat) (hj : j < 18) (x : Cu) (W : World) (hl : x.1.length ≤ 1000000) (h : CuX W b x) : Calls Tryz.prog 136 #[.pointer (some ⟨b, 0, none⟩), .pointer (some ⟨b, j, none⟩)] W
    fun e W' => Mv b W W' ∧ (∀ n, numberV (x.1.takeWhile dig) = some n → e = .returned (.bool true) ∧ HoldsB W' b 123 ((cuA (x.1.dropWhile dig) x.2).setIfInBounds j (.int .i64 n))) ∧ (numberV (x.1.takeWhile dig) = none → e = .returned (.bool false)) := by
  have D := Lib.hid (pdig_any b x W hl h)
  obtain ⟨l, s⟩ := x
  change l.length ≤ 1000000 at hl
  have hz : (bytes (l.takeWhile dig)).size ≤ maxLen := by rw [bytes_size]; have := take_drop l; unfold maxLen; omega
  have NU := Lib.hid (fun V => wnumber_any (bytes (l.takeWhile dig)) V hz)
  rw [bytes_data] at NU
  change Hid (Calls _ _ _ _ fun e W' => e = .returned (.string (bytes (l.takeWhile dig))) ∧ CuX W' b (l.dropWhile dig, s) ∧ Mv b W W') at D
  show Calls _ _ _ _ fun e W' => Mv b W W' ∧ (∀ n, numberV (l.takeWhile dig) = some n → e = .returned (.bool true) ∧ HoldsB W' b 123 ((cuA (l.dropWhile dig) s).setIfInBounds j (.int .i64 n))) ∧ (numberV (l.takeWhile dig) = none → e = .returned (.bool false))
  clear h hz hl
  generalize l.takeWhile dig = ds at *
  generalize l.dropWhile dig = rs at *
  have hsz : ∀ s : Sg, j < (cuA rs s).size := fun _ => hj
  cases hv : numberV ds with
  | some n =>
    rw [hv] at NU
    have N2 := Lib.hid (fun V => show Calls Tryz.prog 173 #[.string (bytes ds)] V fun e w' => e = .returned (.tuple #[.int .i64 n, .bool true]) ∧ V = w' from NU.out V)
    clear NU hv
    go_enter Tryz.func136, Tryz.ntmps136
    go_wp2_with fail
    refine D.out.mono ?_
    rintro e w1 ⟨rfl, hc, hm⟩
    have HX := Lib.hid hc
    have HM := Lib.hid hm
    unfold CuX at HX
    clear hc hm D
    go_wp2_with fail
    refine (N2.out _).mono ?_
    rintro e w2 ⟨rfl, rfl⟩
    clear N2
    go_wp2_with (first | (refine wl_cell 3 b j 123 _ (.int .i64 n) (by kernel_rfl) (by kernel_rfl) HX.out (hsz s) sz_int rfl rfl ?_) | fail)
    intro W2 h2 h3
    have H2 := Lib.hid h2
    have H3 := Lib.hid (HM.out.trans h3)
    clear h2 h3 HX HM
    go_wp2_with fail
    go_ret
    refine ⟨H3.out, fun m hm => ?_, fun hn => (by cases hn)⟩
    obtain rfl := Option.some.inj hm
    exact ⟨rfl, H2.out⟩
  | none =>
    rw [hv] at NU
    have N2 := Lib.hid (fun V => show Calls Tryz.prog 173 #[.string (bytes ds)] V fun e w' => e = .returned (.tuple #[.int .i64 0, .bool false]) ∧ V = w' from NU.out V)
    clear NU hv
    go_enter Tryz.func136, Tryz.ntmps136
    go_wp2_with fail
    refine D.out.mono ?_
    rintro e w1 ⟨rfl, hc, hm⟩
    have HX := Lib.hid hc
    have HM := Lib.hid hm
    unfold CuX at HX
    clear hc hm D
    go_wp2_with fail
    refine (N2.out _).mono ?_
    rintro e w2 ⟨rfl, rfl⟩
    clear N2
    go_wp2_with (first | (refine wl_cell 3 b j 123 _ (.int .i64 0) (by kernel_rfl) (by kernel_rfl) HX.out (hsz s) sz_int rfl rfl ?_) | fail)
    intro W2 h2 h3
    have H3 := Lib.hid (HM.out.trans h3)
    clear h2 h3 HX HM
    go_wp2_with fail
    go_ret
    exact ⟨H3.out, fun m hm => (by cases hm), fun _ => rfl⟩
end Go.Proofs.YtdmedealdhadcaaGreatDoor

namespace Go.Proofs.YtdmedealdhadcaaGreatDoor
open Go.RowKit
theorem signed_eq (l : List UInt8) : signedRes l = .tuple #[.int .i64 (signO l).1, .bool (signO l).2] := by
  unfold signedRes signO
  split
  · split
    · rename_i h; rw [h]
    · rename_i h; rw [h]
  · unfold numRes
    split
    · rename_i h; rw [h]
    · rename_i h; rw [h]
theorem plc_yes {l t : List UInt8} (h : tk 45 l = some t) : plcT l = 45 :: t.takeWhile dig ∧ plcR l = t.dropWhile dig := by
  obtain rfl := tk_some h
  exact ⟨rfl, rfl⟩
theorem plc_no {l : List UInt8} (h : tk 45 l = none) : plcT l = l.takeWhile dig ∧ plcR l = l.dropWhile dig := by
  have hh : l.head? ≠ some 45 := by
    cases l with
    | nil => simp
    | cons c t =>
      intro e
      simp only [List.head?_cons, Option.some.injEq] at e
      subst e
      rw [tk_cons] at h
      cases h
  unfold plcT plcR
  rw [if_neg hh, if_neg hh]
  exact ⟨rfl, rfl⟩
set_option maxRecDepth 100000 in
set_option maxHeartbeats 4000000 in
theorem cplc_any : Pc 121 rdPlc := by
  intro W b x hl h
  obtain ⟨l, s⟩ := x
  change l.length ≤ 1000000 at hl
  have HX := Lib.hid h
  clear h
  cases e : tk 45 l with
  | some t =>
    have T := Lib.hid (take_yes (x := (l, s)) e b W HX.out)
    obtain ⟨e1, e2⟩ := plc_yes e
    have ht : t.length ≤ 1000000 := by have := congrArg List.length (tk_some e); rw [List.length_cons] at this; omega
    have htd := take_drop t
    have D := Lib.hid (fun V (hV : CuX V b (t, s)) => pdig_any b (t, s) V ht hV)
    have hcat : (⟨#[45]⟩ : ByteArray) ++ bytes (t.takeWhile dig) = bytes (45 :: t.takeWhile dig) := bytes_app [45] _
    have hz : (bytes (45 :: t.takeWhile dig)).size ≤ maxLen := by rw [bytes_size, List.length_cons]; unfold maxLen; omega
    have SG := Lib.hid (fun V => wsigned_any (bytes (45 :: t.takeWhile dig)) V hz)
    rw [bytes_data, signed_eq, ← e1] at SG
    rw [← e1] at hcat
    have z2 : (bytes (t.takeWhile dig)).size = (t.takeWhile dig).length := bytes_size _
    have z3 : ¬ 9223372036854775807 < 1 + (bytes (t.takeWhile dig)).size := by rw [z2]; omega
    have fin := Lib.hid (show rdPlc (l, s) = if (signO (plcT l)).2 then some (plcR l, { s with place := (signO (plcT l)).1 }) else none from rfl)
    rw [e2] at fin
    change Hid (∀ V, CuX V b (t, s) → Calls _ _ _ _ fun e W' => e = .returned (.string (bytes (t.takeWhile dig))) ∧ CuX W' b (t.dropWhile dig, s) ∧ Mv b V W') at D
    clear e e1 e2 ht htd hz hl
    generalize t.takeWhile dig = ds at *
    generalize t.dropWhile dig = rs at *
    generalize plcT l = pl at *
    generalize bytes ds = DB at *
    generalize bytes pl = PB at *
    generalize rdPlc (l, s) = R at *
    generalize signO pl = sg at *
    obtain ⟨n, bo⟩ := sg
    change Hid (∀ V, Calls _ _ _ _ fun e w' => e = .returned (.tuple #[.int .i64 n, .bool bo]) ∧ V = w') at SG
    change Hid (R = if bo then some (rs, { s with place := n }) else none) at fin
    go_enter Tryz.func121, Tryz.ntmps121
    go_wp2_with fail
    refine T.out.mono ?_
    rintro e w1 ⟨rfl, hc, hm⟩
    have D1 := Lib.hid (D.out w1 hc)
    have HM := Lib.hid hm
    clear hc hm T D HX
    go_wp2_with fail
    refine D1.out.mono ?_
    rintro e w2 ⟨rfl, hc, hm⟩
    have HX := Lib.hid hc
    unfold CuX at HX
    have HM2 := Lib.hid (HM.out.trans hm)
    clear hc hm HM D1
    go_wp2_with fail
    refine (SG.out _).mono ?_
    rintro e w3 ⟨rfl, rfl⟩
    clear SG
    go_wp2_with (first | (refine wl_cell 3 b 3 123 _ (.int .i64 n) (by kernel_rfl) (by kernel_rfl) HX.out (show 3 < 18 by decide) sz_int rfl rfl ?_) | fail)
    intro W2 h2 h3
    have H2 := Lib.hid (show CuX W2 b (rs, { s with place := n }) from h2)
    have H3 := Lib.hid (HM2.out.trans h3)
    clear h2 h3 HX HM2
    go_wp2_with fail
    go_ret
    refine ⟨H3.out, fun y hy => ?_, fun hn => ?_⟩
    · rw [fin.out] at hy
      cases bo with
      | true =>
        obtain rfl := Option.some.inj hy
        exact ⟨rfl, H2.out⟩
      | false => cases hy
    · rw [fin.out] at hn
      cases bo with
      | true => cases hn
      | false => rfl
  | none =>
    have T := Lib.hid (take_no (x := (l, s)) e b W HX.out)
    obtain ⟨e1, e2⟩ := plc_no e
    have htd := take_drop l
    have D := Lib.hid (fun V (hV : CuX V b (l, s)) => pdig_any b (l, s) V hl hV)
    have hz : (bytes (l.takeWhile dig)).size ≤ maxLen := by rw [bytes_size]; unfold maxLen; omega
    have SG := Lib.hid (fun V => wsigned_any (bytes (l.takeWhile dig)) V hz)
    rw [bytes_data, signed_eq, ← e1] at SG
    have z2 : (bytes (l.takeWhile dig)).size = (l.takeWhile dig).length := bytes_size _
    have z3 : ¬ 9223372036854775807 < (bytes (l.takeWhile dig)).size := by rw [z2]; omega
    have fin := Lib.hid (show rdPlc (l, s) = if (signO (plcT l)).2 then some (plcR l, { s with place := (signO (plcT l)).1 }) else none from rfl)
    rw [e2] at fin
    change Hid (∀ V, CuX V b (l, s) → Calls _ _ _ _ fun e W' => e = .returned (.string (bytes (l.takeWhile dig))) ∧ CuX W' b (l.dropWhile dig, s) ∧ Mv b V W') at D
    clear e e2 htd hz
    rw [← e1] at D z2 z3
    generalize l.dropWhile dig = rs at *
    generalize plcT l = pl at *
    clear e1
    generalize bytes pl = PB at *
    generalize rdPlc (l, s) = R at *
    generalize signO pl = sg at *
    obtain ⟨n, bo⟩ := sg
    change Hid (∀ V, Calls _ _ _ _ fun e w' => e = .returned (.tuple #[.int .i64 n, .bool bo]) ∧ V = w') at SG
    change Hid (R = if bo then some (rs, { s with place := n }) else none) at fin
    go_enter Tryz.func121, Tryz.ntmps121
    go_wp2_with fail
    refine T.out.mono ?_
    rintro e w1 ⟨rfl, hc, hm⟩
    have D1 := Lib.hid (D.out w1 hc)
    have HM := Lib.hid hm
    clear hc hm T D HX
    go_wp2_with fail
    refine D1.out.mono ?_
    rintro e w2 ⟨rfl, hc, hm⟩
    have HX := Lib.hid hc
    unfold CuX at HX
    have HM2 := Lib.hid (HM.out.trans hm)
    clear hc hm HM D1
    go_wp2_with fail
    refine (SG.out _).mono ?_
    rintro e w3 ⟨rfl, rfl⟩
    clear SG
    go_wp2_with (first | (refine wl_cell 3 b 3 123 _ (.int .i64 n) (by kernel_rfl) (by kernel_rfl) HX.out (show 3 < 18 by decide) sz_int rfl rfl ?_) | fail)
    intro W2 h2 h3
    have H2 := Lib.hid (show CuX W2 b (rs, { s with place := n }) from h2)
    have H3 := Lib.hid (HM2.out.trans h3)
    clear h2 h3 HX HM2
    go_wp2_with fail
    go_ret
    refine ⟨H3.out, fun y hy => ?_, fun hn => ?_⟩
    · rw [fin.out] at hy
      cases bo with
      | true =>
        obtain rfl := Option.some.inj hy
        exact ⟨rfl, H2.out⟩
      | false => cases hy
    · rw [fin.out] at hn
      cases bo with
      | true => cases hn
      | false => rfl
/-! ### Values -/
def hdV : List UInt8 → Int
  | c :: _ => valC c
  | [] => 0
theorem hdV_rng (l : List UInt8) : hdV l = 0 ∨ (1 ≤ hdV l ∧ hdV l ≤ 8) := by
  cases l with
  | nil => exact .inl rfl
  | cons c t => exact valC_rng c
theorem hdV_none {l : List UInt8} (h : hdV l = 0) (s : Sg) : rdVal (l, s) = none := by
  cases l with
  | nil => rfl
  | cons c t => show (if valC c = 0 then none else some _) = none; exact if_pos h
theorem hdV_some {l : List UInt8} {v : Int} (h : hdV l = v) (h0 : 1 ≤ v) (s : Sg) : ∃ c t, letV v = [c] ∧ tk c l = some t ∧ rdVal (l, s) = some (t, { s with val := v }) := by
  cases l with
  | nil => subst h; exact absurd h0 (by decide)
  | cons c t =>
    have hc : valC c = v := h
    refine ⟨c, t, ?_, tk_cons c t, ?_⟩
    · rw [← hc]; exact let_val (by omega)
    · show (if valC c = 0 then none else some (t, { s with val := valC c })) = _
      rw [hc, if_neg (by omega)]
theorem hdV_other {l : List UInt8} {v : Int} (h : hdV l ≠ v) (h0 : 1 ≤ v) (h1 : v ≤ 8) : ∃ c, letV v = [c] ∧ tk c l = none := by
  obtain ⟨c, e, hc⟩ := val_back ⟨h0, h1⟩
  refine ⟨c, e, ?_⟩
  cases l with
  | nil => rfl
  | cons d t =>
    refine tk_no (fun e2 => h ?_) t
    subst e2
    exact hc
set_option maxRecDepth 100000 in
set_option maxHeartbeats 4000000 in
theorem cval_any : Pc 120 rdVal := by
  intro W b x _ h
  obtain ⟨l, s⟩ := x
  have HX := Lib.hid h
  have LE := Lib.hid (fun v V => plet_any v V)
  obtain ⟨v, hv⟩ : ∃ v, hdV l = v := ⟨_, rfl⟩
  have hr := hdV_rng l
  rw [hv] at hr
  have HV := Lib.hid hv
  have OT := Lib.hid (fun u (hu : hdV l ≠ u) h0 h1 => hdV_other (l := l) hu h0 h1)
  have SO := Lib.hid (fun u (hu : hdV l = u) h0 => hdV_some (l := l) hu h0 s)
  have NO := Lib.hid (fun hu => hdV_none (l := l) hu s)
  have TY := Lib.hid (fun c t (e : tk c l = some t) V (hV : CuX V b (l, s)) => take_yes (x := (l, s)) e b V hV)
  have TN := Lib.hid (fun c (e : tk c l = none) V (hV : CuX V b (l, s)) => take_no (x := (l, s)) e b V hV)
  clear h hv
  go_enter Tryz.func120, Tryz.ntmps120
  go_wp2_with fail
  go_loopw [3] (fun s3 W2 => ∃ k : Nat, 1 ≤ k ∧ k ≤ 9 ∧ s3 = .int .i64 k ∧ Hid (v = 0 ∨ (k : Int) ≤ v) ∧ Hid (CuX W2 b (l, s)) ∧ Hid (Mv b W W2)) (fun s3 _ => 9 - (intOf s3).toNat)
  case atStart => exact ⟨1, by omega, by omega, rfl, Lib.hid (by omega), HX, Lib.hid (Mv.refl b W)⟩
  case round =>
    clear HX
    obtain ⟨k, hk1, hk9, rfl, hk, HX, HM⟩ := hrel
    rename World => W2
    by_cases hlt : k ≤ 8
    · have hlt' : (k : Int) ≤ 8 := by omega
      by_cases hkv : hdV l = (k : Int)
      · obtain ⟨c, t, e1, e2, e3⟩ := SO.out k hkv (by omega)
        have fin := Lib.hid e3
        have T := Lib.hid (TY.out c t e2 W2 HX.out)
        have L2 := Lib.hid (fun V => LE.out (k : Int) V)
        unfold letRes at L2
        rw [e1, show letE (k : Int) = 0 from if_pos ⟨by omega, hlt'⟩] at L2
        clear LE OT SO NO TY TN HV hr hk HX e1 e2 e3 hkv
        go_wp2_with fail
        refine (L2.out _).mono ?_
        rintro e w1 ⟨rfl, rfl⟩
        clear L2
        go_wp2_with fail
        refine T.out.mono ?_
        rintro e w3 ⟨rfl, hc, hm⟩
        have HX := Lib.hid hc
        unfold CuX at HX
        have HM2 := Lib.hid (HM.out.trans hm)
        clear hc hm HM T
        go_wp2_with (first | (refine wl_cell 3 b 2 123 _ (.int .i64 (k : Int)) (by kernel_rfl) (by kernel_rfl) HX.out (show 2 < 18 by decide) sz_int rfl rfl ?_) | fail)
        intro W4 h2 h3
        have H2 := Lib.hid (show CuX W4 b (t, { s with val := (k : Int) }) from h2)
        have H3 := Lib.hid (HM2.out.trans h3)
        clear h2 h3 HX HM2
        go_wp2_with fail
        go_ret
        refine ⟨H3.out, fun y hy => ?_, fun hn => ?_⟩
        · rw [fin.out] at hy
          obtain rfl := Option.some.inj hy
          exact ⟨rfl, H2.out⟩
        · rw [fin.out] at hn; cases hn
      · obtain ⟨c, e1, e2⟩ := OT.out k hkv (by omega) hlt'
        have T := Lib.hid (TN.out c e2 W2 HX.out)
        have L2 := Lib.hid (fun V => LE.out (k : Int) V)
        unfold letRes at L2
        rw [e1, show letE (k : Int) = 0 from if_pos ⟨by omega, hlt'⟩] at L2
        have hnx := Lib.hid (show v = 0 ∨ ((k + 1 : Nat) : Int) ≤ v by rw [HV.out] at hkv; have := hk.out; omega)
        clear LE OT SO NO TY TN HV hr hk HX e1 e2 hkv
        go_wp2_with fail
        refine (L2.out _).mono ?_
        rintro e w1 ⟨rfl, rfl⟩
        clear L2
        go_wp2_with fail
        refine T.out.mono ?_
        rintro e w3 ⟨rfl, hc, hm⟩
        have HX := Lib.hid hc
        have HM2 := Lib.hid (HM.out.trans hm)
        clear hc hm HM T
        go_wp2_with fail
        go_roundw
        case rel => exact ⟨k + 1, by omega, by omega, by go_num, hnx, HX, HM2⟩
        case measure => simp [intOf]; omega
    · obtain rfl : k = 9 := by omega
      have fin := Lib.hid (NO.out (by rw [HV.out]; have := hk.out; omega))
      clear LE OT SO NO TY TN HV hr hk HX
      go_wp2_with fail
      go_ret
      exact ⟨HM.out, fun y hy => (by rw [fin.out] at hy; cases hy), fun _ => rfl⟩
end Go.Proofs.YtdmedealdhadcaaGreatDoor

namespace Go.Proofs.YtdmedealdhadcaaGreatDoor
open Go.RowKit
theorem upto_idx (c : UInt8) : ∀ l : List UInt8, ((upto c l).2 = none → Lib.indexByte l c = -1 ∧ (upto c l).1 = l) ∧ (∀ r, (upto c l).2 = some r → Lib.indexByte l c = ((upto c l).1.length : Int))
  | [] => ⟨fun _ => ⟨rfl, rfl⟩, fun r h => (by cases h)⟩
  | d :: t => by
    obtain ⟨h1, h2⟩ := upto_idx c t
    unfold Lib.indexByte upto
    by_cases e : d = c
    · rw [if_pos e]
      have : (d == c) = true := by simp [e]
      rw [if_pos this]
      exact ⟨fun h => (by cases h), fun r _ => rfl⟩
    · rw [if_neg e]
      have : ¬ (d == c) = true := by simp [e]
      rw [if_neg this]
      refine ⟨fun h => ?_, fun r h => ?_⟩
      · obtain ⟨a, b⟩ := h1 h
        rw [a, if_pos (by rfl)]
        exact ⟨rfl, by show d :: (upto c t).1 = _; rw [b]⟩
      · have a := h2 r h
        rw [a, if_neg (by rw [beq_iff_eq]; omega)]
        show ((upto c t).1.length : Int) + 1 = ((d :: (upto c t).1).length : Int)
        simp
def cutRes (l : List UInt8) : Value := match (upto 41 l).2 with
  | some r => .tuple #[.string (bytes (upto 41 l).1), .string (bytes r), .bool true]
  | none => .tuple #[.string (bytes l), .string (bytes []), .bool false]
set_option maxRecDepth 100000 in
set_option maxHeartbeats 4000000 in
theorem lcut_any (s : ByteArray) (w : World) (hs : s.size ≤ 1000000000) : Calls Tryz.prog 184 #[.string s, .string ⟨#[41]⟩] w fun e w' => e = .returned (cutRes s.data.toList) ∧ ∃ n, w' = w.drewN n := by
  have IX := Lib.hid (fun V => Tryz.stringslite_Index_one s 41 V)
  obtain ⟨u1, u2⟩ := upto_idx 41 s.data.toList
  have hsz : s.data.toList.length = s.size := by simp
  unfold cutRes
  cases e : (upto 41 s.data.toList).2 with
  | none =>
    obtain ⟨a, _⟩ := u1 e
    rw [a] at IX
    have fin := Lib.hid (data_bytes s)
    clear u1 u2 e a
    go_enter Tryz.func184, Tryz.ntmps184
    go_wp2_with fail
    refine (IX.out _).mono ?_
    rintro e w1 ⟨rfl, rfl⟩
    go_wp2_with fail
    go_ret3
    exact ⟨by rw [fin.out]; rfl, 0, rfl⟩
  | some r =>
    have a := u2 r e
    have hsp := upto_split 41 s.data.toList e
    have hln := congrArg List.length hsp
    rw [List.length_append, List.length_cons, hsz] at hln
    rw [a] at IX
    have x1 := extract_bytes s 0 (upto 41 s.data.toList).1.length (by omega) (Nat.zero_le _)
    have x2 := extract_bytes s ((upto 41 s.data.toList).1.length + 1) s.size (Nat.le_refl _) (by omega)
    have y1 : (s.data.toList.take (upto 41 s.data.toList).1.length).drop 0 = (upto 41 s.data.toList).1 := by
      rw [List.drop_zero]
      conv => lhs; arg 2; rw [hsp]
      rw [List.take_left]
    have y2 : (s.data.toList.take s.size).drop ((upto 41 s.data.toList).1.length + 1) = r := by
      rw [← hsz, List.take_length]
      have e3 : s.data.toList.drop ((upto 41 s.data.toList).1.length + 1) = (((upto 41 s.data.toList).1 ++ [41]) ++ r).drop ((upto 41 s.data.toList).1 ++ [41]).length := by
        rw [show (upto 41 s.data.toList).1 ++ [41] ++ r = (upto 41 s.data.toList).1 ++ 41 :: r by simp, ← hsp, List.length_append]; rfl
      rw [e3, List.drop_left]
    rw [y1] at x1
    rw [y2] at x2
    clear u1 u2 e a hsp y1 y2 hsz
    generalize (upto 41 s.data.toList).1 = p at *
    generalize p.length = n at *
    have b1 : (0 : Int) ≤ n := by omega
    have b2 : (n : Int) ≤ s.size := by omega
    have b3 : (n : Int) + 1 ≤ s.size := by omega
    clear hln
    go_enter Tryz.func184, Tryz.ntmps184
    go_wp2_with fail
    refine (IX.out _).mono ?_
    rintro e w1 ⟨rfl, rfl⟩
    go_wp2_with fail
    go_region
    go_wp2_with fail
    go_ret3
    exact ⟨rfl, 1, rfl⟩
set_option maxRecDepth 100000 in
set_option maxHeartbeats 4000000 in
theorem pcut_any (s : ByteArray) (w : World) (hs : s.size ≤ 1000000000) : Calls Tryz.prog 170 #[.string s, .string ⟨#[41]⟩] w fun e w' => e = .returned (cutRes s.data.toList) ∧ ∃ n, w' = w.drewN n := by
  have C := Lib.hid (fun V => lcut_any s V hs)
  unfold cutRes at C ⊢
  cases e : (upto 41 s.data.toList).2 with
  | none =>
    rw [e] at C
    have C2 := Lib.hid (fun V => show Calls Tryz.prog 184 #[.string s, .string ⟨#[41]⟩] V fun e w' => e = .returned (.tuple #[.string (bytes s.data.toList), .string (bytes []), .bool false]) ∧ ∃ n, w' = V.drewN n from C.out V)
    clear C
    go_enter Tryz.func170, Tryz.ntmps170
    go_wp2_with fail
    refine (C2.out _).mono ?_
    rintro e w1 ⟨rfl, n, rfl⟩
    go_wp2_with fail
    go_ret3
    exact ⟨rfl, n, rfl⟩
  | some r =>
    rw [e] at C
    have C2 := Lib.hid (fun V => show Calls Tryz.prog 184 #[.string s, .string ⟨#[41]⟩] V fun e w' => e = .returned (.tuple #[.string (bytes (upto 41 s.data.toList).1), .string (bytes r), .bool true]) ∧ ∃ n, w' = V.drewN n from C.out V)
    clear C
    go_enter Tryz.func170, Tryz.ntmps170
    go_wp2_with fail
    refine (C2.out _).mono ?_
    rintro e w1 ⟨rfl, n, rfl⟩
    go_wp2_with fail
    go_ret3
    exact ⟨rfl, n, rfl⟩
end Go.Proofs.YtdmedealdhadcaaGreatDoor
