/- Pieces that a cursor takes: places and values. Pieces that a cursor takes: mensurations with their brackets. Pieces that a cursor takes: mensurations with their brackets, the walk. -/
import Derived.Test.YtdmedealdhadcaaGreatDoorG09

namespace Go.Proofs.YtdmedealdhadcaaGreatDoor
open Go.RowKit
theorem signed_eq (l : List UInt8) : signedRes l = .tuple #[.int .i64 (signO l).1, .bool (signO l).2] := by
  unfold signedRes signO
  split
  · split
    · rename_i h; rw [h]
    · rename_i h; rw [h]
  · unfold numRes
    split
    · rename_i h; rw [h]
    · rename_i h; rw [h]
theorem plc_yes {l t : List UInt8} (h : tk 45 l = some t) : plcT l = 45 :: t.takeWhile dig ∧ plcR l = t.dropWhile dig := by
  obtain rfl := tk_some h
  exact ⟨rfl, rfl⟩
theorem plc_no {l : List UInt8} (h : tk 45 l = none) : plcT l = l.takeWhile dig ∧ plcR l = l.dropWhile dig := by
  have hh : l.head? ≠ some 45 := by
    cases l with
    | nil => simp
    | cons c t =>
      intro e
      simp only [List.head?_cons, Option.some.injEq] at e
      subst e
      rw [tk_cons] at h
      cases h
  unfold plcT plcR
  rw [if_neg hh, if_neg hh]
  exact ⟨rfl, rfl⟩
set_option maxRecDepth 100000 in
set_option maxHeartbeats 4000000 in
theorem cplc_any : Pc 121 rdPlc := by
  intro W b x hl h
  obtain ⟨l, s⟩ := x
  change l.length ≤ 1000000 at hl
  have HX := Lib.hid h
  clear h
  cases e : tk 45 l with
  | some t =>
    have T := Lib.hid (take_yes (x := (l, s)) e b W HX.out)
    obtain ⟨e1, e2⟩ := plc_yes e
    have ht : t.length ≤ 1000000 := by have := congrArg List.length (tk_some e); rw [List.length_cons] at this; omega
    have htd := take_drop t
    have D := Lib.hid (fun V (hV : CuX V b (t, s)) => pdig_any b (t, s) V ht hV)
    have hcat : (⟨#[45]⟩ : ByteArray) ++ bytes (t.takeWhile dig) = bytes (45 :: t.takeWhile dig) := bytes_app [45] _
    have hz : (bytes (45 :: t.takeWhile dig)).size ≤ maxLen := by rw [bytes_size, List.length_cons]; unfold maxLen; omega
    have SG := Lib.hid (fun V => wsigned_any (bytes (45 :: t.takeWhile dig)) V hz)
    rw [bytes_data, signed_eq, ← e1] at SG
    rw [← e1] at hcat
    have z2 : (bytes (t.takeWhile dig)).size = (t.takeWhile dig).length := bytes_size _
    have z3 : ¬ 9223372036854775807 < 1 + (bytes (t.takeWhile dig)).size := by rw [z2]; omega
    have fin := Lib.hid (show rdPlc (l, s) = if (signO (plcT l)).2 then some (plcR l, { s with place := (signO (plcT l)).1 }) else none from rfl)
    rw [e2] at fin
    change Hid (∀ V, CuX V b (t, s) → Calls _ _ _ _ fun e W' => e = .returned (.string (bytes (t.takeWhile dig))) ∧ CuX W' b (t.dropWhile dig, s) ∧ Mv b V W') at D
    clear e e1 e2 ht htd hz hl
    generalize t.takeWhile dig = ds at *
    generalize t.dropWhile dig = rs at *
    generalize plcT l = pl at *
    generalize bytes ds = DB at *
    generalize bytes pl = PB at *
    generalize rdPlc (l, s) = R at *
    generalize signO pl = sg at *
    obtain ⟨n, bo⟩ := sg
    change Hid (∀ V, Calls _ _ _ _ fun e w' => e = .returned (.tuple #[.int .i64 n, .bool bo]) ∧ V = w') at SG
    change Hid (R = if bo then some (rs, { s with place := n }) else none) at fin
    go_enter Tryz.func121, Tryz.ntmps121
    go_wp2_with fail
    refine T.out.mono ?_
    rintro e w1 ⟨rfl, hc, hm⟩
    have D1 := Lib.hid (D.out w1 hc)
    have HM := Lib.hid hm
    clear hc hm T D HX
    go_wp2_with fail
    refine D1.out.mono ?_
    rintro e w2 ⟨rfl, hc, hm⟩
    have HX := Lib.hid hc
    unfold CuX at HX
    have HM2 := Lib.hid (HM.out.trans hm)
    clear hc hm HM D1
    go_wp2_with fail
    refine (SG.out _).mono ?_
    rintro e w3 ⟨rfl, rfl⟩
    clear SG
    go_wp2_with (first | (refine wl_cell 3 b 3 123 _ (.int .i64 n) (by kernel_rfl) (by kernel_rfl) HX.out (show 3 < 18 by decide) sz_int rfl rfl ?_) | fail)
    intro W2 h2 h3
    have H2 := Lib.hid (show CuX W2 b (rs, { s with place := n }) from h2)
    have H3 := Lib.hid (HM2.out.trans h3)
    clear h2 h3 HX HM2
    go_wp2_with fail
    go_ret
    refine ⟨H3.out, fun y hy => ?_, fun hn => ?_⟩
    · rw [fin.out] at hy
      cases bo with
      | true =>
        obtain rfl := Option.some.inj hy
        exact ⟨rfl, H2.out⟩
      | false => cases hy
    · rw [fin.out] at hn
      cases bo with
      | true => cases hn
      | false => rfl
  | none =>
    have T := Lib.hid (take_no (x := (l, s)) e b W HX.out)
    obtain ⟨e1, e2⟩ := plc_no e
    have htd := take_drop l
    have D := Lib.hid (fun V (hV : CuX V b (l, s)) => pdig_any b (l, s) V hl hV)
    have hz : (bytes (l.takeWhile dig)).size ≤ maxLen := by rw [bytes_size]; unfold maxLen; omega
    have SG := Lib.hid (fun V => wsigned_any (bytes (l.takeWhile dig)) V hz)
    rw [bytes_data, signed_eq, ← e1] at SG
    have z2 : (bytes (l.takeWhile dig)).size = (l.takeWhile dig).length := bytes_size _
    have z3 : ¬ 9223372036854775807 < (bytes (l.takeWhile dig)).size := by rw [z2]; omega
    have fin := Lib.hid (show rdPlc (l, s) = if (signO (plcT l)).2 then some (plcR l, { s with place := (signO (plcT l)).1 }) else none from rfl)
    rw [e2] at fin
    change Hid (∀ V, CuX V b (l, s) → Calls _ _ _ _ fun e W' => e = .returned (.string (bytes (l.takeWhile dig))) ∧ CuX W' b (l.dropWhile dig, s) ∧ Mv b V W') at D
    clear e e2 htd hz
    rw [← e1] at D z2 z3
    generalize l.dropWhile dig = rs at *
    generalize plcT l = pl at *
    clear e1
    generalize bytes pl = PB at *
    generalize rdPlc (l, s) = R at *
    generalize signO pl = sg at *
    obtain ⟨n, bo⟩ := sg
    change Hid (∀ V, Calls _ _ _ _ fun e w' => e = .returned (.tuple #[.int .i64 n, .bool bo]) ∧ V = w') at SG
    change Hid (R = if bo then some (rs, { s with place := n }) else none) at fin
    go_enter Tryz.func121, Tryz.ntmps121
    go_wp2_with fail
    refine T.out.mono ?_
    rintro e w1 ⟨rfl, hc, hm⟩
    have D1 := Lib.hid (D.out w1 hc)
    have HM := Lib.hid hm
    clear hc hm T D HX
    go_wp2_with fail
    refine D1.out.mono ?_
    rintro e w2 ⟨rfl, hc, hm⟩
    have HX := Lib.hid hc
    unfold CuX at HX
    have HM2 := Lib.hid (HM.out.trans hm)
    clear hc hm HM D1
    go_wp2_with fail
    refine (SG.out _).mono ?_
    rintro e w3 ⟨rfl, rfl⟩
    clear SG
    go_wp2_with (first | (refine wl_cell 3 b 3 123 _ (.int .i64 n) (by kernel_rfl) (by kernel_rfl) HX.out (show 3 < 18 by decide) sz_int rfl rfl ?_) | fail)
    intro W2 h2 h3
    have H2 := Lib.hid (show CuX W2 b (rs, { s with place := n }) from h2)
    have H3 := Lib.hid (HM2.out.trans h3)
    clear h2 h3 HX HM2
    go_wp2_with fail
    go_ret
    refine ⟨H3.out, fun y hy => ?_, fun hn => ?_⟩
    · rw [fin.out] at hy
      cases bo with
      | true =>
        obtain rfl := Option.some.inj hy
        exact ⟨rfl, H2.out⟩
      | false => cases hy
    · rw [fin.out] at hn
      cases bo with
      | true => cases hn
      | false => rfl
/-! ### Values -/
def hdV : List UInt8 → Int
  | c :: _ => valC c
  | [] => 0
theorem hdV_rng (l : List UInt8) : hdV l = 0 ∨ (1 ≤ hdV l ∧ hdV l ≤ 8) := by
  cases l with
  | nil => exact .inl rfl
  | cons c t => exact valC_rng c
theorem hdV_none {l : List UInt8} (h : hdV l = 0) (s : Sg) : rdVal (l, s) = none := by
  cases l with
  | nil => rfl
  | cons c t => show (if valC c = 0 then none else some _) = none; exact if_pos h
theorem hdV_some {l : List UInt8} {v : Int} (h : hdV l = v) (h0 : 1 ≤ v) (s : Sg) : ∃ c t, letV v = [c] ∧ tk c l = some t ∧ rdVal (l, s) = some (t, { s with val := v }) := by
  cases l with
  | nil => subst h; exact absurd h0 (by decide)
  | cons c t =>
    have hc : valC c = v := h
    refine ⟨c, t, ?_, tk_cons c t, ?_⟩
    · rw [← hc]; exact let_val (by omega)
    · show (if valC c = 0 then none else some (t, { s with val := valC c })) = _
      rw [hc, if_neg (by omega)]
theorem hdV_other {l : List UInt8} {v : Int} (h : hdV l ≠ v) (h0 : 1 ≤ v) (h1 : v ≤ 8) : ∃ c, letV v = [c] ∧ tk c l = none := by
  obtain ⟨c, e, hc⟩ := val_back ⟨h0, h1⟩
  refine ⟨c, e, ?_⟩
  cases l with
  | nil => rfl
  | cons d t =>
    refine tk_no (fun e2 => h ?_) t
    subst e2
    exact hc
set_option maxRecDepth 100000 in
set_option maxHeartbeats 4000000 in
theorem cval_any : Pc 120 rdVal := by
  intro W b x _ h
  obtain ⟨l, s⟩ := x
  have HX := Lib.hid h
  have LE := Lib.hid (fun v V => plet_any v V)
  obtain ⟨v, hv⟩ : ∃ v, hdV l = v := ⟨_, rfl⟩
  have hr := hdV_rng l
  rw [hv] at hr
  have HV := Lib.hid hv
  have OT := Lib.hid (fun u (hu : hdV l ≠ u) h0 h1 => hdV_other (l := l) hu h0 h1)
  have SO := Lib.hid (fun u (hu : hdV l = u) h0 => hdV_some (l := l) hu h0 s)
  have NO := Lib.hid (fun hu => hdV_none (l := l) hu s)
  have TY := Lib.hid (fun c t (e : tk c l = some t) V (hV : CuX V b (l, s)) => take_yes (x := (l, s)) e b V hV)
  have TN := Lib.hid (fun c (e : tk c l = none) V (hV : CuX V b (l, s)) => take_no (x := (l, s)) e b V hV)
  clear h hv
  go_enter Tryz.func120, Tryz.ntmps120
  go_wp2_with fail
  go_loopw [3] (fun s3 W2 => ∃ k : Nat, 1 ≤ k ∧ k ≤ 9 ∧ s3 = .int .i64 k ∧ Hid (v = 0 ∨ (k : Int) ≤ v) ∧ Hid (CuX W2 b (l, s)) ∧ Hid (Mv b W W2)) (fun s3 _ => 9 - (intOf s3).toNat)
  case atStart => exact ⟨1, by omega, by omega, rfl, Lib.hid (by omega), HX, Lib.hid (Mv.refl b W)⟩
  case round =>
    clear HX
    obtain ⟨k, hk1, hk9, rfl, hk, HX, HM⟩ := hrel
    rename World => W2
    by_cases hlt : k ≤ 8
    · have hlt' : (k : Int) ≤ 8 := by omega
      by_cases hkv : hdV l = (k : Int)
      · obtain ⟨c, t, e1, e2, e3⟩ := SO.out k hkv (by omega)
        have fin := Lib.hid e3
        have T := Lib.hid (TY.out c t e2 W2 HX.out)
        have L2 := Lib.hid (fun V => LE.out (k : Int) V)
        unfold letRes at L2
        rw [e1, show letE (k : Int) = 0 from if_pos ⟨by omega, hlt'⟩] at L2
        clear LE OT SO NO TY TN HV hr hk HX e1 e2 e3 hkv
        go_wp2_with fail
        refine (L2.out _).mono ?_
        rintro e w1 ⟨rfl, rfl⟩
        clear L2
        go_wp2_with fail
        refine T.out.mono ?_
        rintro e w3 ⟨rfl, hc, hm⟩
        have HX := Lib.hid hc
        unfold CuX at HX
        have HM2 := Lib.hid (HM.out.trans hm)
        clear hc hm HM T
        go_wp2_with (first | (refine wl_cell 3 b 2 123 _ (.int .i64 (k : Int)) (by kernel_rfl) (by kernel_rfl) HX.out (show 2 < 18 by decide) sz_int rfl rfl ?_) | fail)
        intro W4 h2 h3
        have H2 := Lib.hid (show CuX W4 b (t, { s with val := (k : Int) }) from h2)
        have H3 := Lib.hid (HM2.out.trans h3)
        clear h2 h3 HX HM2
        go_wp2_with fail
        go_ret
        refine ⟨H3.out, fun y hy => ?_, fun hn => ?_⟩
        · rw [fin.out] at hy
          obtain rfl := Option.some.inj hy
          exact ⟨rfl, H2.out⟩
        · rw [fin.out] at hn; cases hn
      · obtain ⟨c, e1, e2⟩ := OT.out k hkv (by omega) hlt'
        have T := Lib.hid (TN.out c e2 W2 HX.out)
        have L2 := Lib.hid (fun V => LE.out (k : Int) V)
        unfold letRes at L2
        rw [e1, show letE (k : Int) = 0 from if_pos ⟨by omega, hlt'⟩] at L2
        have hnx := Lib.hid (show v = 0 ∨ ((k + 1 : Nat) : Int) ≤ v by rw [HV.out] at hkv; have := hk.out; omega)
        clear LE OT SO NO TY TN HV hr hk HX e1 e2 hkv
        go_wp2_with fail
        refine (L2.out _).mono ?_
        rintro e w1 ⟨rfl, rfl⟩
        clear L2
        go_wp2_with fail
        refine T.out.mono ?_
        rintro e w3 ⟨rfl, hc, hm⟩
        have HX := Lib.hid hc
        have HM2 := Lib.hid (HM.out.trans hm)
        clear hc hm HM T
        go_wp2_with fail
        go_roundw
        case rel => exact ⟨k + 1, by omega, by omega, by go_num, hnx, HX, HM2⟩
        case measure => simp [intOf]; omega
    · obtain rfl : k = 9 := by omega
      have fin := Lib.hid (NO.out (by rw [HV.out]; have := hk.out; omega))
      clear LE OT SO NO TY TN HV hr hk HX
      go_wp2_with fail
      go_ret
      exact ⟨HM.out, fun y hy => (by rw [fin.out] at hy; cases hy), fun _ => rfl⟩
end Go.Proofs.YtdmedealdhadcaaGreatDoor

namespace Go.Proofs.YtdmedealdhadcaaGreatDoor
open Go.RowKit
theorem upto_idx (c : UInt8) : ∀ l : List UInt8, ((upto c l).2 = none → Lib.indexByte l c = -1 ∧ (upto c l).1 = l) ∧ (∀ r, (upto c l).2 = some r → Lib.indexByte l c = ((upto c l).1.length : Int))
  | [] => ⟨fun _ => ⟨rfl, rfl⟩, fun r h => (by cases h)⟩
  | d :: t => by
    obtain ⟨h1, h2⟩ := upto_idx c t
    unfold Lib.indexByte upto
    by_cases e : d = c
    · rw [if_pos e]
      have : (d == c) = true := by simp [e]
      rw [if_pos this]
      exact ⟨fun h => (by cases h), fun r _ => rfl⟩
    · rw [if_neg e]
      have : ¬ (d == c) = true := by simp [e]
      rw [if_neg this]
      refine ⟨fun h => ?_, fun r h => ?_⟩
      · obtain ⟨a, b⟩ := h1 h
        rw [a, if_pos (by rfl)]
        exact ⟨rfl, by show d :: (upto c t).1 = _; rw [b]⟩
      · have a := h2 r h
        rw [a, if_neg (by rw [beq_iff_eq]; omega)]
        show ((upto c t).1.length : Int) + 1 = ((d :: (upto c t).1).length : Int)
        simp
def cutRes (l : List UInt8) : Value := match (upto 41 l).2 with
  | some r => .tuple #[.string (bytes (upto 41 l).1), .string (bytes r), .bool true]
  | none => .tuple #[.string (bytes l), .string (bytes []), .bool false]
set_option maxRecDepth 100000 in
set_option maxHeartbeats 4000000 in
theorem lcut_any (s : ByteArray) (w : World) (hs : s.size ≤ 1000000000) : Calls Tryz.prog 184 #[.string s, .string ⟨#[41]⟩] w fun e w' => e = .returned (cutRes s.data.toList) ∧ ∃ n, w' = w.drewN n := by
  have IX := Lib.hid (fun V => Tryz.stringslite_Index_one s 41 V)
  obtain ⟨u1, u2⟩ := upto_idx 41 s.data.toList
  have hsz : s.data.toList.length = s.size := by simp
  unfold cutRes
  cases e : (upto 41 s.data.toList).2 with
  | none =>
    obtain ⟨a, _⟩ := u1 e
    rw [a] at IX
    have fin := Lib.hid (data_bytes s)
    clear u1 u2 e a
    go_enter Tryz.func184, Tryz.ntmps184
    go_wp2_with fail
    refine (IX.out _).mono ?_
    rintro e w1 ⟨rfl, rfl⟩
    go_wp2_with fail
    go_ret3
    exact ⟨by rw [fin.out]; rfl, 0, rfl⟩
  | some r =>
    have a := u2 r e
    have hsp := upto_split 41 s.data.toList e
    have hln := congrArg List.length hsp
    rw [List.length_append, List.length_cons, hsz] at hln
    rw [a] at IX
    have x1 := extract_bytes s 0 (upto 41 s.data.toList).1.length (by omega) (Nat.zero_le _)
    have x2 := extract_bytes s ((upto 41 s.data.toList).1.length + 1) s.size (Nat.le_refl _) (by omega)
    have y1 : (s.data.toList.take (upto 41 s.data.toList).1.length).drop 0 = (upto 41 s.data.toList).1 := by
      rw [List.drop_zero]
      conv => lhs; arg 2; rw [hsp]
      rw [List.take_left]
    have y2 : (s.data.toList.take s.size).drop ((upto 41 s.data.toList).1.length + 1) = r := by
      rw [← hsz, List.take_length]
      have e3 : s.data.toList.drop ((upto 41 s.data.toList).1.length + 1) = (((upto 41 s.data.toList).1 ++ [41]) ++ r).drop ((upto 41 s.data.toList).1 ++ [41]).length := by
        rw [show (upto 41 s.data.toList).1 ++ [41] ++ r = (upto 41 s.data.toList).1 ++ 41 :: r by simp, ← hsp, List.length_append]; rfl
      rw [e3, List.drop_left]
    rw [y1] at x1
    rw [y2] at x2
    clear u1 u2 e a hsp y1 y2 hsz
    generalize (upto 41 s.data.toList).1 = p at *
    generalize p.length = n at *
    have b1 : (0 : Int) ≤ n := by omega
    have b2 : (n : Int) ≤ s.size := by omega
    have b3 : (n : Int) + 1 ≤ s.size := by omega
    clear hln
    go_enter Tryz.func184, Tryz.ntmps184
    go_wp2_with fail
    refine (IX.out _).mono ?_
    rintro e w1 ⟨rfl, rfl⟩
    go_wp2_with fail
    go_region
    go_wp2_with fail
    go_ret3
    exact ⟨rfl, 1, rfl⟩
set_option maxRecDepth 100000 in
set_option maxHeartbeats 4000000 in
theorem pcut_any (s : ByteArray) (w : World) (hs : s.size ≤ 1000000000) : Calls Tryz.prog 170 #[.string s, .string ⟨#[41]⟩] w fun e w' => e = .returned (cutRes s.data.toList) ∧ ∃ n, w' = w.drewN n := by
  have C := Lib.hid (fun V => lcut_any s V hs)
  unfold cutRes at C ⊢
  cases e : (upto 41 s.data.toList).2 with
  | none =>
    rw [e] at C
    have C2 := Lib.hid (fun V => show Calls Tryz.prog 184 #[.string s, .string ⟨#[41]⟩] V fun e w' => e = .returned (.tuple #[.string (bytes s.data.toList), .string (bytes []), .bool false]) ∧ ∃ n, w' = V.drewN n from C.out V)
    clear C
    go_enter Tryz.func170, Tryz.ntmps170
    go_wp2_with fail
    refine (C2.out _).mono ?_
    rintro e w1 ⟨rfl, n, rfl⟩
    go_wp2_with fail
    go_ret3
    exact ⟨rfl, n, rfl⟩
  | some r =>
    rw [e] at C
    have C2 := Lib.hid (fun V => show Calls Tryz.prog 184 #[.string s, .string ⟨#[41]⟩] V fun e w' => e = .returned (.tuple #[.string (bytes (upto 41 s.data.toList).1), .string (bytes r), .bool true]) ∧ ∃ n, w' = V.drewN n from C.out V)
    clear C
    go_enter Tryz.func170, Tryz.ntmps170
    go_wp2_with fail
    refine (C2.out _).mono ?_
    rintro e w1 ⟨rfl, n, rfl⟩
    go_wp2_with fail
    go_ret3
    exact ⟨rfl, n, rfl⟩
end Go.Proofs.YtdmedealdhadcaaGreatDoor

namespace Go.Proofs.YtdmedealdhadcaaGreatDoor
open Go.RowKit
theorem mv_drewN (b : Nat) (W : World) (n : Nat) : Mv b W (W.drewN n) := ⟨rfl, rfl, rfl, Nat.le_refl _, fun _ _ _ => rfl⟩
theorem holds_drewN {W : World} {b : Nat} {t : TypeId} {cs : Array Value} (h : HoldsB W b t cs) (n : Nat) : HoldsB (W.drewN n) b t cs := h
theorem mv_set (b j : Nat) (W : World) (v : Value) : Mv b W (W.setCell ⟨b, j, none⟩ v) := grown_set W b j v
set_option maxRecDepth 100000 in
set_option maxHeartbeats 4000000 in
theorem pmens_any : Pc 133 rdMens := by
  intro W b x hl h
  obtain ⟨l, s⟩ := x
  change l.length ≤ 1000000 at hl
  have HX := Lib.hid h
  clear h
  cases e : tk 40 l with
  | none =>
    have T := Lib.hid (take_no (x := (l, s)) e b W HX.out)
    have fin := Lib.hid (show rdMens (l, s) = none by unfold rdMens; rw [e]; rfl)
    clear e hl HX
    go_enter Tryz.func133, Tryz.ntmps133
    go_wp2_with fail
    refine T.out.mono ?_
    rintro e w1 ⟨rfl, hc, hm⟩
    have HM := Lib.hid hm
    clear hc hm T
    go_wp2_with fail
    go_ret
    exact ⟨HM.out, fun y hy => (by rw [fin.out] at hy; cases hy), fun _ => rfl⟩
  | some t =>
    have T := Lib.hid (take_yes (x := (l, s)) e b W HX.out)
    have ht : t.length ≤ 1000000 := by have := congrArg List.length (tk_some e); rw [List.length_cons] at this; omega
    have CT := Lib.hid (fun V => pcut_any (bytes t) V (by rw [bytes_size]; omega))
    rw [bytes_data] at CT
    have hlt := HX.out.lt
    clear HX
    unfold cutRes at CT
    cases e2 : (upto 41 t).2 with
    | some r =>
      have hp : (upto 41 t).1.length ≤ 1000000 := by have := congrArg List.length (upto_split 41 t e2); rw [List.length_append, List.length_cons] at this; omega
      have PA := Lib.hid (fun V => parse_any (bytes (upto 41 t).1) (by rw [bytes_size]; unfold maxLen; omega) V)
      unfold ParPost at PA
      have fin := Lib.hid (show rdMens (l, s) = if parE (bytes (upto 41 t).1) = 0 then some (r, putM (parQ (bytes (upto 41 t).1)) s) else none by unfold rdMens; rw [e]; show (upto 41 t).2.bind _ = _; rw [e2]; rfl)
      rw [e2] at CT
      have C2 := Lib.hid (fun V => show Calls Tryz.prog 170 #[.string (bytes t), .string ⟨#[41]⟩] V fun e w' => e = .returned (.tuple #[.string (bytes (upto 41 t).1), .string (bytes r), .bool true]) ∧ ∃ n, w' = V.drewN n from CT.out V)
      clear CT e e2 ht hl hp
      generalize (upto 41 t).1 = p at *
      generalize parQ (bytes p) = q at *
      generalize parE (bytes p) = pe at *
      generalize rdMens (l, s) = R at *
      obtain ⟨qa, qb, qc, qd⟩ := q
      go_enter Tryz.func133, Tryz.ntmps133
      go_wp2_with fail
      refine T.out.mono ?_
      rintro e w1 ⟨rfl, hc, hm⟩
      have HX := Lib.hid hc
      have HM := Lib.hid hm
      have c0 := hc.left
      change w1.cell? _ = some (.string (bytes t)) at c0
      clear hc hm T
      go_wp2_with fail
      refine (C2.out _).mono ?_
      rintro e w2 ⟨rfl, n, rfl⟩
      clear C2
      go_wp2_with fail
      refine (PA.out _).mono ?_
      rintro e w3 ⟨rfl, hb⟩
      have hlt3 := Lib.hid ((holds_drewN (show HoldsB w1 b 123 _ from HX.out) n).later hb).lt
      have KM := Lib.hid (HoldsB.new w3 23 #[.int .i64 qa, .int .i64 qb, .int .i64 qc, .int .i64 qd])
      have HX3 := Lib.hid (show HoldsB (w3.alloc (.cells #[.int .i64 qa, .int .i64 qb, .int .i64 qc, .int .i64 qd] 23)) b 123 (cuA t s) from ((holds_drewN (show HoldsB w1 b 123 _ from HX.out) n).later hb).al _)
      have HM3 := Lib.hid (show Mv b W (w3.alloc (.cells #[.int .i64 qa, .int .i64 qb, .int .i64 qc, .int .i64 qd] 23)) from ((HM.out.trans (mv_drewN b w1 n)).trans (Mv.of hb)).trans (Mv.of (w_alloc (w_refl w3) _)))
      clear HX PA c0 HM
      go_wp2_with fail
      have m0 := KM.out.cell (j := 0) (v := .int .i64 qa) rfl
      have m1 := KM.out.cell (j := 1) (v := .int .i64 qb) rfl
      have m2 := KM.out.cell (j := 2) (v := .int .i64 qc) rfl
      have m3 := KM.out.cell (j := 3) (v := .int .i64 qd) rfl
      have c0 := HX3.out.cell (j := 0) (v := .string (bytes t)) rfl
      have d9 := HX3.out.cell (j := 9) (v := .int .i64 s.m0) rfl
      have d10 := HX3.out.cell (j := 10) (v := .int .i64 s.m1) rfl
      have d11 := HX3.out.cell (j := 11) (v := .int .i64 s.m2) rfl
      have d12 := HX3.out.cell (j := 12) (v := .int .i64 s.m3) rfl
      have f0 := HX3.out.frozen 0
      have f9 := HX3.out.frozen 9
      have f10 := HX3.out.frozen 10
      have f11 := HX3.out.frozen 11
      have f12 := HX3.out.frozen 12
      have hb3 : b ≠ w3.heap.size := Nat.ne_of_lt hlt3.out
      go_region
      clear m0 m1 m2 m3 c0 d9 d10 d11 d12 f0 f9 f10 f11 f12 hb
      have H2 := Lib.hid (show CuX _ b (r, putM (qa, qb, qc, qd) s) from ((((HX3.out.set 0 (.string (bytes r))).set 9 (.int .i64 qa)).set 10 (.int .i64 qb)).set 11 (.int .i64 qc)).set 12 (.int .i64 qd))
      have H3 := Lib.hid (((((HM3.out.trans (mv_set b 0 _ (.string (bytes r)))).trans (mv_set b 9 _ (.int .i64 qa))).trans (mv_set b 10 _ (.int .i64 qb))).trans (mv_set b 11 _ (.int .i64 qc))).trans (mv_set b 12 _ (.int .i64 qd)))
      clear HX3 HM3 KM
      generalize World.setCell _ ⟨b, 12, none⟩ _ = wz at *
      have H4 := Lib.hid (show CuX wz.drew b (r, putM (qa, qb, qc, qd) s) from H2.out)
      have H5 := Lib.hid (H3.out.trans (Mv.of (w_refl wz).drew))
      clear H2 H3
      by_cases hpe : pe = 0
      · have fin2 := Lib.hid (show R = some (r, putM (qa, qb, qc, qd) s) by rw [fin.out, if_pos hpe])
        clear fin
        subst hpe
        go_wp2_with fail
        go_ret
        refine ⟨H5.out, ?_, fun hn => ?_⟩
        · first
            | (intro y hy
               obtain rfl := Option.some.inj (hy.symm.trans fin2.out)
               exact ⟨rfl, H4.out⟩)
            | (intro y z hy
               obtain ⟨rfl, rfl⟩ := Prod.mk.inj (Option.some.inj (hy.symm.trans fin2.out))
               exact ⟨rfl, H4.out⟩)
        · rw [fin2.out] at hn; cases hn
      · have hpf : (pe == 0) = false := by simpa using hpe
        go_wp2_with fail
        go_ret
        refine ⟨H5.out, fun y hy => ?_, fun hn => rfl⟩
        rw [fin.out, if_neg hpe] at hy; cases hy
    | none =>
      have hp : t.length ≤ 1000000 := ht
      have PA := Lib.hid (fun V => parse_any (bytes t) (by rw [bytes_size]; unfold maxLen; omega) V)
      unfold ParPost at PA
      have fin := Lib.hid (show rdMens (l, s) = none by unfold rdMens; rw [e]; show (upto 41 t).2.bind _ = _; rw [e2]; rfl)
      rw [e2] at CT
      have C2 := Lib.hid (fun V => show Calls Tryz.prog 170 #[.string (bytes t), .string ⟨#[41]⟩] V fun e w' => e = .returned (.tuple #[.string (bytes t), .string (bytes []), .bool false]) ∧ ∃ n, w' = V.drewN n from CT.out V)
      clear CT e e2 ht hl hp
      generalize parQ (bytes t) = q at *
      generalize parE (bytes t) = pe at *
      generalize rdMens (l, s) = R at *
      obtain ⟨qa, qb, qc, qd⟩ := q
      go_enter Tryz.func133, Tryz.ntmps133
      go_wp2_with fail
      refine T.out.mono ?_
      rintro e w1 ⟨rfl, hc, hm⟩
      have HX := Lib.hid hc
      have HM := Lib.hid hm
      have c0 := hc.left
      change w1.cell? _ = some (.string (bytes t)) at c0
      clear hc hm T
      go_wp2_with fail
      refine (C2.out _).mono ?_
      rintro e w2 ⟨rfl, n, rfl⟩
      clear C2
      go_wp2_with fail
      refine (PA.out _).mono ?_
      rintro e w3 ⟨rfl, hb⟩
      have hlt3 := Lib.hid ((holds_drewN (show HoldsB w1 b 123 _ from HX.out) n).later hb).lt
      have KM := Lib.hid (HoldsB.new w3 23 #[.int .i64 qa, .int .i64 qb, .int .i64 qc, .int .i64 qd])
      have HX3 := Lib.hid (show HoldsB (w3.alloc (.cells #[.int .i64 qa, .int .i64 qb, .int .i64 qc, .int .i64 qd] 23)) b 123 (cuA t s) from ((holds_drewN (show HoldsB w1 b 123 _ from HX.out) n).later hb).al _)
      have HM3 := Lib.hid (show Mv b W (w3.alloc (.cells #[.int .i64 qa, .int .i64 qb, .int .i64 qc, .int .i64 qd] 23)) from ((HM.out.trans (mv_drewN b w1 n)).trans (Mv.of hb)).trans (Mv.of (w_alloc (w_refl w3) _)))
      clear HX PA c0 HM
      go_wp2_with fail
      have m0 := KM.out.cell (j := 0) (v := .int .i64 qa) rfl
      have m1 := KM.out.cell (j := 1) (v := .int .i64 qb) rfl
      have m2 := KM.out.cell (j := 2) (v := .int .i64 qc) rfl
      have m3 := KM.out.cell (j := 3) (v := .int .i64 qd) rfl
      have c0 := HX3.out.cell (j := 0) (v := .string (bytes t)) rfl
      have d9 := HX3.out.cell (j := 9) (v := .int .i64 s.m0) rfl
      have d10 := HX3.out.cell (j := 10) (v := .int .i64 s.m1) rfl
      have d11 := HX3.out.cell (j := 11) (v := .int .i64 s.m2) rfl
      have d12 := HX3.out.cell (j := 12) (v := .int .i64 s.m3) rfl
      have f0 := HX3.out.frozen 0
      have f9 := HX3.out.frozen 9
      have f10 := HX3.out.frozen 10
      have f11 := HX3.out.frozen 11
      have f12 := HX3.out.frozen 12
      have hb3 : b ≠ w3.heap.size := Nat.ne_of_lt hlt3.out
      go_region
      clear m0 m1 m2 m3 c0 d9 d10 d11 d12 f0 f9 f10 f11 f12 hb
      have H2 := Lib.hid (show CuX _ b ([], putM (qa, qb, qc, qd) s) from ((((HX3.out.set 0 (.string (bytes []))).set 9 (.int .i64 qa)).set 10 (.int .i64 qb)).set 11 (.int .i64 qc)).set 12 (.int .i64 qd))
      have H3 := Lib.hid (((((HM3.out.trans (mv_set b 0 _ (.string (bytes [])))).trans (mv_set b 9 _ (.int .i64 qa))).trans (mv_set b 10 _ (.int .i64 qb))).trans (mv_set b 11 _ (.int .i64 qc))).trans (mv_set b 12 _ (.int .i64 qd)))
      clear HX3 HM3 KM
      generalize World.setCell _ ⟨b, 12, none⟩ _ = wz at *
      have H4 := Lib.hid (show CuX wz.drew b ([], putM (qa, qb, qc, qd) s) from H2.out)
      have H5 := Lib.hid (H3.out.trans (Mv.of (w_refl wz).drew))
      clear H2 H3
      go_wp2_with fail
      go_ret
      exact ⟨H5.out, fun y hy => (by rw [fin.out] at hy; cases hy), fun _ => rfl⟩
end Go.Proofs.YtdmedealdhadcaaGreatDoor
