/- The readers of the kinds. The readers of tied signs and of texts that stand alone; the array of the manners. What the methods of a writer write: the texts of the kinds. -/
import Derived.Test.YtdmedealdhadcaaGreatDoorG10
import Derived.Laws.EntriesVeiled
import Derived.Test.YtdmedealdhadcaaGreatDoorG06

namespace Go.Proofs.YtdmedealdhadcaaGreatDoor
open Go.RowKit
def Rd (f : FuncId) (k : Nat) : Prop := ∀ (W : World) (b : Nat) (l : List UInt8), l.length ≤ 1000000 → CuX W b (l, kS k) → Calls Tryz.prog f #[.pointer (some ⟨b, 0, none⟩)] W (PcPost (rdC k (l, kS k)) b W)
theorem ch_note (x : Cu) : chF [rdVal, rdPlc, rdAcc, rdCol] x = rdC 1 x := by
  show (rdVal x).bind (fun y => (rdPlc y).bind fun z => (rdAcc z).bind fun u => (rdCol u).bind fun v => some v) = (((rdVal x).bind rdPlc).bind rdAcc).bind rdCol
  simp [Option.bind_assoc]
theorem ch_tied (x : Cu) : (rdTk 116 x).bind (chF [rdPlc, rdAcc, rdCol, rdStem, rdObl, rdLast]) = rdC 4 x := by
  show (rdTk 116 x).bind (fun y => (rdPlc y).bind fun z => (rdAcc z).bind fun u => (rdCol u).bind fun v => (rdStem v).bind fun p => (rdObl p).bind fun q => (rdLast q).bind fun r => some r) = ((((((rdTk 116 x).bind rdPlc).bind rdAcc).bind rdCol).bind rdStem).bind rdObl).bind rdLast
  simp [Option.bind_assoc]
theorem ch_mens (x : Cu) : chF [rdMens, rdStk] x = rdC 5 x := by
  show (rdMens x).bind (fun y => (rdStk y).bind fun v => some v) = (rdMens x).bind rdStk
  simp
theorem pc_post {f : FuncId} {F : Cu → Option Cu} (h : Pc f F) (W : World) (b : Nat) (x : Cu) (hl : x.1.length ≤ 1000000) (hX : CuX W b x) : Calls Tryz.prog f #[.pointer (some ⟨b, 0, none⟩)] W (PcPost (F x) b W) := h W b x hl hX
theorem num_post (j : Nat) (hj : j < 18) (G : Int → Sg → Sg) (hG : ∀ r s n, (cuA r s).setIfInBounds j (.int .i64 n) = cuA r (G n s)) (b : Nat) (x : Cu) (W : World) (hl : x.1.length ≤ 1000000) (h : CuX W b x) :
    Calls Tryz.prog 136 #[.pointer (some ⟨b, 0, none⟩), .pointer (some ⟨b, j, none⟩)] W (PcPost ((numberV (x.1.takeWhile dig)).map fun n => (x.1.dropWhile dig, G n x.2)) b W) := by
  refine (pnum_any b j hj x W hl h).mono fun e w' ⟨h1, h2, h3⟩ => ?_
  cases hv : numberV (x.1.takeWhile dig) with
  | none => rw [h3 hv]; exact post_none rfl h1
  | some n =>
    obtain ⟨rfl, hh⟩ := h2 n hv
    rw [hG] at hh
    exact post_some (y := (x.1.dropWhile dig, G n x.2)) rfl h1 hh
theorem n_post (b : Nat) (x : Cu) (W : World) (hl : x.1.length ≤ 1000000) (h : CuX W b x) : Calls Tryz.prog 136 #[.pointer (some ⟨b, 0, none⟩), .pointer (some ⟨b, 14, none⟩)] W (PcPost (rdN x) b W) :=
  num_post 14 (by decide) (fun n s => { s with n := n }) (fun _ _ _ => rfl) b x W hl h
theorem d_post (b : Nat) (x : Cu) (W : World) (hl : x.1.length ≤ 1000000) (h : CuX W b x) : Calls Tryz.prog 136 #[.pointer (some ⟨b, 0, none⟩), .pointer (some ⟨b, 15, none⟩)] W (PcPost (rdD x) b W) :=
  num_post 15 (by decide) (fun n s => { s with d := n }) (fun _ _ _ => rfl) b x W hl h
theorem l_post (b : Nat) (x : Cu) (W : World) (hl : x.1.length ≤ 1000000) (h : CuX W b x) : Calls Tryz.prog 136 #[.pointer (some ⟨b, 0, none⟩), .pointer (some ⟨b, 17, none⟩)] W (PcPost (rdLine x) b W) :=
  num_post 17 (by decide) (fun n s => { s with c1 := n }) (fun _ _ _ => rfl) b x W hl h
theorem tk_post (c : UInt8) (b : Nat) (x : Cu) (W : World) (h : CuX W b x) : Calls Tryz.prog 124 #[.pointer (some ⟨b, 0, none⟩), .string (bytes [c])] W (PcPost (rdTk c x) b W) := by
  cases e : tk c x.1 with
  | none => exact (take_no e b W h).mono fun e' w' ⟨h1, _, h3⟩ => h1 ▸ post_none (by unfold rdTk; rw [e]; rfl) h3
  | some t => exact (take_yes e b W h).mono fun e' w' ⟨h1, h2, h3⟩ => h1 ▸ post_some (y := (t, x.2)) (by unfold rdTk; rw [e]; rfl) h3 h2
theorem le_tk {m : UInt8} {x y : Cu} (h : rdTk m x = some y) : y.1.length ≤ x.1.length := by
  have := congrArg List.length (rdTk_some h).1
  rw [List.length_cons] at this
  omega
theorem le_n {x y : Cu} (h : rdN x = some y) : y.1.length ≤ x.1.length := by
  obtain ⟨n, ds, _, e, _⟩ := rdN_some h
  have := congrArg List.length e
  rw [List.length_append] at this
  omega
theorem le_step {x y : Cu} (h : rdStep x = some y) : y.1.length ≤ x.1.length := by
  obtain ⟨v, e, _⟩ := rdStep_some h
  have := congrArg List.length e
  rw [List.length_append] at this
  omega
theorem lit_pre : ∀ (m : List UInt8) (l : List UInt8) (s : Sg), rdLit m (l, s) = if Lib.hasPrefix l m = true then some (Lib.trimPrefix l m, s) else none
  | [], l, s => by
    unfold Lib.trimPrefix Lib.hasPrefix
    simp [rdLit]
  | c :: ms, [], s => rfl
  | c :: ms, d :: t, s => by
    show (rdTk c (d :: t, s)).bind (rdLit ms) = _
    unfold rdTk
    by_cases e : d = c
    · subst e
      rw [tk_cons]
      show rdLit ms (t, s) = _
      rw [lit_pre ms t s]
      unfold Lib.trimPrefix Lib.hasPrefix
      by_cases hp : ms <+: t <;> simp [hp]
    · rw [tk_no e]
      unfold Lib.trimPrefix Lib.hasPrefix
      have : (c == d) = false := by rw [beq_eq_false_iff_ne]; exact fun x => e x.symm
      simp [List.isPrefixOf, this]
set_option maxRecDepth 100000 in
set_option maxHeartbeats 4000000 in
theorem knote_any : Rd 65 1 := by
  intro W b l hl h
  have hlt := Lib.hid h.lt
  have EA := Lib.hid (fun V (hV : CuX V b (l, kS 1)) (hg : HoldsB V W.heap.size 28 #[fnP 120 b, fnP 121 b, fnP 122 b, fnP 123 b]) => each_note b W.heap.size (l, kS 1) V hl rfl hV hg (Ne.symm (Nat.ne_of_lt hlt.out)))
  rw [ch_note] at EA
  have HX := Lib.hid h
  generalize rdC 1 (l, kS 1) = R at *
  clear h hl
  go_enter Tryz.func65, Tryz.ntmps65
  go_wp2_with fail
  have hg := Lib.hid (HoldsB.new W 28 #[fnP 120 b, fnP 121 b, fnP 122 b, fnP 123 b])
  have T := Lib.hid (EA.out _ (HX.out.later (w_alloc (w_refl W) _)) hg.out)
  have HM0 := Lib.hid (Mv.of (b := b) (w_alloc (w_refl W) (.cells #[fnP 120 b, fnP 121 b, fnP 122 b, fnP 123 b] 28)))
  clear EA hg HX
  cases hR : R with
  | none =>
    rw [hR] at T
    refine T.out.mono ?_
    rintro e w1 ⟨hm, _, hn⟩
    obtain rfl := hn rfl
    have HM := Lib.hid (HM0.out.trans hm)
    clear hm hn T HM0
    go_wp2_with fail
    go_ret
    exact post_none hR HM.out
  | some y =>
    rw [hR] at T
    refine T.out.mono ?_
    rintro e w1 ⟨hm, hs, _⟩
    obtain ⟨rfl, hc⟩ := hs y rfl
    have HM := Lib.hid (HM0.out.trans hm)
    have HX := Lib.hid hc
    clear hm hs hc T HM0
    go_wp2_with fail
    go_ret
    exact post_some hR HM.out HX.out
set_option maxRecDepth 100000 in
set_option maxHeartbeats 4000000 in
theorem kmns_any : Rd 72 5 := by
  intro W b l hl h
  have hlt := Lib.hid h.lt
  have EA := Lib.hid (fun V (hV : CuX V b (l, kS 5)) (hg : HoldsB V W.heap.size 28 #[fnP 133 b, fnP 134 b]) => each_mens b W.heap.size (l, kS 5) V hl hV hg (Ne.symm (Nat.ne_of_lt hlt.out)))
  rw [ch_mens] at EA
  have HX := Lib.hid h
  generalize rdC 5 (l, kS 5) = R at *
  clear h hl
  go_enter Tryz.func72, Tryz.ntmps72
  go_wp2_with fail
  have hg := Lib.hid (HoldsB.new W 28 #[fnP 133 b, fnP 134 b])
  have T := Lib.hid (EA.out _ (HX.out.later (w_alloc (w_refl W) _)) hg.out)
  have HM0 := Lib.hid (Mv.of (b := b) (w_alloc (w_refl W) (.cells #[fnP 133 b, fnP 134 b] 28)))
  clear EA hg HX
  cases hR : R with
  | none =>
    rw [hR] at T
    refine T.out.mono ?_
    rintro e w1 ⟨hm, _, hn⟩
    obtain rfl := hn rfl
    have HM := Lib.hid (HM0.out.trans hm)
    clear hm hn T HM0
    go_wp2_with fail
    go_ret
    exact post_none hR HM.out
  | some y =>
    rw [hR] at T
    refine T.out.mono ?_
    rintro e w1 ⟨hm, hs, _⟩
    obtain ⟨rfl, hc⟩ := hs y rfl
    have HM := Lib.hid (HM0.out.trans hm)
    have HX := Lib.hid hc
    clear hm hs hc T HM0
    go_wp2_with fail
    go_ret
    exact post_some hR HM.out HX.out
set_option maxRecDepth 100000 in
set_option maxHeartbeats 4000000 in
theorem krest_any : Rd 67 2 := by
  intro W b l hl h
  have HX := Lib.hid h
  have HM := Lib.hid (Mv.refl b W)
  obtain ⟨x, hx⟩ : ∃ x, (l, kS 2) = x := ⟨_, rfl⟩
  have hl0 : x.1.length ≤ 1000000 := by rw [← hx]; exact hl
  rw [hx] at HX ⊢
  clear hx hl h
  have P0 := Lib.hid (fun V (x : Cu) (hl : x.1.length ≤ 1000000) (hX : CuX V b x) => tk_post 114 b x V hX)
  have P1 := Lib.hid (fun V (x : Cu) (hl : x.1.length ≤ 1000000) (hX : CuX V b x) => pc_post cval_any V b x hl hX)
  have hR := Lib.hid (show rdC 2 x = (rdTk 114 x).bind (rdVal) from rfl)
  generalize rdC 2 x = R at *
  go_enter Tryz.func67, Tryz.ntmps67
  go_wp2_with fail
  have T := Lib.hid (P0.out _ x hl0 HX.out)
  cases h0 : rdTk 114 x with
  | none =>
    rw [h0] at T hR
    refine T.out.mono ?_
    rintro e w1 ⟨hm, _, hn⟩
    obtain rfl := hn rfl
    have HM2 := Lib.hid (HM.out.trans hm)
    clear hm hn T HM HX
    go_wp2_with fail
    go_ret
    exact post_none hR.out HM2.out
  | some y0 =>
    have hl1 : y0.1.length ≤ 1000000 := Nat.le_trans (le_tk h0) hl0
    rw [h0] at T
    replace hR := Lib.hid (show R = rdVal y0 by rw [hR.out, h0]; rfl)
    refine T.out.mono ?_
    rintro e w1 ⟨hm, hs, _⟩
    obtain ⟨rfl, hc⟩ := hs y0 rfl
    replace HM := Lib.hid (HM.out.trans hm)
    replace HX := Lib.hid hc
    clear hm hs hc T
    go_wp2_with fail
    have T := Lib.hid (P1.out _ y0 hl1 HX.out)
    cases h1 : rdVal y0 with
    | none =>
      rw [h1] at T
      have fin := Lib.hid (hR.out.trans h1)
      refine T.out.mono ?_
      rintro e w1 ⟨hm, _, hn⟩
      obtain rfl := hn rfl
      have HM2 := Lib.hid (HM.out.trans hm)
      clear hm hn T HM HX
      go_wp2_with fail
      go_ret
      exact post_none fin.out HM2.out
    | some y1 =>
      rw [h1] at T
      have fin := Lib.hid (hR.out.trans h1)
      refine T.out.mono ?_
      rintro e w1 ⟨hm, hs, _⟩
      obtain ⟨rfl, hc⟩ := hs y1 rfl
      have HM2 := Lib.hid (HM.out.trans hm)
      have HX2 := Lib.hid hc
      clear hm hs hc T HM HX
      go_wp2_with fail
      go_ret
      exact post_some fin.out HM2.out HX2.out
set_option maxRecDepth 100000 in
set_option maxHeartbeats 4000000 in
theorem kprop_any : Rd 74 6 := by
  intro W b l hl h
  have HX := Lib.hid h
  have HM := Lib.hid (Mv.refl b W)
  obtain ⟨x, hx⟩ : ∃ x, (l, kS 6) = x := ⟨_, rfl⟩
  have hl0 : x.1.length ≤ 1000000 := by rw [← hx]; exact hl
  rw [hx] at HX ⊢
  clear hx hl h
  have P0 := Lib.hid (fun V (x : Cu) (hl : x.1.length ≤ 1000000) (hX : CuX V b x) => n_post b x V hl hX)
  have P1 := Lib.hid (fun V (x : Cu) (hl : x.1.length ≤ 1000000) (hX : CuX V b x) => tk_post 47 b x V hX)
  have P2 := Lib.hid (fun V (x : Cu) (hl : x.1.length ≤ 1000000) (hX : CuX V b x) => d_post b x V hl hX)
  have hR := Lib.hid (show rdC 6 x = ((rdN x).bind (rdTk 47)).bind (rdD) from rfl)
  generalize rdC 6 x = R at *
  go_enter Tryz.func74, Tryz.ntmps74
  go_wp2_with fail
  have T := Lib.hid (P0.out _ x hl0 HX.out)
  cases h0 : rdN x with
  | none =>
    rw [h0] at T hR
    refine T.out.mono ?_
    rintro e w1 ⟨hm, _, hn⟩
    obtain rfl := hn rfl
    have HM2 := Lib.hid (HM.out.trans hm)
    clear hm hn T HM HX
    go_wp2_with fail
    go_ret
    exact post_none hR.out HM2.out
  | some y0 =>
    have hl1 : y0.1.length ≤ 1000000 := Nat.le_trans (le_n h0) hl0
    rw [h0] at T
    replace hR := Lib.hid (show R = (rdTk 47 y0).bind (rdD) by rw [hR.out, h0]; rfl)
    refine T.out.mono ?_
    rintro e w1 ⟨hm, hs, _⟩
    obtain ⟨rfl, hc⟩ := hs y0 rfl
    replace HM := Lib.hid (HM.out.trans hm)
    replace HX := Lib.hid hc
    clear hm hs hc T
    go_wp2_with fail
    have T := Lib.hid (P1.out _ y0 hl1 HX.out)
    cases h1 : rdTk 47 y0 with
    | none =>
      rw [h1] at T hR
      refine T.out.mono ?_
      rintro e w1 ⟨hm, _, hn⟩
      obtain rfl := hn rfl
      have HM2 := Lib.hid (HM.out.trans hm)
      clear hm hn T HM HX
      go_wp2_with fail
      go_ret
      exact post_none hR.out HM2.out
    | some y1 =>
      have hl2 : y1.1.length ≤ 1000000 := Nat.le_trans (le_tk h1) hl1
      rw [h1] at T
      replace hR := Lib.hid (show R = rdD y1 by rw [hR.out, h1]; rfl)
      refine T.out.mono ?_
      rintro e w1 ⟨hm, hs, _⟩
      obtain ⟨rfl, hc⟩ := hs y1 rfl
      replace HM := Lib.hid (HM.out.trans hm)
      replace HX := Lib.hid hc
      clear hm hs hc T
      go_wp2_with fail
      have T := Lib.hid (P2.out _ y1 hl2 HX.out)
      cases h2 : rdD y1 with
      | none =>
        rw [h2] at T
        have fin := Lib.hid (hR.out.trans h2)
        refine T.out.mono ?_
        rintro e w1 ⟨hm, _, hn⟩
        obtain rfl := hn rfl
        have HM2 := Lib.hid (HM.out.trans hm)
        clear hm hn T HM HX
        go_wp2_with fail
        go_ret
        exact post_none fin.out HM2.out
      | some y2 =>
        rw [h2] at T
        have fin := Lib.hid (hR.out.trans h2)
        refine T.out.mono ?_
        rintro e w1 ⟨hm, hs, _⟩
        obtain ⟨rfl, hc⟩ := hs y2 rfl
        have HM2 := Lib.hid (HM.out.trans hm)
        have HX2 := Lib.hid hc
        clear hm hs hc T HM HX
        go_wp2_with fail
        go_ret
        exact post_some fin.out HM2.out HX2.out
set_option maxRecDepth 100000 in
set_option maxHeartbeats 4000000 in
theorem kclef_any : Rd 76 7 := by
  intro W b l hl h
  have HX := Lib.hid h
  have HM := Lib.hid (Mv.refl b W)
  obtain ⟨x, hx⟩ : ∃ x, (l, kS 7) = x := ⟨_, rfl⟩
  have hl0 : x.1.length ≤ 1000000 := by rw [← hx]; exact hl
  rw [hx] at HX ⊢
  clear hx hl h
  have P0 := Lib.hid (fun V (x : Cu) (hl : x.1.length ≤ 1000000) (hX : CuX V b x) => tk_post 64 b x V hX)
  have P1 := Lib.hid (fun V (x : Cu) (hl : x.1.length ≤ 1000000) (hX : CuX V b x) => pc_post pstep_any V b x hl hX)
  have P2 := Lib.hid (fun V (x : Cu) (hl : x.1.length ≤ 1000000) (hX : CuX V b x) => l_post b x V hl hX)
  have hR := Lib.hid (show rdC 7 x = ((rdTk 64 x).bind (rdStep)).bind (rdLine) from rfl)
  generalize rdC 7 x = R at *
  go_enter Tryz.func76, Tryz.ntmps76
  go_wp2_with fail
  have T := Lib.hid (P0.out _ x hl0 HX.out)
  cases h0 : rdTk 64 x with
  | none =>
    rw [h0] at T hR
    refine T.out.mono ?_
    rintro e w1 ⟨hm, _, hn⟩
    obtain rfl := hn rfl
    have HM2 := Lib.hid (HM.out.trans hm)
    clear hm hn T HM HX
    go_wp2_with fail
    go_ret
    exact post_none hR.out HM2.out
  | some y0 =>
    have hl1 : y0.1.length ≤ 1000000 := Nat.le_trans (le_tk h0) hl0
    rw [h0] at T
    replace hR := Lib.hid (show R = (rdStep y0).bind (rdLine) by rw [hR.out, h0]; rfl)
    refine T.out.mono ?_
    rintro e w1 ⟨hm, hs, _⟩
    obtain ⟨rfl, hc⟩ := hs y0 rfl
    replace HM := Lib.hid (HM.out.trans hm)
    replace HX := Lib.hid hc
    clear hm hs hc T
    go_wp2_with fail
    have T := Lib.hid (P1.out _ y0 hl1 HX.out)
    cases h1 : rdStep y0 with
    | none =>
      rw [h1] at T hR
      refine T.out.mono ?_
      rintro e w1 ⟨hm, _, hn⟩
      obtain rfl := hn rfl
      have HM2 := Lib.hid (HM.out.trans hm)
      clear hm hn T HM HX
      go_wp2_with fail
      go_ret
      exact post_none hR.out HM2.out
    | some y1 =>
      have hl2 : y1.1.length ≤ 1000000 := Nat.le_trans (le_step h1) hl1
      rw [h1] at T
      replace hR := Lib.hid (show R = rdLine y1 by rw [hR.out, h1]; rfl)
      refine T.out.mono ?_
      rintro e w1 ⟨hm, hs, _⟩
      obtain ⟨rfl, hc⟩ := hs y1 rfl
      replace HM := Lib.hid (HM.out.trans hm)
      replace HX := Lib.hid hc
      clear hm hs hc T
      go_wp2_with fail
      have T := Lib.hid (P2.out _ y1 hl2 HX.out)
      cases h2 : rdLine y1 with
      | none =>
        rw [h2] at T
        have fin := Lib.hid (hR.out.trans h2)
        refine T.out.mono ?_
        rintro e w1 ⟨hm, _, hn⟩
        obtain rfl := hn rfl
        have HM2 := Lib.hid (HM.out.trans hm)
        clear hm hn T HM HX
        go_wp2_with fail
        go_ret
        exact post_none fin.out HM2.out
      | some y2 =>
        rw [h2] at T
        have fin := Lib.hid (hR.out.trans h2)
        refine T.out.mono ?_
        rintro e w1 ⟨hm, hs, _⟩
        obtain ⟨rfl, hc⟩ := hs y2 rfl
        have HM2 := Lib.hid (HM.out.trans hm)
        have HX2 := Lib.hid hc
        clear hm hs hc T HM HX
        go_wp2_with fail
        go_ret
        exact post_some fin.out HM2.out HX2.out
set_option maxRecDepth 100000 in
set_option maxHeartbeats 4000000 in
theorem kkey_any : Rd 78 8 := by
  intro W b l hl h
  have HX := Lib.hid h
  have HM := Lib.hid (Mv.refl b W)
  obtain ⟨x, hx⟩ : ∃ x, (l, kS 8) = x := ⟨_, rfl⟩
  have hl0 : x.1.length ≤ 1000000 := by rw [← hx]; exact hl
  rw [hx] at HX ⊢
  clear hx hl h
  have P0 := Lib.hid (fun V (x : Cu) (hl : x.1.length ≤ 1000000) (hX : CuX V b x) => tk_post 38 b x V hX)
  have P1 := Lib.hid (fun V (x : Cu) (hl : x.1.length ≤ 1000000) (hX : CuX V b x) => n_post b x V hl hX)
  have hR := Lib.hid (show rdC 8 x = (rdTk 38 x).bind (rdN) from rfl)
  generalize rdC 8 x = R at *
  go_enter Tryz.func78, Tryz.ntmps78
  go_wp2_with fail
  have T := Lib.hid (P0.out _ x hl0 HX.out)
  cases h0 : rdTk 38 x with
  | none =>
    rw [h0] at T hR
    refine T.out.mono ?_
    rintro e w1 ⟨hm, _, hn⟩
    obtain rfl := hn rfl
    have HM2 := Lib.hid (HM.out.trans hm)
    clear hm hn T HM HX
    go_wp2_with fail
    go_ret
    exact post_none hR.out HM2.out
  | some y0 =>
    have hl1 : y0.1.length ≤ 1000000 := Nat.le_trans (le_tk h0) hl0
    rw [h0] at T
    replace hR := Lib.hid (show R = rdN y0 by rw [hR.out, h0]; rfl)
    refine T.out.mono ?_
    rintro e w1 ⟨hm, hs, _⟩
    obtain ⟨rfl, hc⟩ := hs y0 rfl
    replace HM := Lib.hid (HM.out.trans hm)
    replace HX := Lib.hid hc
    clear hm hs hc T
    go_wp2_with fail
    have T := Lib.hid (P1.out _ y0 hl1 HX.out)
    cases h1 : rdN y0 with
    | none =>
      rw [h1] at T
      have fin := Lib.hid (hR.out.trans h1)
      refine T.out.mono ?_
      rintro e w1 ⟨hm, _, hn⟩
      obtain rfl := hn rfl
      have HM2 := Lib.hid (HM.out.trans hm)
      clear hm hn T HM HX
      go_wp2_with fail
      go_ret
      exact post_none fin.out HM2.out
    | some y1 =>
      rw [h1] at T
      have fin := Lib.hid (hR.out.trans h1)
      refine T.out.mono ?_
      rintro e w1 ⟨hm, hs, _⟩
      obtain ⟨rfl, hc⟩ := hs y1 rfl
      have HM2 := Lib.hid (HM.out.trans hm)
      have HX2 := Lib.hid hc
      clear hm hs hc T HM HX
      go_wp2_with fail
      go_ret
      exact post_some fin.out HM2.out HX2.out
set_option maxRecDepth 100000 in
set_option maxHeartbeats 4000000 in
theorem kclose_any : Rd 80 10 := by
  intro W b l hl h
  have HX := Lib.hid h
  have HM := Lib.hid (Mv.refl b W)
  obtain ⟨x, hx⟩ : ∃ x, (l, kS 10) = x := ⟨_, rfl⟩
  have hl0 : x.1.length ≤ 1000000 := by rw [← hx]; exact hl
  rw [hx] at HX ⊢
  clear hx hl h
  have P0 := Lib.hid (fun V (x : Cu) (hl : x.1.length ≤ 1000000) (hX : CuX V b x) => tk_post 93 b x V hX)
  have P1 := Lib.hid (fun V (x : Cu) (hl : x.1.length ≤ 1000000) (hX : CuX V b x) => n_post b x V hl hX)
  have hR := Lib.hid (show rdC 10 x = (rdTk 93 x).bind (rdN) from rfl)
  generalize rdC 10 x = R at *
  go_enter Tryz.func80, Tryz.ntmps80
  go_wp2_with fail
  have T := Lib.hid (P0.out _ x hl0 HX.out)
  cases h0 : rdTk 93 x with
  | none =>
    rw [h0] at T hR
    refine T.out.mono ?_
    rintro e w1 ⟨hm, _, hn⟩
    obtain rfl := hn rfl
    have HM2 := Lib.hid (HM.out.trans hm)
    clear hm hn T HM HX
    go_wp2_with fail
    go_ret
    exact post_none hR.out HM2.out
  | some y0 =>
    have hl1 : y0.1.length ≤ 1000000 := Nat.le_trans (le_tk h0) hl0
    rw [h0] at T
    replace hR := Lib.hid (show R = rdN y0 by rw [hR.out, h0]; rfl)
    refine T.out.mono ?_
    rintro e w1 ⟨hm, hs, _⟩
    obtain ⟨rfl, hc⟩ := hs y0 rfl
    replace HM := Lib.hid (HM.out.trans hm)
    replace HX := Lib.hid hc
    clear hm hs hc T
    go_wp2_with fail
    have T := Lib.hid (P1.out _ y0 hl1 HX.out)
    cases h1 : rdN y0 with
    | none =>
      rw [h1] at T
      have fin := Lib.hid (hR.out.trans h1)
      refine T.out.mono ?_
      rintro e w1 ⟨hm, _, hn⟩
      obtain rfl := hn rfl
      have HM2 := Lib.hid (HM.out.trans hm)
      clear hm hn T HM HX
      go_wp2_with fail
      go_ret
      exact post_none fin.out HM2.out
    | some y1 =>
      rw [h1] at T
      have fin := Lib.hid (hR.out.trans h1)
      refine T.out.mono ?_
      rintro e w1 ⟨hm, hs, _⟩
      obtain ⟨rfl, hc⟩ := hs y1 rfl
      have HM2 := Lib.hid (HM.out.trans hm)
      have HX2 := Lib.hid hc
      clear hm hs hc T HM HX
      go_wp2_with fail
      go_ret
      exact post_some fin.out HM2.out HX2.out
end Go.Proofs.YtdmedealdhadcaaGreatDoor

namespace Go.Proofs.YtdmedealdhadcaaGreatDoor
open Go.RowKit
set_option maxRecDepth 100000 in
set_option maxHeartbeats 4000000 in
theorem ktied_any : Rd 70 4 := by
  intro W b l hl h
  have hlt := Lib.hid h.lt
  have T := Lib.hid (tk_post 116 b (l, kS 4) W h)
  have hR := Lib.hid (ch_tied (l, kS 4))
  have hle := Lib.hid (fun y (e : rdTk 116 (l, kS 4) = some y) => (⟨Nat.le_trans (le_tk e) hl, by rw [(rdTk_some e).2]; rfl⟩ : y.1.length ≤ 1000000 ∧ y.2.acc = 0))
  generalize rdC 4 (l, kS 4) = R at *
  clear h hl
  cases h1 : rdTk 116 (l, kS 4) with
  | none =>
    rw [h1] at T hR
    have fin := Lib.hid (show R = none from hR.out.symm)
    go_enter Tryz.func70, Tryz.ntmps70
    go_wp2_with fail
    refine T.out.mono ?_
    rintro e w1 ⟨hm, _, hn⟩
    obtain rfl := hn rfl
    have HM := Lib.hid hm
    clear hm hn T
    go_wp2_with fail
    go_ret
    exact post_none fin.out HM.out
  | some y =>
    rw [h1] at T hR
    obtain ⟨hl2, ha⟩ := hle.out y h1
    have hR2 := Lib.hid (show chF [rdPlc, rdAcc, rdCol, rdStem, rdObl, rdLast] y = R from hR.out)
    have HL := Lib.hid hl2
    have HA := Lib.hid ha
    clear hl2 ha h1 hle hR
    go_enter Tryz.func70, Tryz.ntmps70
    go_wp2_with fail
    refine T.out.mono ?_
    rintro e w1 ⟨hm, hs, _⟩
    obtain ⟨rfl, hc⟩ := hs y rfl
    have HM := Lib.hid hm
    have HX := Lib.hid hc
    have hlt1 := Lib.hid hc.lt
    clear hm hs hc T
    go_wp2_with fail
    have hg := HoldsB.new w1 28 #[fnP 121 b, fnP 122 b, fnP 123 b, fnP 129 b, fnP 130 b, fnP 131 b]
    have E := Lib.hid (each_tied b w1.heap.size y _ HL.out HA.out (HX.out.later (w_alloc (w_refl w1) _)) hg (Ne.symm (Nat.ne_of_lt hlt1.out)))
    have HM0 := Lib.hid (HM.out.trans (Mv.of (b := b) (w_alloc (w_refl w1) (.cells #[fnP 121 b, fnP 122 b, fnP 123 b, fnP 129 b, fnP 130 b, fnP 131 b] 28))))
    rw [hR2.out] at E
    clear hg HX HM
    cases hR : R with
    | none =>
      rw [hR] at E
      refine E.out.mono ?_
      rintro e w2 ⟨hm, _, hn⟩
      obtain rfl := hn rfl
      have HM := Lib.hid (HM0.out.trans hm)
      clear hm hn E HM0
      go_wp2_with fail
      go_ret
      exact post_none hR HM.out
    | some z =>
      rw [hR] at E
      refine E.out.mono ?_
      rintro e w2 ⟨hm, hs, _⟩
      obtain ⟨rfl, hc⟩ := hs z rfl
      have HM := Lib.hid (HM0.out.trans hm)
      have HX := Lib.hid hc
      clear hm hs hc E HM0
      go_wp2_with fail
      go_ret
      exact post_some hR HM.out HX.out
/-- A text that stands alone, in block g. -/
def Txt (W : World) (g : Nat) (m : List UInt8) : Prop := HoldsB W g 9 #[.string (bytes m)]
set_option maxRecDepth 100000 in
set_option maxHeartbeats 4000000 in
theorem kalone_any (m : List UInt8) (g b : Nat) (l : List UInt8) (s : Sg) (W : World) (hg : Txt W g m) (h : CuX W b (l, s)) : Calls Tryz.prog 126 #[.pointer (some ⟨b, 0, none⟩), .pointer (some ⟨g, 0, none⟩)] W (PcPost (rdLit m (l, s)) b W) := by
  have T := Lib.hid (take_raw (bytes m) b (l, s) W h)
  rw [bytes_data] at T
  have hp := lit_pre m l s
  have cg : W.cell? ⟨g, 0, none⟩ = some (.string (bytes m)) := HoldsB.cell hg rfl
  change Hid (Calls _ _ _ _ fun e W' => e = .returned (.bool (Lib.hasPrefix l m)) ∧ CuX W' b (Lib.trimPrefix l m, s) ∧ Mv b W W') at T
  clear h hg
  generalize rdLit m (l, s) = R at *
  generalize Lib.trimPrefix l m = r at *
  cases hb : Lib.hasPrefix l m with
  | true =>
    rw [hb, if_pos rfl] at hp
    have fin := Lib.hid hp
    rw [hb] at T
    clear hp hb
    go_enter Tryz.func126, Tryz.ntmps126
    go_wp2_with fail
    refine T.out.mono ?_
    rintro e w1 ⟨rfl, hc, hm⟩
    have HM := Lib.hid hm
    have HX := Lib.hid hc
    clear hm hc T
    go_wp2_with fail
    go_ret
    exact post_some fin.out HM.out HX.out
  | false =>
    rw [hb, if_neg (by decide)] at hp
    have fin := Lib.hid hp
    rw [hb] at T
    clear hp hb
    go_enter Tryz.func126, Tryz.ntmps126
    go_wp2_with fail
    refine T.out.mono ?_
    rintro e w1 ⟨rfl, hc, hm⟩
    have HM := Lib.hid hm
    clear hm hc T
    go_wp2_with fail
    go_ret
    exact post_none fin.out HM.out
/-! ### The manners -/
def fn0 (f : FuncId) : Value := .func (.func f) #[] #[]
def fnC (f : FuncId) (g : Nat) : Value := .func (.func f) #[] #[.pointer (some ⟨g, 0, none⟩)]
set_option maxRecDepth 100000 in
set_option maxHeartbeats 4000000 in
theorem alone_any (m : List UInt8) (w : World) : Calls Tryz.prog 68 #[.string (bytes m)] w fun e w' => e = .returned (.agg #[fnC 125 w.heap.size, fnC 126 w.heap.size]) ∧ Txt w' w.heap.size m ∧ Below w.heap.size w w' := by
  have H0 := Lib.hid (HoldsB.new w 9 #[.string (bytes m)])
  have B0 := Lib.hid (w_alloc (w_refl w) (.cells #[.string (bytes m)] 9))
  go_enter Tryz.func68, Tryz.ntmps68
  go_wp2_with fail
  refine bodyPost_ret (v := .agg #[fnC 125 w.heap.size, fnC 126 w.heap.size]) (by simp [results, Tryz.results68, go_sem, fnC]) rfl ⟨rfl, ?_, ?_⟩
  · exact H0.out.al _
  · exact w_alloc B0.out _
theorem res_row {fn : Func} {t : Tmp} {ty : TypeId} (h : fn.results = #[.cell t ty]) {tmps : Array Value} {w : World} {b o : Nat} {v : Value} (ht : tmps.getD t undef = .pointer (some ⟨b, o, none⟩)) (e : (loadVar ty ⟨b, o, none⟩).run Tryz.prog w = .ok v w) :
    (results fn tmps).run Tryz.prog w = .ok v w := by
  simp only [Array.getD_eq_getD_getElem?] at ht
  have e2 : (asAddr (Value.pointer (some { block := b, off := o }))).run Tryz.prog w = .ok ⟨b, o, none⟩ w := by simp [asAddr]
  simp [results, h, ht, Sem.run_bind, e2, e]
/-- The manners of the kinds, number for number. -/
def mannA (g3 g9 g11 g12 : Nat) : Array Value := #[.nilFunc, .nilFunc,
  fn0 64, fn0 65, fn0 66, fn0 67, fnC 125 g3, fnC 126 g3,
  fn0 69, fn0 70, fn0 71, fn0 72, fn0 73, fn0 74,
  fn0 75, fn0 76, fn0 77, fn0 78, fnC 125 g9, fnC 126 g9,
  fn0 79, fn0 80, fnC 125 g11, fnC 126 g11, fnC 125 g12, fnC 126 g12]
structure Mann (W : World) (B g3 g9 g11 g12 : Nat) : Prop where
  t3 : Txt W g3 [46]
  t9 : Txt W g9 [91]
  t11 : Txt W g11 turnL
  t12 : Txt W g12 sigL
  b3 : B ≤ g3
  b9 : B ≤ g9
  b11 : B ≤ g11
  b12 : B ≤ g12
theorem Mann.later {W V : World} {B g3 g9 g11 g12 : Nat} (h : Mann W B g3 g9 g11 g12) (k : Below W.heap.size W V) : Mann V B g3 g9 g11 g12 := ⟨HoldsB.later h.t3 k, HoldsB.later h.t9 k, HoldsB.later h.t11 k, HoldsB.later h.t12 k, h.b3, h.b9, h.b11, h.b12⟩
set_option maxRecDepth 100000 in
set_option maxHeartbeats 8000000 in
theorem manners_any (w : World) : Calls Tryz.prog 35 #[] w fun e w' => ∃ g3 g9 g11 g12, e = .returned (.agg (mannA g3 g9 g11 g12)) ∧ Mann w' w.heap.size g3 g9 g11 g12 ∧ Below w.heap.size w w' := by
  have A3 := Lib.hid (fun V => alone_any [46] V)
  have A9 := Lib.hid (fun V => alone_any [91] V)
  have A11 := Lib.hid (fun V => alone_any turnL V)
  have A12 := Lib.hid (fun V => alone_any sigL V)
  have B0 := Lib.hid (w_alloc (w_refl w) (.cells #[.nilFunc, .nilFunc, .nilFunc, .nilFunc, .nilFunc, .nilFunc, .nilFunc, .nilFunc, .nilFunc, .nilFunc, .nilFunc, .nilFunc, .nilFunc, .nilFunc, .nilFunc, .nilFunc, .nilFunc, .nilFunc, .nilFunc, .nilFunc, .nilFunc, .nilFunc, .nilFunc, .nilFunc, .nilFunc, .nilFunc] 79))
  have Z0 := Lib.hid (HoldsB.new w 79 #[.nilFunc, .nilFunc, .nilFunc, .nilFunc, .nilFunc, .nilFunc, .nilFunc, .nilFunc, .nilFunc, .nilFunc, .nilFunc, .nilFunc, .nilFunc, .nilFunc, .nilFunc, .nilFunc, .nilFunc, .nilFunc, .nilFunc, .nilFunc, .nilFunc, .nilFunc, .nilFunc, .nilFunc, .nilFunc, .nilFunc])
  unfold fnC at A3 A9 A11 A12
  go_enter Tryz.func35, Tryz.ntmps35
  go_wp2_with fail
  refine (A3.out _).mono ?_
  rintro e w1 ⟨rfl, t3, hb⟩
  have B1 := Lib.hid (w_below B0.out hb)
  have Z1 := Lib.hid (Z0.out.later hb)
  have X3 := Lib.hid t3
  rw [World.size_alloc] at X3
  have e0 := Lib.hid (show w.heap.size + 1 ≤ w1.heap.size by have := hb.size; rw [World.size_alloc] at this; exact this)
  clear hb t3 A3 B0 Z0
  go_wp2_with fail
  refine (A9.out _).mono ?_
  rintro e w2 ⟨rfl, t9, hb⟩
  have e9 := e0
  replace e0 := Lib.hid (Nat.le_trans e0.out hb.size)
  replace B1 := Lib.hid (w_below B1.out hb)
  replace Z1 := Lib.hid (Z1.out.later hb)
  replace X3 := Lib.hid (HoldsB.later X3.out hb)
  have X9 := Lib.hid t9
  clear hb t9 A9
  go_wp2_with fail
  refine (A11.out _).mono ?_
  rintro e w3 ⟨rfl, t11, hb⟩
  have e11 := e0
  replace e0 := Lib.hid (Nat.le_trans e0.out hb.size)
  replace B1 := Lib.hid (w_below B1.out hb)
  replace Z1 := Lib.hid (Z1.out.later hb)
  replace X3 := Lib.hid (HoldsB.later X3.out hb)
  replace X9 := Lib.hid (HoldsB.later X9.out hb)
  have X11 := Lib.hid t11
  clear hb t11 A11
  go_wp2_with fail
  refine (A12.out _).mono ?_
  rintro e w4 ⟨rfl, t12, hb⟩
  have e12 := e0
  replace B1 := Lib.hid (w_below B1.out hb)
  replace Z1 := Lib.hid (Z1.out.later hb)
  have M := Lib.hid (show Mann w4 (w.heap.size + 1) _ _ _ _ from ⟨HoldsB.later X3.out hb, HoldsB.later X9.out hb, HoldsB.later X11.out hb, t12, Nat.le_refl _, e9.out, e11.out, e12.out⟩)
  clear hb t12 A12 X3 X9 X11 e0 e9 e11 e12
  go_wp2_with (first | (refine wl_row 79 w.heap.size _ _ (mannA (w.heap.size + 1) w1.heap.size w2.heap.size w3.heap.size) Z1.out (by kernel_rfl) (by kernel_rfl) (by kernel_rfl) rfl (by kernel_rfl) ?_) | fail)
  intro W5 h5 hB5 ho5
  have H5 := Lib.hid h5
  have B5 := Lib.hid (hB5 _ _ B1.out (Nat.le_refl _))
  have M5 := Lib.hid (show Mann W5 w.heap.size _ _ _ _ from ⟨(ho5 _ (by have := M.out.b3; omega)).trans M.out.t3, (ho5 _ (by have := M.out.b9; omega)).trans M.out.t9, (ho5 _ (by have := M.out.b11; omega)).trans M.out.t11, (ho5 _ (by have := M.out.b12; omega)).trans M.out.t12, Nat.le_trans (Nat.le_succ _) M.out.b3, Nat.le_trans (Nat.le_succ _) M.out.b9, Nat.le_trans (Nat.le_succ _) M.out.b11, Nat.le_trans (Nat.le_succ _) M.out.b12⟩)
  clear h5 hB5 ho5 M B1 Z1
  go_wp2_with fail
  have L5 := Lib.hid (run_loadVar_mid (P := Tryz.prog) W5 w.heap.size 0 79 (mannA (w.heap.size + 1) w1.heap.size w2.heap.size w3.heap.size).toList _ (holds_range H5.out) Tryz.underlying79 rfl (by kernel_rfl))
  exact bodyPost_ret (res_row rfl (by kernel_rfl) L5.out) rfl ⟨_, _, _, _, rfl, M5.out, B5.out⟩
end Go.Proofs.YtdmedealdhadcaaGreatDoor

namespace Go.Proofs.YtdmedealdhadcaaGreatDoor
open Go.RowKit
theorem wtl_any (t : List UInt8) (ht : t.length ≤ 1000) (B b : Nat) (l : List UInt8) (s : Sg) (w : World) (hl : l.length ≤ 1000) (h : WrT B b l s w) :
    Calls Tryz.prog 95 #[.pointer (some ⟨b, 0, none⟩), .string (bytes t)] w fun e w' => e = .returned (.tuple #[.int .i64 (bytes t).size, .nilIface]) ∧ WrT B b (l ++ t) s w' ∧ Below B w w' := by
  have := wt_any B b l s (bytes t) w h hl (by rw [bytes_size]; exact ht)
  rwa [bytes_data] at this
set_option maxRecDepth 100000 in
set_option maxHeartbeats 4000000 in
theorem wmark_any (hb : Bool) (m : UInt8) (B b : Nat) (l : List UInt8) (s : Sg) (W : World) (hl : l.length ≤ 900) (h : WrT B b l s W) :
    Calls Tryz.prog 128 #[.pointer (some ⟨b, 0, none⟩), .bool hb, .string (bytes [m])] W fun e W' => e = .returned (.tuple #[]) ∧ WrT B b (l ++ mkL hb m) s W' ∧ Below B W W' := by
  have WS := Lib.hid (wt_any B b l s (bytes [m]) W h (by omega) (by rw [bytes_size]; show 1 ≤ 1000; decide))
  have H0 := Lib.hid h
  clear h
  cases hb with
  | true =>
    go_enter Tryz.func128, Tryz.ntmps128
    go_wp2_with fail
    refine WS.out.mono ?_
    rintro e w1 ⟨rfl, hx, hy⟩
    have HX := Lib.hid hx
    have HY := Lib.hid hy
    clear hx hy WS H0
    go_wp2_with fail
    go_end0
    exact ⟨rfl, HX.out, HY.out⟩
  | false =>
    go_enter Tryz.func128, Tryz.ntmps128
    go_wp2_with fail
    go_end0
    exact ⟨rfl, by show WrT B b (l ++ []) s W; rw [List.append_nil]; exact H0.out, Below.refl B W⟩
def okN (s : Sg) : Prop := 0 ≤ s.n ∧ s.n ≤ 100
def okND (s : Sg) : Prop := (0 ≤ s.n ∧ s.n ≤ 100) ∧ (0 ≤ s.d ∧ s.d ≤ 100)
def TN (c : UInt8) (s : Sg) : List UInt8 := c :: Lib.itoa s.n
set_option maxRecDepth 100000 in
set_option maxHeartbeats 4000000 in
theorem wkey_any : Wm 100 77 (TN 38) okN := by
  intro B b l s W hl hok h
  have p1 : -4 ≤ s.n := by have := hok.1; omega
  have p2 := hok.2
  have p3 := Nat.le_trans (itoa_pl hok.1 hok.2).2.2 (show 3 ≤ 10 by decide)
  have H0 := Lib.hid h
  have L0 := Lib.hid (show l.length ≤ 100 from hl)
  have E0 := Lib.hid (show l = l ++ [] from (List.append_nil l).symm)
  have B0 := Lib.hid (Below.refl B W)
  obtain ⟨l0, hl0⟩ : ∃ l0, l = l0 := ⟨_, rfl⟩
  have TE := Lib.hid (show (TN 38) s = _ from rfl)
  have HL := Lib.hid hl0
  clear h hl
  rw [hl0] at H0 L0
  have E0 := Lib.hid (show l0 = l ++ [] by rw [List.append_nil]; exact hl0.symm)
  clear hl0
  go_enter Tryz.func77, Tryz.ntmps77
  have P := Lib.hid (wtl_any [38] (show 1 ≤ 1000 by decide) B b l0 s _ (Nat.le_trans L0.out (by decide)) H0.out)
  go_wp2_with fail
  refine P.out.mono ?_
  rintro e w1 ⟨rfl, hx, hy⟩
  replace B0 := Lib.hid (B0.out.trans hy)
  replace E0 := Lib.hid (show l0 ++ [38] = l ++ ([] ++ [38]) by rw [E0.out]; simp)
  replace L0 := Lib.hid (show (l0 ++ [38]).length ≤ 110 by rw [List.length_append]; have := L0.out; have : ([38]).length ≤ 10 := (show 1 ≤ 10 by decide); omega)
  replace H0 := Lib.hid hx
  clear hx hy P
  generalize l0 ++ [38] = l1 at *
  have cn := H0.out.cell (j := 15) (u := .int .i64 s.n) (fun _ _ => rfl)
  have P := Lib.hid (wnum_any s.n p1 p2 B b l1 s _ (Nat.le_trans L0.out (by decide)) H0.out (p3))
  go_wp2_with fail
  refine P.out.mono ?_
  rintro e w2 ⟨rfl, hx, hy⟩
  replace B0 := Lib.hid (B0.out.trans hy)
  replace E0 := Lib.hid (show l1 ++ Lib.itoa s.n = l ++ (([] ++ [38]) ++ Lib.itoa s.n) by rw [E0.out]; simp)
  replace L0 := Lib.hid (show (l1 ++ Lib.itoa s.n).length ≤ 120 by rw [List.length_append]; have := L0.out; have : (Lib.itoa s.n).length ≤ 10 := p3; omega)
  replace H0 := Lib.hid hx
  clear hx hy P cn
  generalize l1 ++ Lib.itoa s.n = l2 at *
  go_wp2_with fail
  go_end0
  exact ⟨rfl, by have h := H0.out; rw [E0.out] at h; simpa [TN] using h, B0.out⟩
set_option maxRecDepth 100000 in
set_option maxHeartbeats 4000000 in
theorem wclose_any : Wm 100 79 (TN 93) okN := by
  intro B b l s W hl hok h
  have p1 : -4 ≤ s.n := by have := hok.1; omega
  have p2 := hok.2
  have p3 := Nat.le_trans (itoa_pl hok.1 hok.2).2.2 (show 3 ≤ 10 by decide)
  have H0 := Lib.hid h
  have L0 := Lib.hid (show l.length ≤ 100 from hl)
  have E0 := Lib.hid (show l = l ++ [] from (List.append_nil l).symm)
  have B0 := Lib.hid (Below.refl B W)
  obtain ⟨l0, hl0⟩ : ∃ l0, l = l0 := ⟨_, rfl⟩
  have TE := Lib.hid (show (TN 93) s = _ from rfl)
  have HL := Lib.hid hl0
  clear h hl
  rw [hl0] at H0 L0
  have E0 := Lib.hid (show l0 = l ++ [] by rw [List.append_nil]; exact hl0.symm)
  clear hl0
  go_enter Tryz.func79, Tryz.ntmps79
  have P := Lib.hid (wtl_any [93] (show 1 ≤ 1000 by decide) B b l0 s _ (Nat.le_trans L0.out (by decide)) H0.out)
  go_wp2_with fail
  refine P.out.mono ?_
  rintro e w1 ⟨rfl, hx, hy⟩
  replace B0 := Lib.hid (B0.out.trans hy)
  replace E0 := Lib.hid (show l0 ++ [93] = l ++ ([] ++ [93]) by rw [E0.out]; simp)
  replace L0 := Lib.hid (show (l0 ++ [93]).length ≤ 110 by rw [List.length_append]; have := L0.out; have : ([93]).length ≤ 10 := (show 1 ≤ 10 by decide); omega)
  replace H0 := Lib.hid hx
  clear hx hy P
  generalize l0 ++ [93] = l1 at *
  have cn := H0.out.cell (j := 15) (u := .int .i64 s.n) (fun _ _ => rfl)
  have P := Lib.hid (wnum_any s.n p1 p2 B b l1 s _ (Nat.le_trans L0.out (by decide)) H0.out (p3))
  go_wp2_with fail
  refine P.out.mono ?_
  rintro e w2 ⟨rfl, hx, hy⟩
  replace B0 := Lib.hid (B0.out.trans hy)
  replace E0 := Lib.hid (show l1 ++ Lib.itoa s.n = l ++ (([] ++ [93]) ++ Lib.itoa s.n) by rw [E0.out]; simp)
  replace L0 := Lib.hid (show (l1 ++ Lib.itoa s.n).length ≤ 120 by rw [List.length_append]; have := L0.out; have : (Lib.itoa s.n).length ≤ 10 := p3; omega)
  replace H0 := Lib.hid hx
  clear hx hy P cn
  generalize l1 ++ Lib.itoa s.n = l2 at *
  go_wp2_with fail
  go_end0
  exact ⟨rfl, by have h := H0.out; rw [E0.out] at h; simpa [TN] using h, B0.out⟩
def TP (s : Sg) : List UInt8 := Lib.itoa s.n ++ [47] ++ Lib.itoa s.d
set_option maxRecDepth 100000 in
set_option maxHeartbeats 4000000 in
theorem wprop_any : Wm 100 73 TP okND := by
  intro B b l s W hl hok h
  have p1 : -4 ≤ s.n := by have := hok.1.1; omega
  have p2 := hok.1.2
  have p3 := Nat.le_trans (itoa_pl hok.1.1 hok.1.2).2.2 (show 3 ≤ 10 by decide)
  have q1 : -4 ≤ s.d := by have := hok.2.1; omega
  have q2 := hok.2.2
  have q3 := Nat.le_trans (itoa_pl hok.2.1 hok.2.2).2.2 (show 3 ≤ 10 by decide)
  have H0 := Lib.hid h
  have L0 := Lib.hid (show l.length ≤ 100 from hl)
  have E0 := Lib.hid (show l = l ++ [] from (List.append_nil l).symm)
  have B0 := Lib.hid (Below.refl B W)
  obtain ⟨l0, hl0⟩ : ∃ l0, l = l0 := ⟨_, rfl⟩
  have TE := Lib.hid (show TP s = _ from rfl)
  have HL := Lib.hid hl0
  clear h hl
  rw [hl0] at H0 L0
  have E0 := Lib.hid (show l0 = l ++ [] by rw [List.append_nil]; exact hl0.symm)
  clear hl0
  go_enter Tryz.func73, Tryz.ntmps73
  have cn := H0.out.cell (j := 15) (u := .int .i64 s.n) (fun _ _ => rfl)
  have P := Lib.hid (wnum_any s.n p1 p2 B b l0 s _ (Nat.le_trans L0.out (by decide)) H0.out (p3))
  go_wp2_with fail
  refine P.out.mono ?_
  rintro e w1 ⟨rfl, hx, hy⟩
  replace B0 := Lib.hid (B0.out.trans hy)
  replace E0 := Lib.hid (show l0 ++ Lib.itoa s.n = l ++ ([] ++ Lib.itoa s.n) by rw [E0.out]; simp)
  replace L0 := Lib.hid (show (l0 ++ Lib.itoa s.n).length ≤ 110 by rw [List.length_append]; have := L0.out; have : (Lib.itoa s.n).length ≤ 10 := p3; omega)
  replace H0 := Lib.hid hx
  clear hx hy P cn
  generalize l0 ++ Lib.itoa s.n = l1 at *
  have P := Lib.hid (wtl_any [47] (show 1 ≤ 1000 by decide) B b l1 s _ (Nat.le_trans L0.out (by decide)) H0.out)
  go_wp2_with fail
  refine P.out.mono ?_
  rintro e w2 ⟨rfl, hx, hy⟩
  replace B0 := Lib.hid (B0.out.trans hy)
  replace E0 := Lib.hid (show l1 ++ [47] = l ++ (([] ++ Lib.itoa s.n) ++ [47]) by rw [E0.out]; simp)
  replace L0 := Lib.hid (show (l1 ++ [47]).length ≤ 120 by rw [List.length_append]; have := L0.out; have : ([47]).length ≤ 10 := (show 1 ≤ 10 by decide); omega)
  replace H0 := Lib.hid hx
  clear hx hy P
  generalize l1 ++ [47] = l2 at *
  have cd := H0.out.cell (j := 16) (u := .int .i64 s.d) (fun _ _ => rfl)
  have P := Lib.hid (wnum_any s.d q1 q2 B b l2 s _ (Nat.le_trans L0.out (by decide)) H0.out (q3))
  go_wp2_with fail
  refine P.out.mono ?_
  rintro e w3 ⟨rfl, hx, hy⟩
  replace B0 := Lib.hid (B0.out.trans hy)
  replace E0 := Lib.hid (show l2 ++ Lib.itoa s.d = l ++ ((([] ++ Lib.itoa s.n) ++ [47]) ++ Lib.itoa s.d) by rw [E0.out]; simp)
  replace L0 := Lib.hid (show (l2 ++ Lib.itoa s.d).length ≤ 130 by rw [List.length_append]; have := L0.out; have : (Lib.itoa s.d).length ≤ 10 := q3; omega)
  replace H0 := Lib.hid hx
  clear hx hy P cd
  generalize l2 ++ Lib.itoa s.d = l3 at *
  go_wp2_with fail
  go_end0
  exact ⟨rfl, by have h := H0.out; rw [E0.out] at h; simpa [TP] using h, B0.out⟩
def okVl (s : Sg) : Prop := 1 ≤ s.val ∧ s.val ≤ 8
def TV (s : Sg) : List UInt8 := letV s.val
set_option maxRecDepth 100000 in
set_option maxHeartbeats 4000000 in
theorem wvalue_any : Wm 900 117 TV okVl := by
  intro B b l s W hl hok h
  have c0 := h.cell (j := 3) (u := .int .i64 s.val) (fun _ _ => rfl)
  have LE := Lib.hid (fun V => plet_any s.val V)
  unfold letRes at LE
  have WS := Lib.hid (wtl_any (letV s.val) (Nat.le_trans (let_plain hok).2.2 (by decide)) B b l s W (by omega) h)
  clear h hl
  unfold TV
  go_enter Tryz.func117, Tryz.ntmps117
  go_wp2_with fail
  refine (LE.out _).mono ?_
  rintro e w1 ⟨rfl, rfl⟩
  clear LE
  go_wp2_with fail
  refine WS.out.mono ?_
  rintro e w1 ⟨rfl, hx, hy⟩
  have HX := Lib.hid hx
  have HY := Lib.hid hy
  clear hx hy WS c0
  go_wp2_with fail
  go_end0
  exact ⟨rfl, HX.out, HY.out⟩
def TR (s : Sg) : List UInt8 := 114 :: TV s
set_option maxRecDepth 100000 in
set_option maxHeartbeats 4000000 in
theorem wrest_any : Wm 100 66 TR okVl := by
  intro B b l s W hl hok h
  have okv := hok
  have H0 := Lib.hid h
  have L0 := Lib.hid (show l.length ≤ 100 from hl)
  have E0 := Lib.hid (show l = l ++ [] from (List.append_nil l).symm)
  have B0 := Lib.hid (Below.refl B W)
  obtain ⟨l0, hl0⟩ : ∃ l0, l = l0 := ⟨_, rfl⟩
  have TE := Lib.hid (show TR s = _ from rfl)
  have HL := Lib.hid hl0
  clear h hl
  rw [hl0] at H0 L0
  have E0 := Lib.hid (show l0 = l ++ [] by rw [List.append_nil]; exact hl0.symm)
  clear hl0
  go_enter Tryz.func66, Tryz.ntmps66
  have P := Lib.hid (wtl_any [114] (show 1 ≤ 1000 by decide) B b l0 s _ (Nat.le_trans L0.out (by decide)) H0.out)
  go_wp2_with fail
  refine P.out.mono ?_
  rintro e w1 ⟨rfl, hx, hy⟩
  replace B0 := Lib.hid (B0.out.trans hy)
  replace E0 := Lib.hid (show l0 ++ [114] = l ++ ([] ++ [114]) by rw [E0.out]; simp)
  replace L0 := Lib.hid (show (l0 ++ [114]).length ≤ 110 by rw [List.length_append]; have := L0.out; have : ([114]).length ≤ 10 := (show 1 ≤ 10 by decide); omega)
  replace H0 := Lib.hid hx
  clear hx hy P
  generalize l0 ++ [114] = l1 at *
  have P := Lib.hid (wvalue_any B b l1 s _ (Nat.le_trans L0.out (by decide)) okv H0.out)
  go_wp2_with fail
  refine P.out.mono ?_
  rintro e w2 ⟨rfl, hx, hy⟩
  replace B0 := Lib.hid (B0.out.trans hy)
  replace E0 := Lib.hid (show l1 ++ TV s = l ++ (([] ++ [114]) ++ TV s) by rw [E0.out]; simp)
  replace L0 := Lib.hid (show (l1 ++ TV s).length ≤ 120 by rw [List.length_append]; have := L0.out; have : (TV s).length ≤ 10 := Nat.le_trans (let_plain okv).2.2 (by decide); omega)
  replace H0 := Lib.hid hx
  clear hx hy P
  generalize l1 ++ TV s = l2 at *
  go_wp2_with fail
  go_end0
  exact ⟨rfl, by have h := H0.out; rw [E0.out] at h; simpa [TR] using h, B0.out⟩
end Go.Proofs.YtdmedealdhadcaaGreatDoor
