/- The law on reading what is written. -/
import Derived.Test.YtdjkgnganbeonaaDoorMade
import Derived.Test.YtdjkgnganbeonaaDoorKnow
namespace Go.Proofs.YtdjkgnganbeonaaDoor
open Go.RowKit

/-! ### The text of made rows -/
theorem all_mem {ws : List Wd} (h : ws.all okW = true) : ∀ x ∈ ws, okW x = true := fun x hx => List.all_eq_true.1 h x hx
theorem tail_len6 : ∀ (t : List Wd), (∀ x ∈ t, x.text.size ≤ 6) → (tailL t).length ≤ t.length * 9
  | [], _ => by simp [tailL]
  | x :: t, h => by
    have h1 := tail_len6 t (fun y hy => h y (by simp [hy]))
    have h2 := wordL_len x
    have h3 := h x (by simp)
    simp only [tailL, List.length_cons, List.length_append]; omega
theorem line_len6 {ws : List Wd} (h : ∀ x ∈ ws, x.text.size ≤ 6) : (lineL ws).length ≤ ws.length * 9 := by
  cases ws with
  | nil => simp [lineL]
  | cons x t =>
    have h1 := tail_len6 t (fun y hy => h y (by simp [hy]))
    have h2 := wordL_len x
    have h3 := h x (by simp)
    simp only [lineL, List.length_cons, List.length_append]; omega
theorem RowOk.good {ws : List Wd} (h : RowOk ws) : rowE ws = 0 ∧ (lineL ws).length ≤ 72 := by
  obtain ⟨h1, h2, h3, h4⟩ := h
  have h5 := line_len6 h4
  exact ⟨rowE_good h1 h3 (by omega), by omega⟩
theorem body_len : ∀ (rs : List Rw), (∀ r ∈ rs, RowOk r.words) → (bodyL rs).length ≤ rs.length * 73
  | [], _ => by simp [bodyL]
  | r :: t, h => by
    have h1 := body_len t (fun x hx => h x (by simp [hx]))
    have h2 := (h r (by simp)).good.2
    simp only [bodyL, List.length_cons, List.length_append, List.length_nil]; omega
theorem made_text {rs : List Rw} (hl : rs.length ≤ 100) (h : ∀ r ∈ rs, RowOk r.words) : textG [] rs = (bodyL rs, 0) ∧ (bodyL rs).length ≤ rs.length * 73 := by
  have h1 := body_len rs h
  have h2 := textG_good rs [] (fun r hr => (h r hr).good.1) (by simp; omega)
  exact ⟨by simpa using h2, h1⟩
theorem made_modest {rs : List Rw} (hl : rs.length ≤ 100) (h : ∀ r ∈ rs, RowOk r.words) : Modest rs :=
  ⟨by omega, fun r hr => ⟨by have := (h r hr).2.1; omega, fun x hx => by have := (h r hr).2.2.2 x hx; omega⟩⟩

theorem fE_none {b : Option (Int × Int)} (h : b = none) : fE b = 0 := by rw [h]; rfl

theorem list_size (l : List UInt8) : (⟨l.toArray⟩ : ByteArray).size = l.length := by show l.toArray.size = _; simp

set_option maxRecDepth 100000 in
set_option maxHeartbeats 4000000 in
theorem backlaw_any (p : Option Addr) (cap : Nat) (zs : List Int) (s : ByteArray) (w : World) (hp : IntsP w p cap zs) (hs : s.size ≤ maxLen) :
    Calls Tryd.prog 7 #[.slice p zs.length cap, .string s] w fun e w' => e = .returned (.bool true) ∧ Below w.heap.size w w' := by
  have HP := Lib.hid hp
  have hs' := hs
  unfold maxLen at hs'
  clear hp hs
  go_enter Tryd.func7, Tryd.ntmps7
  go_wp2_with fail
  refine (known_any _).mono ?_
  rintro e w1 ⟨rfl, hb1⟩
  have HP1 := Lib.hid (HP.out.later hb1)
  have B1 := Lib.hid hb1
  clear hb1 HP
  go_wp2_with fail
  refine (made_any p cap zs _ HP1.out).mono ?_
  rintro e w2 ⟨v, rs, rfl, hv, hr, hb2⟩
  have V2 := Lib.hid hv
  have B2 := Lib.hid (w_below B1.out hb2)
  obtain ⟨hr1, hr2⟩ := hr
  have HT := Lib.hid (made_text (by omega) hr2)
  have HM := Lib.hid (made_modest (by omega) hr2)
  have HE := Lib.hid (fun r hr => (hr2 r hr).good.1)
  have hlen := (made_text (by omega) hr2).2
  clear hb2 HP1 B1 hv hr2
  go_wp2_with fail
  refine (wtext_any _ rs _ V2.out HM.out).mono ?_
  rintro e w3 ⟨rfl, hb3⟩
  have V3 := Lib.hid (V2.out.later hb3)
  have B3 := Lib.hid (w_below B2.out hb3)
  clear hb3 V2 B2
  rw [HT.out.1]
  have RB := Lib.hid (Reads.body rs (fun r hr => HE.out r hr))
  generalize bodyL rs = t at *
  have hts : (⟨t.toArray⟩ : ByteArray).size ≤ 1000000 := by rw [list_size]; omega
  have R4 := Lib.hid (fun W => wrows_any ⟨t.toArray⟩ W hts)
  clear HT hts
  go_wp2_with fail
  refine (R4.out _).mono ?_
  rintro e w4 ⟨rs2, b2, v2, hres, hb4, rfl, hv2⟩
  obtain ⟨hbn, hbare⟩ := RB.out.whole (by omega) hres
  subst hbn
  rw [show fE none = 0 from rfl, show fA none = 0 from rfl]
  have hw5 : Below w4.heap.size w4 (w4.alloc (.cells #[.int .i64 0, .int .i64 0] 26)) := w_alloc (w_refl w4) _
  have V5 := Lib.hid ((V3.out.later hb4).later hw5)
  have U5 := Lib.hid (hv2.later hw5)
  have B5 := Lib.hid (w_below (w_below B3.out hb4) hw5)
  have SM := Lib.hid (same_of_bare hbare.symm)
  clear hb4 hw5 hv2 V3 B3 R4 RB hres hbare HM HE
  go_wp2_with fail
  refine (same_any _ _ _ _ false _ V5.out U5.out SM.out).mono ?_
  rintro e w6 ⟨rfl, hb6⟩
  have B6 := Lib.hid (w_below B5.out hb6)
  clear hb6 V5 U5 SM B5 hlen hr1
  by_cases hbig : 3000 < s.size
  · have hbig' : (3000 : Int) < s.size := by omega
    go_wp2_with fail
    go_ret
    exact ⟨rfl, B6.out⟩
  · have hbig' : (s.size : Int) ≤ 3000 := by omega
    have R7 := Lib.hid (fun W => wrows_any s W (by omega))
    go_wp2_with fail
    refine (R7.out _).mono ?_
    rintro e w7 ⟨rs3, b3, v3, hres, hb7, rfl, hv3⟩
    have GD := Lib.hid (hres.good (by omega))
    have B7 := Lib.hid (w_below B6.out hb7)
    have V7 := Lib.hid hv3
    generalize fE b3 = x at *
    generalize fA b3 = y at *
    clear hb7 hv3 hres R7 B6
    by_cases hx : x = 0
    · subst hx
      have V8 := Lib.hid (V7.out.later (w_alloc (w_refl w7) (.cells #[.int .i64 0, .int .i64 y] 26)))
      have B8 := Lib.hid (w_alloc B7.out (.cells #[.int .i64 0, .int .i64 y] 26))
      clear V7 B7
      go_wp2_with fail
      refine (wtext_any _ rs3 _ V8.out GD.out.1).mono ?_
      rintro e w9 ⟨rfl, hb9⟩
      have V9 := Lib.hid (V8.out.later hb9)
      have B9 := Lib.hid (w_below B8.out hb9)
      have hE := err_of GD.out.2
      have BK := Lib.hid (fun (h : (textG [] rs3).2 = 0) rs' b k => back_rows GD.out.2 h (rs' := rs') (b := b) k)
      have TB := Lib.hid (fun rs' h => textG_bare (a := rs') (b := rs3) [] h)
      have LN := Lib.hid (fun (h : (textG [] rs3).2 = 0) => (textG_parts rs3 [] GD.out.2 (by simp)).elim (fun e => absurd (h.symm.trans e) (by decide)) (fun e => show (textG [] rs3).1.length ≤ 20000 by rw [e.2.1]; exact e.2.2.1))
      clear hb9 V8 B8
      generalize hT : textG [] rs3 = tt at *
      obtain ⟨t3, n3⟩ := tt
      simp only at hE
      rcases hE with rfl | rfl
      · have L3 : t3.length ≤ 20000 := LN.out rfl
        have R10 := Lib.hid (fun W => wrows_any ⟨t3.toArray⟩ W (by rw [list_size]; show t3.length ≤ _; omega))
        clear LN
        go_wp2_with fail
        refine (R10.out _).mono ?_
        rintro e w10 ⟨rs4, b4, v4, hres, hb10, rfl, hv4⟩
        obtain ⟨hbn, hbare, _⟩ := BK.out (by trivial) rs4 b4 hres
        subst hbn
        rw [show fE none = 0 from rfl, show fA none = 0 from rfl]
        have hw11 : Below w10.heap.size w10 (w10.alloc (.cells #[.int .i64 0, .int .i64 0] 26)) := w_alloc (w_refl w10) _
        have V11 := Lib.hid ((V9.out.later hb10).later hw11)
        have U11 := Lib.hid (hv4.later hw11)
        have B11 := Lib.hid (w_below (w_below B9.out hb10) hw11)
        have SM := Lib.hid (same_of_bare hbare.symm)
        have HM4 := Lib.hid (modest_of_bare hbare.symm GD.out.1)
        have HT4 := Lib.hid (TB.out rs4 hbare)
        have HF := Lib.hid (Cell2.made w10 0 0 26)
        clear hb10 hw11 hv4 V9 B9 R10 BK TB hres hbare GD
        go_wp2_with fail
        refine (wtext_any _ rs4 _ U11.out HM4.out).mono ?_
        rintro e w12 ⟨rfl, hb12⟩
        rw [HT4.out]
        have V12 := Lib.hid (V11.out.later hb12)
        have U12 := Lib.hid (U11.out.later hb12)
        have B12 := Lib.hid (w_below B11.out hb12)
        obtain ⟨_, o0, o1, o2, o3⟩ := HF.out.below hb12 HF.out.inb
        clear hb12 V11 U11 B11 HF HM4 HT4
        go_wp2_with fail
        refine (same_any _ _ _ _ false _ V12.out U12.out SM.out).mono ?_
        rintro e w13 ⟨rfl, hb13⟩
        have B13 := Lib.hid (w_below B12.out hb13)
        clear hb13 V12 U12 B12
        go_wp2_with fail
        go_ret
        exact ⟨rfl, B13.out⟩
      · clear LN BK TB
        go_wp2_with fail
        go_ret
        exact ⟨rfl, B9.out⟩
    · have hx' : (x != 0) = true := by simpa using hx
      have B8 := Lib.hid (w_alloc B7.out (.cells #[.int .i64 x, .int .i64 y] 26))
      go_wp2_with fail
      go_ret
      exact ⟨rfl, B8.out⟩

end Go.Proofs.YtdjkgnganbeonaaDoor
