/- The law on moves. -/
import Derived.Test.YtpkihehacocbhaaDoorPLawB
namespace Go.Proofs.YtpkihehacocbhaaDoor
open Go.RowKit

/-- Moves add up, and are taken back. -/
theorem move_two {p : Pi3} {n : Int} (h : okP p) (hr : 0 ≤ numI p + n ∧ numI p + n ≤ 62) :
    ∃ q, moveV p n = (q, 0) ∧ okP q ∧ moveV q (-n) = (p, 0) ∧ ∀ b, moveV q b = moveV p (n + b) := by
  have hk := h.2.2
  refine ⟨((numI p + n) % 7, (numI p + n) / 7, p.2.2), ?_, ofV_okP ⟨hr, hk⟩, ?_, fun b => ?_⟩
  · rw [moveV_ok h, of_ok ⟨hr, hk⟩]
  · rw [moveV_ok (ofV_okP ⟨hr, hk⟩), num_of, show numI p + n + -n = numI p by omega]
    exact of_num h
  · rw [moveV_ok (ofV_okP ⟨hr, hk⟩), moveV_ok h, num_of, show numI p + n + b = numI p + (n + b) by omega]

set_option maxRecDepth 100000 in
set_option maxHeartbeats 4000000 in
theorem pmoves_any (n a b : Int) (w : World) (hn : -9223372036854775808 ≤ n ∧ n ≤ 9223372036854775807) (ha : -9223372036854775808 ≤ a ∧ a ≤ 9223372036854775807) (hb : -9223372036854775808 ≤ b ∧ b ≤ 9223372036854775807) (tab : Tab w) :
    Calls Tryd.prog 7 #[.int .i64 n, .int .i64 a, .int .i64 b] w fun e w' => e = .returned (.bool true) ∧ Below w.heap.size w w' := by
  have TB := Lib.hid (fun W (b : Below w.heap.size w W) => tab.later b)
  clear tab
  have PA := Lib.hid (fun W => pitch_any n W hn.1 hn.2)
  have MA := Lib.hid (fun W => mod_any a 41 W ha.1 ha.2 (by decide) (by decide))
  have MB := Lib.hid (fun W => mod_any b 41 W hb.1 hb.2 (by decide) (by decide))
  have oa := madeP_ok n
  generalize madeP n = p at *
  have a0 : 0 ≤ a % 41 := by omega
  have a1 : a % 41 < 41 := by omega
  have b0 : 0 ≤ b % 41 := by omega
  have b1 : b % 41 < 41 := by omega
  clear hn ha hb
  generalize a % 41 = a' at *
  generalize b % 41 = b' at *
  obtain ⟨A, hA⟩ : ∃ A, a' - 20 = A := ⟨_, rfl⟩
  obtain ⟨C, hC⟩ : ∃ C, b' - 20 = C := ⟨_, rfl⟩
  have x1 : IntKind.i64.wrap (a' - 20) = A := by rw [IntWalk.i64_in _ (by omega)]; exact hA
  have x2 : IntKind.i64.wrap (b' - 20) = C := by rw [IntWalk.i64_in _ (by omega)]; exact hC
  have A0 : -20 ≤ A := by omega
  have A1 : A ≤ 20 := by omega
  have C0 : -20 ≤ C := by omega
  have C1' : C ≤ 20 := by omega
  clear hA hC
  have MV := Lib.hid (fun W => wmove_any p A W (by omega) (by omega))
  unfold OfPost at MV
  by_cases hr : 0 ≤ numI p + A ∧ numI p + A ≤ 62
  · obtain ⟨q, e1, oq, e2, e3⟩ := move_two oa hr
    rw [e1] at MV
    have MC := Lib.hid (fun W => wmove_any q (-A) W (by omega) (by omega))
    have MD := Lib.hid (fun W => wmove_any q C W (by omega) (by omega))
    have ME := Lib.hid (fun W => wmove_any p (A + C) W (by omega) (by omega))
    unfold OfPost at MC MD ME
    rw [e2] at MC
    rw [e3] at MD
    have x3 : IntKind.i64.wrap (-A) = -A := IntWalk.i64_in _ (by omega)
    have x4 : IntKind.i64.wrap (A + C) = A + C := IntWalk.i64_in _ (by omega)
    clear e1 e2 e3 hr oa oq
    generalize moveV p (A + C) = r at *
    obtain ⟨⟨s1, s2, s3⟩, se⟩ := r
    go_enter Tryd.func7, Tryd.ntmps7
    go_wp2_with fail
    refine (PA.out _).mono ?_
    rintro e w1 ⟨rfl, hb⟩
    have C1 := Lib.hid (Cell3.made w1 p 23)
    have B1 := Lib.hid (w_alloc hb (pO p))
    clear hb PA
    go_wp2_with fail
    refine (MA.out _).mono ?_
    rintro e w2 ⟨rfl, rfl⟩
    go_wp2_with fail
    refine (MB.out _).mono ?_
    rintro e w3 ⟨rfl, rfl⟩
    obtain ⟨_, c0, c1, c2, _, _, _⟩ := C1.out
    go_wp2_with fail
    refine (MV.out _).mono ?_
    rintro e w4 ⟨rfl, hb⟩
    have hw := w_below hb (w_alloc (w_refl w4) (pO q))
    have C2 := Lib.hid (C1.out.later hw)
    have D2 := Lib.hid (Cell3.made w4 q 23)
    have B2 := Lib.hid (w_below B1.out hw)
    clear hb hw MV B1 C1 c0 c1 c2 MA MB
    go_wp2_with fail
    refine (MC.out _).mono ?_
    rintro e w5 ⟨rfl, hb⟩
    have hw := w_below hb (w_alloc (w_refl w5) (pO p))
    have C3 := Lib.hid (C2.out.later hw)
    have D3 := Lib.hid (D2.out.later hw)
    have B3 := Lib.hid (w_below B2.out hw)
    obtain ⟨_, c0, c1, c2, _, _, _⟩ := C3.out
    obtain ⟨_, d0, d1, d2, _, _, _⟩ := D3.out
    obtain ⟨_, e0, e1, e2, _, _, _⟩ := Cell3.made w5 p 23
    clear hb hw MC B2 C2 D2
    go_wp2_with fail
    refine (MD.out _).mono ?_
    rintro e w6 ⟨rfl, hb⟩
    have hw := w_below hb (w_alloc (w_refl w6) (pO (s1, s2, s3)))
    have C4 := Lib.hid (C3.out.later hw)
    have D4 := Lib.hid (Cell3.made w6 (s1, s2, s3) 23)
    have B4 := Lib.hid (w_below B3.out hw)
    clear c0 c1 c2 d0 d1 d2 e0 e1 e2
    obtain ⟨_, c0, c1, c2, _, _, _⟩ := C4.out
    clear hb hw MD B3 C3 D3
    go_wp2_with fail
    refine (ME.out _).mono ?_
    rintro e w7 ⟨rfl, hb⟩
    have hw := w_below hb (w_alloc (w_refl w7) (pO (s1, s2, s3)))
    have B5 := Lib.hid (w_below B4.out hw)
    obtain ⟨_, d0, d1, d2, _, _, _⟩ := D4.out.later hw
    obtain ⟨_, e0, e1, e2, _, _, _⟩ := Cell3.made w7 (s1, s2, s3) 23
    simp only at d0 d1 d2 e0 e1 e2
    clear hb hw ME B4 C4 D4 c0 c1 c2
    go_wp2_with fail
    refine (pwake_any _ (TB.out _ B5.out)).mono ?_
    rintro e w8 ⟨rfl, hb⟩
    have B8 := Lib.hid (w_below B5.out hb)
    clear hb B5
    go_wp2_with fail
    go_ret
    exact ⟨rfl, B8.out⟩
  · rw [moveV_ok oa, of_no (fun x => hr x.1)] at MV
    clear hr oa
    go_enter Tryd.func7, Tryd.ntmps7
    go_wp2_with fail
    refine (PA.out _).mono ?_
    rintro e w1 ⟨rfl, hb⟩
    have C1 := Lib.hid (Cell3.made w1 p 23)
    have B1 := Lib.hid (w_alloc hb (pO p))
    clear hb PA
    go_wp2_with fail
    refine (MA.out _).mono ?_
    rintro e w2 ⟨rfl, rfl⟩
    go_wp2_with fail
    refine (MB.out _).mono ?_
    rintro e w3 ⟨rfl, rfl⟩
    obtain ⟨_, c0, c1, c2, _, _, _⟩ := C1.out
    go_wp2_with fail
    refine (MV.out _).mono ?_
    rintro e w4 ⟨rfl, hb⟩
    have hw := w_below hb (w_alloc (w_refl w4) (pO (0, 0, 0)))
    have B2 := Lib.hid (w_below B1.out hw)
    clear hb hw MV B1 C1 c0 c1 c2 MA MB
    go_wp2_with fail
    refine (pwake_any _ (TB.out _ B2.out)).mono ?_
    rintro e w8 ⟨rfl, hb⟩
    have B8 := Lib.hid (w_below B2.out hb)
    clear hb B2
    go_wp2_with fail
    go_ret
    exact ⟨rfl, B8.out⟩

end Go.Proofs.YtpkihehacocbhaaDoor
