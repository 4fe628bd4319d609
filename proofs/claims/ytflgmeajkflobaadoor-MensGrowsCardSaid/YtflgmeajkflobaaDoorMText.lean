/- Texts of mensurations, of the program and of the reference. -/
import Derived.Test.YtflgmeajkflobaaDoorMProgD
import Derived.Test.YtflgmeajkflobaaDoorShelf
namespace Go.Proofs.YtflgmeajkflobaaDoor
open Go.RowKit

def texL (q : Q4) : List UInt8 :=
  (if q.1 = 3 ∨ q.2.1 = 3 then [48 + UInt8.ofNat q.1.toNat, 48 + UInt8.ofNat q.2.1.toNat] else []) ++ (if q.2.2.1 = 3 then [79] else [67]) ++ (if q.2.2.2 = 3 then [46] else [])
def texB (q : Q4) : ByteArray := ⟨(texL q).toArray⟩
def texS (q : Q4) : ByteArray := if okM q then texB q else ⟨#[]⟩
theorem texS_ok {q : Q4} (h : okM q) : texS q = texB q := if_pos h
theorem texS_no {q : Q4} (h : ¬ okM q) : texS q = ⟨#[]⟩ := if_neg h
def TexPost (q : Q4) (w : World) (e : Ending) (w' : World) : Prop := e = .returned (.tuple #[.string (texS q), .int .i64 (chkM q)]) ∧ Below w.heap.size w w'

theorem itoa2 (w : World) : Calls Tryd.prog 56 #[.int .i64 2] w fun e w' => e = .returned (.string ⟨#[50]⟩) ∧ w = w' := by
  have h := Tryd.strconv_Itoa_small 2 (by omega) w
  rw [show Lib.decDigits 2 = [50] by decide +kernel] at h
  exact h.mono fun e w' ⟨he, hw⟩ => ⟨he, hw.symm⟩
theorem itoa3 (w : World) : Calls Tryd.prog 56 #[.int .i64 3] w fun e w' => e = .returned (.string ⟨#[51]⟩) ∧ w = w' := by
  have h := Tryd.strconv_Itoa_small 3 (by omega) w
  rw [show Lib.decDigits 3 = [51] by decide +kernel] at h
  exact h.mono fun e w' ⟨he, hw⟩ => ⟨he, hw.symm⟩
theorem ab_of {q : Q4} (h : okM q) : ((q.1 = 2 ∧ q.2.1 = 2) ∨ (q.1 = 2 ∧ q.2.1 = 3) ∨ (q.1 = 3 ∧ q.2.1 = 2) ∨ (q.1 = 3 ∧ q.2.1 = 3)) ∧ (q.2.2.1 = 2 ∨ q.2.2.1 = 3) ∧ (q.2.2.2 = 2 ∨ q.2.2.2 = 3) := by
  obtain ⟨h1, h2, h3, h4⟩ := h
  unfold two at *
  omega

set_option maxHeartbeats 4000000 in
theorem ntext_any (q : Q4) (hq : okM q) (w : World) : Calls Tryd.prog 47 #[mv q] w fun e w' => e = .returned (.string (texB q)) ∧ Below w.heap.size w w' := by
  have K := Lib.hid (Cell4.made w q 57)
  have hB := Lib.hid (w_alloc (w_refl w) (nO q))
  have I2 := Lib.hid itoa2
  have I3 := Lib.hid itoa3
  obtain ⟨hab, hc, hd⟩ := ab_of hq
  clear hq
  obtain ⟨a, b, c, d⟩ := q
  simp only at hab hc hd
  rcases hab with ⟨rfl, rfl⟩ | ⟨rfl, rfl⟩ | ⟨rfl, rfl⟩ | ⟨rfl, rfl⟩
  · rcases hc with rfl | rfl <;> rcases hd with rfl | rfl
    all_goals
      go_enter Tryd.func47, Tryd.ntmps47
      go_wp2_with fail
      go_ret
      exact ⟨rfl, hB.out⟩
  · rcases hc with rfl | rfl <;> rcases hd with rfl | rfl
    all_goals
      obtain ⟨_, k0, k1, k2, k3, _, _, _, _⟩ := K.out
      go_enter Tryd.func47, Tryd.ntmps47
      go_wp2_with fail
      go_region_held3 (fun W => W.cell? ⟨w.heap.size, 0, none⟩ = some (.int .i64 2) ∧ W.cell? ⟨w.heap.size, 1, none⟩ = some (.int .i64 3))
        (first
          | exact ⟨k0, k1⟩
          | assumption)
        (first
          | (go_at_call 56; refine (I2.out _).mono ?_; rintro e wn ⟨rfl, rfl⟩)
          | (go_at_call 56; refine (I3.out _).mono ?_; rintro e wn ⟨rfl, rfl⟩)
          | fail)
      all_goals
        go_wp2_with fail
        go_ret
        exact ⟨rfl, hB.out.drew⟩
  · rcases hc with rfl | rfl <;> rcases hd with rfl | rfl
    all_goals
      obtain ⟨_, k0, k1, k2, k3, _, _, _, _⟩ := K.out
      go_enter Tryd.func47, Tryd.ntmps47
      go_wp2_with fail
      go_region_held3 (fun W => W.cell? ⟨w.heap.size, 0, none⟩ = some (.int .i64 3) ∧ W.cell? ⟨w.heap.size, 1, none⟩ = some (.int .i64 2))
        (first
          | exact ⟨k0, k1⟩
          | assumption)
        (first
          | (go_at_call 56; refine (I2.out _).mono ?_; rintro e wn ⟨rfl, rfl⟩)
          | (go_at_call 56; refine (I3.out _).mono ?_; rintro e wn ⟨rfl, rfl⟩)
          | fail)
      all_goals
        go_wp2_with fail
        go_ret
        exact ⟨rfl, hB.out.drew⟩
  · rcases hc with rfl | rfl <;> rcases hd with rfl | rfl
    all_goals
      obtain ⟨_, k0, k1, k2, k3, _, _, _, _⟩ := K.out
      go_enter Tryd.func47, Tryd.ntmps47
      go_wp2_with fail
      go_region_held3 (fun W => W.cell? ⟨w.heap.size, 0, none⟩ = some (.int .i64 3) ∧ W.cell? ⟨w.heap.size, 1, none⟩ = some (.int .i64 3))
        (first
          | exact ⟨k0, k1⟩
          | assumption)
        (first
          | (go_at_call 56; refine (I2.out _).mono ?_; rintro e wn ⟨rfl, rfl⟩)
          | (go_at_call 56; refine (I3.out _).mono ?_; rintro e wn ⟨rfl, rfl⟩)
          | fail)
      all_goals
        go_wp2_with fail
        go_ret
        exact ⟨rfl, hB.out.drew⟩
theorem conv2 (w : World) (b c : UInt8) : (convert 67 9 (.slice (some ⟨w.heap.size, 0, none⟩) 2 2)).run Tryd.prog (w.alloc (.cells #[.int .u8 (b.toNat : Int), .int .u8 (c.toNat : Int)] 5)) = .ok (.string ⟨#[b, c]⟩) (w.alloc (.cells #[.int .u8 (b.toNat : Int), .int .u8 (c.toNat : Int)] 5)) :=
  run_convert_bytes_back _ _ _ 5 ⟨w.heap.size, 0, none⟩ 2 [b, c] Tryd.underlying67 Tryd.underlying5 Tryd.underlying9 (fun j hj => by
    have hj0 : j = 0 ∨ j = 1 := by simp at hj; omega
    rcases hj0 with rfl | rfl
    · exact lit_new w #[.int .u8 (b.toNat : Int), .int .u8 (c.toNat : Int)] 5 0 _ rfl
    · exact lit_new w #[.int .u8 (b.toNat : Int), .int .u8 (c.toNat : Int)] 5 1 _ rfl)

set_option maxHeartbeats 4000000 in
theorem text_any (q : Q4) (w : World) : Calls Tryd.prog 24 #[mv q] w (TexPost q w) := by
  have C := Lib.hid (fun W => mcheck_any q W)
  have K := Lib.hid (Cell4.made w q 23)
  unfold TexPost
  by_cases h : okM q
  · rw [texS_ok h, chkM_ok h]
    rw [chkM_ok h] at C
    have NU := Lib.hid (fun W => numsOf_any q W)
    have TX := Lib.hid (fun W => ntext_any q h W)
    clear h
    generalize texB q = s at *
    obtain ⟨a, b, c, d⟩ := q
    go_enter Tryd.func24, Tryd.ntmps24
    go_wp2_with fail
    refine (C.out _).mono ?_
    rintro e w1 ⟨rfl, hb⟩
    have hB := Lib.hid (w_below (w_alloc (w_refl w) (mO (a, b, c, d))) hb)
    obtain ⟨_, c0, c1, c2, c3, _, _, _, _⟩ := K.out.later hb
    clear hb C K
    go_wp2_with fail
    refine (NU.out _).mono ?_
    rintro e w2 ⟨rfl, hb⟩
    replace hB := Lib.hid (w_below hB.out hb)
    clear hb NU c0 c1 c2 c3
    go_wp2_with fail
    refine (TX.out _).mono ?_
    rintro e w3 ⟨rfl, hb⟩
    replace hB := Lib.hid (w_below hB.out hb)
    clear hb TX
    go_wp2_with fail
    go_ret2
    exact ⟨rfl, hB.out⟩
  · rw [texS_no h, chkM_no h]
    rw [chkM_no h] at C
    clear h
    obtain ⟨a, b, c, d⟩ := q
    go_enter Tryd.func24, Tryd.ntmps24
    go_wp2_with fail
    refine (C.out _).mono ?_
    rintro e w1 ⟨rfl, hb⟩
    have hB := Lib.hid (w_below (w_alloc (w_refl w) (mO (a, b, c, d))) hb)
    clear hb C K
    go_wp2_with fail
    go_ret2
    exact ⟨rfl, hB.out⟩

set_option maxHeartbeats 4000000 in
theorem rtext_any (q : Q4) (w : World) : Calls Tryd.prog 25 #[mv q] w (TexPost q w) := by
  have C := Lib.hid (fun W => rmcheck_any q W)
  have K := Lib.hid (Cell4.made w q 23)
  unfold TexPost
  by_cases h : okM q
  · rw [texS_ok h, chkM_ok h]
    rw [chkM_ok h] at C
    obtain ⟨hab, hc, hd⟩ := ab_of h
    clear h
    obtain ⟨a, b, c, d⟩ := q
    simp only at hab hc hd
    have hcv : ∀ W : World, (convert 67 9 (.slice (some ⟨W.heap.size, 0, none⟩) 2 2)).run Tryd.prog (W.alloc (.cells #[.int .u8 50, .int .u8 51] 5)) = .ok (.string ⟨#[50, 51]⟩) (W.alloc (.cells #[.int .u8 50, .int .u8 51] 5)) := fun W => conv2 W 50 51
    have hcw : ∀ W : World, (convert 67 9 (.slice (some ⟨W.heap.size, 0, none⟩) 2 2)).run Tryd.prog (W.alloc (.cells #[.int .u8 51, .int .u8 50] 5)) = .ok (.string ⟨#[51, 50]⟩) (W.alloc (.cells #[.int .u8 51, .int .u8 50] 5)) := fun W => conv2 W 51 50
    have hcx : ∀ W : World, (convert 67 9 (.slice (some ⟨W.heap.size, 0, none⟩) 2 2)).run Tryd.prog (W.alloc (.cells #[.int .u8 51, .int .u8 51] 5)) = .ok (.string ⟨#[51, 51]⟩) (W.alloc (.cells #[.int .u8 51, .int .u8 51] 5)) := fun W => conv2 W 51 51
    rcases hab with ⟨rfl, rfl⟩ | ⟨rfl, rfl⟩ | ⟨rfl, rfl⟩ | ⟨rfl, rfl⟩
    all_goals
      rcases hc with rfl | rfl <;> rcases hd with rfl | rfl
      all_goals
        go_enter Tryd.func25, Tryd.ntmps25
        go_wp2_with fail
        refine (C.out _).mono ?_
        rintro e w1 ⟨rfl, hb⟩
        have hB := Lib.hid (w_below (w_alloc (w_refl w) _) hb)
        obtain ⟨_, c0, c1, c2, c3, _, _, _, _⟩ := K.out.later hb
        clear hb C K
        go_wp2_with fail
        go_ret2
        exact ⟨rfl, (by first | exact hB.out | exact w_alloc hB.out _)⟩
  · rw [texS_no h, chkM_no h]
    rw [chkM_no h] at C
    clear h
    obtain ⟨a, b, c, d⟩ := q
    go_enter Tryd.func25, Tryd.ntmps25
    go_wp2_with fail
    refine (C.out _).mono ?_
    rintro e w1 ⟨rfl, hb⟩
    have hB := Lib.hid (w_below (w_alloc (w_refl w) (mO (a, b, c, d))) hb)
    clear hb C K
    go_wp2_with fail
    go_ret2
    exact ⟨rfl, hB.out⟩

end Go.Proofs.YtflgmeajkflobaaDoor
