/- The statements' own examples of pitches. -/
import Derived.Test.YtpkihehacocbhaaDoorPProgH
import Derived.Test.YtpkihehacocbhaaDoorPKit
namespace Go.Proofs.YtpkihehacocbhaaDoor
open Go.RowKit

theorem text_size (p : Pi3) : (⟨(textL p).toArray⟩ : ByteArray).size ≤ maxLen := by
  have e : (⟨(textL p).toArray⟩ : ByteArray).size = (textL p).length := by show (textL p).toArray.size = _; simp
  have h : (textL p).length ≤ 3 := by
    unfold textL accL
    simp only [List.length_cons, List.length_append, List.length_nil]
    split
    · simp
    · split <;> simp
  have : (3 : Nat) ≤ maxLen := by decide
  omega

set_option maxHeartbeats 1000000 in
theorem reads_any (p : Pi3) (hp : okP p) (s : ByteArray) (hs : s = ⟨(textL p).toArray⟩) (w : World) (tab : Tab w) :
    Calls Tryd.prog 18 #[.string s, .int .i64 p.1, .int .i64 p.2.1, .int .i64 p.2.2] w fun e w' => e = .returned (.bool true) ∧ Below w.heap.size w w' := by
  have hz : s.size ≤ maxLen := by rw [hs]; exact text_size p
  have TB := Lib.hid (fun W (b : Below w.heap.size w W) => tab.later b)
  clear tab
  have P := Lib.hid (fun W (b : Below w.heap.size w W) => wparse_any s W (TB.out W b) hz)
  have T := Lib.hid (fun W (b : Below w.heap.size w W) => wtext_any p W (TB.out W b))
  clear hz
  have BK := Lib.hid (fun r (h : ParseR s r) => show r = (p, 0) from by rw [hs] at h; exact ParseR.back hp h)
  unfold TextPost at T
  rw [textV_ok hp, ← hs] at T
  clear hs hp
  go_enter Tryd.func18, Tryd.ntmps18
  go_wp2_with fail
  refine (P.out _ (w_refl w)).mono ?_
  rintro e w1 ⟨r, hr, rfl, hb⟩
  obtain rfl := BK.out r hr
  have hB := Lib.hid (w_alloc hb (.cells #[.int .i64 p.1, .int .i64 p.2.1, .int .i64 p.2.2] 23))
  have CL := Lib.hid (Cell3.made w1 p 23)
  clear hr hb P BK
  go_wp2_with fail
  refine (T.out _ hB.out).mono ?_
  rintro e w2 ⟨rfl, hb⟩
  obtain ⟨_, c0, c1, c2, _, _, _⟩ := CL.out.later hb
  have hB2 := Lib.hid (w_below hB.out hb)
  clear hb hB CL T
  go_wp2_with fail
  go_ret
  exact ⟨rfl, hB2.out⟩

set_option maxHeartbeats 1000000 in
theorem is_any (p : Pi3) (hp : okP p) (s : ByteArray) (hs : s = ⟨(textL p).toArray⟩) (w : World) (tab : Tab w) :
    Calls Tryd.prog 13 #[pv p, .int .i64 0, .string s] w fun e w' => e = .returned (.bool true) ∧ Below w.heap.size w w' := by
  have T := Lib.hid (fun W (b : Below w.heap.size w W) => wtext_any p W (tab.later b))
  clear tab
  unfold TextPost at T
  rw [textV_ok hp, ← hs] at T
  clear hs hp
  go_enter Tryd.func13, Tryd.ntmps13
  go_wp2_with fail
  refine (T.out _ (w_alloc (w_refl w) _)).mono ?_
  rintro e w2 ⟨rfl, hb⟩
  have hB2 := Lib.hid (w_below (w_alloc (w_refl w) _) hb)
  clear hb T
  go_wp2_with fail
  go_ret
  exact ⟨rfl, hB2.out⟩

theorem wk_1 : heiV (6, 3, -1) = (46, 0) := by decide
theorem wk_2 : betV (6, 3, 0) (3, 4, 0) = ((4, 6), 0) := by decide
theorem wk_3 : okP (6, 3, -1) := by decide

set_option maxHeartbeats 1000000 in
theorem pwake_any (w : World) (tab : Tab w) : Calls Tryd.prog 19 #[] w fun e w' => e = .returned (.bool true) ∧ Below w.heap.size w w' := by
  have H := Lib.hid (fun W (b : Below w.heap.size w W) => wheight_any (6, 3, -1) W (tab.later b))
  rw [wk_1] at H
  have B := Lib.hid (fun W (b : Below w.heap.size w W) => wbetween_any (6, 3, 0) (3, 4, 0) W (tab.later b))
  unfold BetPost at B
  rw [wk_2] at B
  have R := Lib.hid (fun W (b : Below w.heap.size w W) => reads_any (6, 3, -1) wk_3 ⟨#[98, 98, 51]⟩ (by decide +kernel) W (tab.later b))
  clear tab
  go_enter Tryd.func19, Tryd.ntmps19
  go_wp2_with fail
  refine (H.out _ (w_refl w)).mono ?_
  rintro e w1 ⟨rfl, hb⟩
  have hB := Lib.hid hb
  clear hb H
  go_wp2_with fail
  refine (B.out _ hB.out).mono ?_
  rintro e w2 ⟨rfl, hb⟩
  have hB2 := Lib.hid (w_alloc (w_below hB.out hb) (.cells #[.int .i64 4, .int .i64 6] 33))
  clear hb hB B
  go_wp2_with fail
  refine (R.out _ hB2.out).mono ?_
  rintro e w3 ⟨rfl, hb⟩
  have hB3 := Lib.hid (w_below hB2.out hb)
  clear hb hB2 R
  go_wp2_with fail
  go_ret
  exact ⟨rfl, hB3.out⟩

end Go.Proofs.YtpkihehacocbhaaDoor
