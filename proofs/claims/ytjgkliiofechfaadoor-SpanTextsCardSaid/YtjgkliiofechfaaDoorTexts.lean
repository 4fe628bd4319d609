/- The statement SpanTexts returns true at every input: the walk. -/
import Derived.Test.YtjgkliiofechfaaDoorReads
import Derived.Test.YtjgkliiofechfaaDoorRefQ
namespace Go.Proofs.YtjgkliiofechfaaDoor
open Go.RowKit

theorem rparse_of {s : ByteArray} {n d e' : Int} (w : World) (hs : s.size ≤ maxLen) (h : parseV s.data.toList = (n, d, e')) :
    Calls Tryd.prog 37 #[.string s] w fun e w' => e = .returned (tev (n, d, e')) ∧ Below w.heap.size w w' := by
  have := rparse_any s w hs
  rw [ref_parse, h] at this
  exact this

set_option maxHeartbeats 4000000 in
theorem texts_any (n d : Int) (s : ByteArray) (w : World) (hs : s.size ≤ maxLen) (ht : Tab w) :
    Calls Tryd.prog 7 #[tv n d, .string s] w fun e w' => e = .returned (.bool true) ∧ Below w.heap.size w w' := by
  have A := Lib.hid awake_any
  have T1 := Lib.hid (fun W hW => text_any n d W hW)
  have T2 := Lib.hid (fun W => rtext_any n d W)
  obtain ⟨u, v, e', hp⟩ : ∃ u v e', parseV s.data.toList = (u, v, e') := ⟨_, _, _, rfl⟩
  have P1 := Lib.hid (fun U => parse_of U hs hp)
  have P2 := Lib.hid (fun U => rparse_of U hs hp)
  have HT := Lib.hid ht
  clear hp ht
  obtain ⟨z, hz⟩ : ∃ z, z = textR n d := ⟨_, rfl⟩
  rw [← hz] at T1 T2
  obtain ⟨c, hc⟩ : ∃ c, c = chk n d := ⟨_, rfl⟩
  rw [← hc] at T1 T2
  clear hz hc
  unfold maxLen at hs
  have X0 := Lib.hid (Own2.made w n d 23)
  have B0 := Lib.hid (ba (br w) (.cells #[.int .i64 n, .int .i64 d] 23))
  have HT0 := Lib.hid (HT.out.later B0.out)
  clear HT
  by_cases h : 3000 < s.size
  · have h1 : (3000 : Int) < (s.size : Int) := by omega
    go_enter Tryd.func7, Tryd.ntmps7
    go_wp2_with fail
    refine (A.out _).mono ?_
    rintro e w1 ⟨rfl, hb1⟩
    have B1 := Lib.hid (bl B0.out hb1)
    clear hb1
    go_wp2_with fail
    go_ret
    exact ⟨rfl, B1.out⟩
  · have h1 : ¬ (3000 : Int) < (s.size : Int) := by omega
    obtain ⟨_, x0, x1, _, _⟩ := X0.out
    go_enter Tryd.func7, Tryd.ntmps7
    go_wp2_with fail
    refine (T1.out _ HT0.out).mono ?_
    rintro e w1 ⟨rfl, hb1⟩
    have B1 := Lib.hid (bl B0.out hb1)
    have X1 := Lib.hid (X0.out.later hb1)
    clear hb1 x0 x1 B0 X0 HT0
    obtain ⟨_, x0, x1, _, _⟩ := X1.out
    go_wp2_with fail
    refine (T2.out _).mono ?_
    rintro e w2 ⟨rfl, hb2⟩
    have B2 := Lib.hid (bl B1.out hb2)
    clear hb2 x0 x1 B1 X1
    go_wp2_with fail
    refine (P1.out _).mono ?_
    rintro e w3 ⟨rfl, hb3⟩
    have B3 := Lib.hid (ba (bl B2.out hb3) (.cells #[.int .i64 u, .int .i64 v] 23))
    have X3 := Lib.hid (Own2.made w3 u v 23)
    clear hb3 B2
    go_wp2_with fail
    refine (P2.out _).mono ?_
    rintro e w4 ⟨rfl, hb4⟩
    have B4 := Lib.hid (ba (bl B3.out hb4) (.cells #[.int .i64 u, .int .i64 v] 23))
    have X4 := Lib.hid ((X3.out.later hb4).later (ba (br _) (.cells #[.int .i64 u, .int .i64 v] 23)))
    have Y4 := Lib.hid (Own2.made w4 u v 23)
    clear hb4 B3 X3
    obtain ⟨_, x0, x1, _, _⟩ := X4.out
    obtain ⟨_, y0, y1, _, _⟩ := Y4.out
    go_wp2_with fail
    refine (A.out _).mono ?_
    rintro e w5 ⟨rfl, hb5⟩
    have B5 := Lib.hid (bl B4.out hb5)
    clear hb5 B4 x0 x1 y0 y1
    go_wp2_with fail
    go_ret
    exact ⟨rfl, B5.out⟩

end Go.Proofs.YtjgkliiofechfaaDoor
