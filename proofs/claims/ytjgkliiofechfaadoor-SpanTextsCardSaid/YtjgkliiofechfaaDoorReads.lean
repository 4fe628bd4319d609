/- The statement SpanReads returns true at every input: the walk. -/
import Derived.Test.YtjgkliiofechfaaDoorKnown
import Derived.Test.YtjgkliiofechfaaDoorText
import Derived.Deep.DeepCutAuto
namespace Go.Proofs.YtjgkliiofechfaaDoor
open Go.RowKit

theorem textlit (n d : Int) (x : ByteArray) (w : World) (ht : Tab w) (h : chk n d = 0) (k : textB n d = x) :
    Calls Tryd.prog 34 #[tv n d] w fun e w' => e = .returned (.tuple #[.string x, .int .i64 0]) ∧ Below w.heap.size w w' := by
  have := text_any n d w ht
  rw [show textR n d = x by unfold textR; rw [if_pos h, k], h] at this
  exact this

theorem parse_of {s : ByteArray} {n d e' : Int} (w : World) (hs : s.size ≤ maxLen) (h : parseV s.data.toList = (n, d, e')) :
    Calls Tryd.prog 36 #[.string s] w fun e w' => e = .returned (tev (n, d, e')) ∧ Below w.heap.size w w' := by
  have := parse_any s w hs
  rw [h] at this
  exact this

theorem make_cases (n d : Int) : (∃ a b, makeV n d = (a, b, 0) ∧ Valid a b) ∨ ∃ e', makeV n d = (0, 0, e') ∧ e' ≠ 0 := by
  unfold makeV
  split
  · right; exact ⟨2, rfl, by omega⟩
  · split
    · right; exact ⟨5, rfl, by omega⟩
    · rcases low_err n d with h | h
      · left
        refine ⟨(low n d).1, (low n d).2.1, ?_, low_valid n d (by omega) (by omega) h⟩
        rw [← h]
      · right; exact ⟨4, h, by omega⟩

theorem textB_size {n d : Int} (h : Valid n d) : (textB n d).size ≤ 27 := by
  have z1 := digB_size n h.n1
  have z2 := digB_size d (by have := h.d1; omega)
  by_cases k : 1 < d
  · rw [textB_two k, ByteArray.size_append, ByteArray.size_append]
    have : (⟨#[47]⟩ : ByteArray).size = 1 := rfl
    omega
  · rw [textB_one k]; omega

set_option maxHeartbeats 4000000 in
theorem reads_any (n d : Int) (s : ByteArray) (w : World) (hn : n ≤ 9223372036854775807) (hd : d ≤ 9223372036854775807) (hs : s.size ≤ maxLen) (ht : Tab w) :
    Calls Tryd.prog 12 #[.int .i64 n, .int .i64 d, .string s] w fun e w' => e = .returned (.bool true) ∧ Below w.heap.size w w' := by
  have K := Lib.hid known_any
  have M := Lib.hid (fun W => make_any n d W hn hd)
  have HT := Lib.hid ht
  have HS := Lib.hid hs
  clear ht hs
  go_enter Tryd.func12, Tryd.ntmps12
  go_wp2_with fail
  refine (K.out _).mono ?_
  rintro e w1 ⟨rfl, hb1⟩
  have B1 := Lib.hid hb1
  clear hb1
  go_wp2_with fail
  refine (M.out _).mono ?_
  rintro e w2 ⟨rfl, hb2⟩
  have B2 := Lib.hid (ba (bl B1.out hb2) (.cells #[.int .i64 (makeV n d).1, .int .i64 (makeV n d).2.1] 23))
  have X2 := Lib.hid (Own2.made w2 (makeV n d).1 (makeV n d).2.1 23)
  clear hb2 B1 K M
  have mc := Lib.hid (make_cases n d)
  generalize makeV n d = r at *
  go_upto_if 26 with (fail)
  generalize w2.alloc (.cells #[.int .i64 r.1, .int .i64 r.2.1] 23) = W at *
  go_cut [] (fun wc => Hid (Below w.heap.size w wc))
  case first =>
    rcases mc.out with ⟨a, b, rfl, hv⟩ | ⟨e', rfl, hne⟩
    · have C1 := Lib.hid (fun U hU => textlit a b (textB a b) U hU (chk_valid hv) rfl)
      have C2 := Lib.hid (fun U => parse_of (s := textB a b) U (by have := textB_size hv; unfold maxLen; omega) (show _ = (a, b, 0) by rw [textB_list]; exact parse_text hv))
      have C3 := Lib.hid (fun U => checklit a b 0 U (chk_valid hv))
      clear hv mc
      obtain ⟨_, x0, x1, _, _⟩ := X2.out
      go_wp2_with fail
      refine (C1.out _ (HT.out.later B2.out)).mono ?_
      rintro e w3 ⟨rfl, hb3⟩
      have B3 := Lib.hid (bl B2.out hb3)
      have X3 := Lib.hid (X2.out.later hb3)
      clear hb3 x0 x1 X2 B2
      go_wp2_with fail
      refine (C2.out _).mono ?_
      rintro e w4 ⟨rfl, hb4⟩
      have B4 := Lib.hid (ba (bl B3.out hb4) (.cells #[.int .i64 a, .int .i64 b] 23))
      have X4 := Lib.hid ((X3.out.later hb4).later (ba (br _) (.cells #[.int .i64 a, .int .i64 b] 23)))
      clear X3 B3
      obtain ⟨_, x0, x1, _, _⟩ := X4.out
      go_wp2_with fail
      refine (C3.out _).mono ?_
      rintro e w5 ⟨rfl, hb5⟩
      have B5 := Lib.hid (bl B4.out hb5)
      clear x0 x1 X4 hb4 hb5 B4
      go_wp2_with fail
      go_meet
      exact B5
    · have hne1 : (e' == 0) = false := by simp [hne]
      clear hne mc
      go_wp2_with fail
      go_meet
      exact B2
  case rest =>
    have BW := hcut
    have HTW := Lib.hid (HT.out.later BW.out)
    clear hcut HT B2 X2 mc
    by_cases k : 40 < s.size
    · have k1 : (40 : Int) < (s.size : Int) := by omega
      go_wp2_with fail
      go_ret
      exact ⟨rfl, BW.out⟩
    · have k1 : ¬ (40 : Int) < (s.size : Int) := by omega
      obtain ⟨u, v, e', hp⟩ : ∃ u v e', parseV s.data.toList = (u, v, e') := ⟨_, _, _, rfl⟩
      have P := Lib.hid (fun U => parse_of U HS.out hp)
      by_cases h0 : e' = 0
      · subst h0
        obtain ⟨x1, x2⟩ := text_parse hp
        have T := Lib.hid (fun U hU => textlit u v s U hU (chk_valid x2) (by
          apply ByteArray.ext
          have : (textB u v).data.toList = s.data.toList := by rw [textB_list, x1]
          exact Array.ext' this))
        clear hp x1 x2
        go_wp2_with fail
        refine (P.out _).mono ?_
        rintro e w6 ⟨rfl, hb6⟩
        have B6 := Lib.hid (ba (bl BW.out hb6) (.cells #[.int .i64 u, .int .i64 v] 23))
        have T6 := Lib.hid ((HTW.out.later hb6).later (ba (br _) (.cells #[.int .i64 u, .int .i64 v] 23)))
        clear hb6 BW HTW
        go_wp2_with fail
        refine (T.out _ T6.out).mono ?_
        rintro e w7 ⟨rfl, hb7⟩
        have B7 := Lib.hid (bl B6.out hb7)
        clear hb7 B6 T6
        go_wp2_with fail
        go_ret
        exact ⟨rfl, B7.out⟩
      · have hne1 : (e' != 0) = true := by simp [h0]
        obtain ⟨rfl, rfl⟩ : u = 0 ∧ v = 0 := by
          rcases parse_err (l := s.data.toList) with x | x
          · rw [hp] at x; exact absurd x h0
          · rw [hp] at x; simp only [Prod.mk.injEq] at x; exact ⟨x.1, x.2.1⟩
        clear hp h0
        go_wp2_with fail
        refine (P.out _).mono ?_
        rintro e w6 ⟨rfl, hb6⟩
        have B6 := Lib.hid (ba (bl BW.out hb6) (.cells #[.int .i64 0, .int .i64 0] 23))
        clear hb6 BW HTW
        go_wp2_with fail
        go_ret
        exact ⟨rfl, B6.out⟩

end Go.Proofs.YtjgkliiofechfaaDoor
