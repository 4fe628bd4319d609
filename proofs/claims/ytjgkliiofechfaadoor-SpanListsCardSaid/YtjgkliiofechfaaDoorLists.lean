/- The statement SpanLists returns true at every input: the walk. -/
import Derived.Test.YtjgkliiofechfaaDoorRefS
import Derived.Test.YtjgkliiofechfaaDoorAwake
namespace Go.Proofs.YtjgkliiofechfaaDoor
open Go.RowKit

set_option maxHeartbeats 4000000 in
theorem lists_any (p : Option Addr) (cap : Nat) (l : List (Int × Int)) (w : World) (hp : TimesP w p cap l) :
    Calls Tryd.prog 5 #[.slice p l.length cap] w fun e w' => e = .returned (.bool true) ∧ Below w.heap.size w w' := by
  have A := Lib.hid awake_any
  have f1 := hp.fit
  have m1 := hp.max
  have HP := Lib.hid hp
  clear hp
  obtain ⟨u, v, e', hs⟩ : ∃ u v e', sumV l = (u, v, e') := ⟨_, _, _, rfl⟩
  have S1 := Lib.hid (fun q cq W hW => by have := sumv_any q cq l W hW; rw [hs] at this; exact this)
  have S2 := Lib.hid (fun q cq W hW => by have := rsum_any q cq l W hW; rw [hs] at this; exact this)
  clear hs
  by_cases h : 80 < l.length
  · have h1 : (80 : Int) < (l.length : Int) := by omega
    go_enter Tryd.func5, Tryd.ntmps5
    go_wp2_with fail
    refine (A.out _).mono ?_
    rintro e w1 ⟨rfl, hb1⟩
    have B1 := Lib.hid hb1
    clear hb1
    go_wp2_with fail
    go_ret
    exact ⟨rfl, B1.out⟩
  · have h1 : ¬ (80 : Int) < (l.length : Int) := by omega
    go_enter Tryd.func5, Tryd.ntmps5
    go_wp2_with fail
    refine (own_any p cap l _ HP.out (by omega)).mono ?_
    rintro e w1 ⟨v', rfl, hown, hb1⟩
    obtain ⟨q, cq, rfl, hq⟩ := of_own hown
    have HQ := Lib.hid hq
    have B1 := Lib.hid hb1
    have P1 := Lib.hid (HP.out.later hb1)
    clear hown hq hb1 HP
    go_wp2_with fail
    refine (S1.out q cq _ HQ.out).mono ?_
    rintro e w2 ⟨rfl, hb2⟩
    have B2 := Lib.hid (ba (bl B1.out hb2) (.cells #[.int .i64 u, .int .i64 v] 23))
    have P2 := Lib.hid ((P1.out.later hb2).later (ba (br _) (.cells #[.int .i64 u, .int .i64 v] 23)))
    have Q2 := Lib.hid ((HQ.out.later hb2).later (ba (br _) (.cells #[.int .i64 u, .int .i64 v] 23)))
    have X2 := Lib.hid (Own2.made w2 u v 23)
    clear hb2 B1 P1 HQ
    go_wp2_with fail
    refine (S2.out p cap _ P2.out).mono ?_
    rintro e w3 ⟨rfl, hb3⟩
    have B3 := Lib.hid (ba (bl B2.out hb3) (.cells #[.int .i64 u, .int .i64 v] 23))
    have P3 := Lib.hid ((P2.out.later hb3).later (ba (br _) (.cells #[.int .i64 u, .int .i64 v] 23)))
    have Q3 := Lib.hid ((Q2.out.later hb3).later (ba (br _) (.cells #[.int .i64 u, .int .i64 v] 23)))
    have X3 := Lib.hid ((X2.out.later hb3).later (ba (br _) (.cells #[.int .i64 u, .int .i64 v] 23)))
    have Y3 := Lib.hid (Own2.made w3 u v 23)
    clear hb3 B2 P2 Q2 X2
    obtain ⟨_, x0, x1, _, _⟩ := X3.out
    obtain ⟨_, y0, y1, _, _⟩ := Y3.out
    go_wp2_with fail
    refine (same_any q p cq cap l _ Q3.out P3.out).mono ?_
    rintro e w4 ⟨rfl, hb4⟩
    have B4 := Lib.hid (bl B3.out hb4)
    clear hb4 B3 x0 x1 y0 y1 X3 Y3 P3 Q3
    go_wp2_with fail
    refine (A.out _).mono ?_
    rintro e w5 ⟨rfl, hb5⟩
    have B5 := Lib.hid (bl B4.out hb5)
    clear hb5 B4
    go_wp2_with fail
    go_ret
    exact ⟨rfl, B5.out⟩

end Go.Proofs.YtjgkliiofechfaaDoor
