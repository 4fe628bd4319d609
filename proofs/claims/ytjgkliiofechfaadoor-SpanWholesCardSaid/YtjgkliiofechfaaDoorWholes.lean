/- The statement SpanWholes returns true at every input: the walk. -/
import Derived.Test.YtjgkliiofechfaaDoorAwake
namespace Go.Proofs.YtjgkliiofechfaaDoor
open Go.RowKit

set_option maxHeartbeats 2000000 in
theorem wholes_any (a b c d : Int) (w : World) :
    Calls Tryd.prog 6 #[tv a b, tv c d] w fun e w' => e = .returned (.bool true) ∧ Below w.heap.size w w' := by
  obtain ⟨q, hq⟩ : ∃ q, wholeQ a b c d = q := ⟨_, rfl⟩
  obtain ⟨n', d', e', hm⟩ : ∃ n' d' e', wholeR a b c d = (n', d', e') := ⟨_, _, _, rfl⟩
  have M := Lib.hid (fun W => whole_any a b c d W)
  have R := Lib.hid (fun W => rwhole_any a b c d W)
  rw [hm, hq] at M R
  clear hm hq
  have A := Lib.hid awake_any
  go_enter Tryd.func6, Tryd.ntmps6
  go_wp2_with fail
  refine (M.out _).mono ?_
  rintro e w1 ⟨rfl, hb1⟩
  have B1 := Lib.hid (ba (bl (ba (ba (br w) _) _) hb1) (.cells #[.int .i64 n', .int .i64 d'] 23))
  have P1 := Lib.hid (Own2.made w1 n' d' 23)
  obtain ⟨hc1, hf1⟩ := bcell hb1
  have hz1 : w.heap.size + 1 < w1.heap.size := by have := hb1.size; simp at this; omega
  have hz0 : w.heap.size < w1.heap.size := by omega
  go_wp2_with fail
  refine (R.out _).mono ?_
  rintro e w2 ⟨rfl, hb2⟩
  have B2 := Lib.hid (ba (bl B1.out hb2) (.cells #[.int .i64 n', .int .i64 d'] 23))
  have P2 := Lib.hid ((P1.out.later hb2).later (ba (br w2) (.cells #[.int .i64 n', .int .i64 d'] 23)))
  obtain ⟨_, p0, p1, _, _⟩ := P1.out.later hb2
  clear hb1 hc1 hf1 hb2 B1 P1
  go_wp2_with fail
  refine (A.out _).mono ?_
  rintro e w3 ⟨rfl, hb3⟩
  have B3 := Lib.hid (bl B2.out hb3)
  go_wp2_with fail
  go_ret
  exact ⟨rfl, B3.out⟩

end Go.Proofs.YtjgkliiofechfaaDoor
