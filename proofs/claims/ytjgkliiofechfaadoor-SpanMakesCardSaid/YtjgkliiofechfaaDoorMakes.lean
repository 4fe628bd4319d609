/- The statement SpanMakes returns true at every input: the walk. -/
import Derived.Test.YtjgkliiofechfaaDoorAwake
namespace Go.Proofs.YtjgkliiofechfaaDoor
open Go.RowKit

set_option maxHeartbeats 2000000 in
theorem makes_any (n d x y : Int) (w : World) (hn : n ≤ 9223372036854775807) (hd : d ≤ 9223372036854775807) :
    Calls Tryd.prog 3 #[.int .i64 n, .int .i64 d, .int .i64 x, .int .i64 y] w fun e w' => e = .returned (.bool true) ∧ Below w.heap.size w w' := by
  obtain ⟨n', d', e', hm⟩ : ∃ n' d' e', makeV n d = (n', d', e') := ⟨_, _, _, rfl⟩
  have M := Lib.hid (fun W => make_any n d W hn hd)
  have R := Lib.hid (fun W => rmake_any n d W hn hd)
  rw [hm] at M R
  clear hm
  have C := Lib.hid (fun W => check_any x y W)
  have D := Lib.hid (fun W => rcheck_any x y W)
  generalize chk x y = k at *
  go_enter Tryd.func3, Tryd.ntmps3
  go_wp2_with fail
  refine (M.out _).mono ?_
  rintro e w1 ⟨rfl, hb1⟩
  have B1 := Lib.hid (ba (bl (br w) hb1) (.cells #[.int .i64 n', .int .i64 d'] 23))
  have P1 := Lib.hid (Own2.made w1 n' d' 23)
  clear hb1
  go_wp2_with fail
  refine (R.out _).mono ?_
  rintro e w2 ⟨rfl, hb2⟩
  have B2 := Lib.hid (ba (bl B1.out hb2) (.cells #[.int .i64 n', .int .i64 d'] 23))
  have P2 := Lib.hid ((P1.out.later hb2).later (ba (br w2) (.cells #[.int .i64 n', .int .i64 d'] 23)))
  have Q2 := Lib.hid (Own2.made w2 n' d' 23)
  clear hb2 B1 P1
  go_wp2_with fail
  have B3 := Lib.hid (ba B2.out (.cells #[.int .i64 x, .int .i64 y] 23))
  have P3 := Lib.hid (P2.out.later (ba (br _) (.cells #[.int .i64 x, .int .i64 y] 23)))
  have Q3 := Lib.hid (Q2.out.later (ba (br _) (.cells #[.int .i64 x, .int .i64 y] 23)))
  have R3 := Lib.hid (Own2.made (w2.alloc (.cells #[.int .i64 n', .int .i64 d'] 23)) x y 23)
  simp only [World.size_alloc] at R3
  clear B2 P2 Q2
  generalize (w2.alloc (.cells #[.int .i64 n', .int .i64 d'] 23)).alloc (.cells #[.int .i64 x, .int .i64 y] 23) = W at *
  obtain ⟨_, p0, p1, _, _⟩ := P3.out
  obtain ⟨_, q0, q1, _, _⟩ := Q3.out
  obtain ⟨_, r0, r1, _, _⟩ := R3.out
  have A := Lib.hid awake_any
  go_region_held3 (fun w' => w'.cell? ⟨w1.heap.size, 0, none⟩ = some (.int .i64 n') ∧ w'.cell? ⟨w1.heap.size, 1, none⟩ = some (.int .i64 d') ∧
      w'.cell? ⟨w2.heap.size, 0, none⟩ = some (.int .i64 n') ∧ w'.cell? ⟨w2.heap.size, 1, none⟩ = some (.int .i64 d') ∧
      w'.cell? ⟨w2.heap.size + 1, 0, none⟩ = some (.int .i64 x) ∧ w'.cell? ⟨w2.heap.size + 1, 1, none⟩ = some (.int .i64 y) ∧ Below w.heap.size w w')
    (first
      | exact ⟨p0, p1, q0, q1, r0, r1, B3.out.drew⟩
      | (go_split_ands
         exact ⟨cell_keep hbx ‹_›, cell_keep hbx ‹_›, cell_keep hbx ‹_›, cell_keep hbx ‹_›, cell_keep hbx ‹_›, cell_keep hbx ‹_›, bl ‹_› hbx⟩))
    (first
      | (go_at_call 15; (with_reducible refine (C.out _).mono ?_); rintro e wx ⟨rfl, hbx⟩)
      | (go_at_call 16; (with_reducible refine (D.out _).mono ?_); rintro e wx ⟨rfl, hbx⟩)
      | (go_at_call 17; (with_reducible refine (A.out _).mono ?_); rintro e wx ⟨rfl, hbx⟩))
  have hend : Below w.heap.size w wx := by
    go_split_ands
    assumption
  go_wp2_with fail
  go_ret
  exact ⟨rfl, hend⟩

end Go.Proofs.YtjgkliiofechfaaDoor
