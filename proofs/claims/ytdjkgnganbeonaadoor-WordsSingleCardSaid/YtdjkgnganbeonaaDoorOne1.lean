/- The law on names, numbers and pairs of one text. -/
import Derived.Test.YtdjkgnganbeonaaDoorWake
import Derived.WalkSmall
namespace Go.Proofs.YtdjkgnganbeonaaDoor
open Go.RowKit

theorem numRes_shape (o : Option Int) : ∃ n b, numRes o = .tuple #[.int .i64 n, .bool b] := by cases o <;> exact ⟨_, _, rfl⟩
theorem signedRes_shape (l : List UInt8) : ∃ n b, signedRes l = .tuple #[.int .i64 n, .bool b] := by
  unfold signedRes
  split
  · split <;> exact ⟨_, _, rfl⟩
  · exact numRes_shape _
theorem pairRes_shape (s : ByteArray) (c : Int) : ∃ x y b, pairRes s c = .tuple #[.string x, .string y, .bool b] := by unfold pairRes; split <;> exact ⟨_, _, _, rfl⟩

set_option maxRecDepth 100000 in
set_option maxHeartbeats 4000000 in
theorem single_any (s : ByteArray) (c : Int) (w : World) (hm : s.size ≤ maxLen) (c0 : 0 ≤ c) (c1 : c ≤ 255) : Calls Tryd.prog 5 #[.string s, .int .u8 c] w fun e w' => e = .returned (.bool true) ∧ Below w.heap.size w w' := by
  have hm' := hm
  unfold maxLen at hm'
  by_cases hs : s.size ≤ 1000
  · obtain ⟨n1, b1, e1⟩ := numRes_shape (numberV s.data.toList)
    obtain ⟨n2, b2, e2⟩ := signedRes_shape s.data.toList
    obtain ⟨x3, y3, b3, e3⟩ := pairRes_shape s c
    have A1 := Lib.hid (fun W => wnumber_any s W hm)
    have A2 := Lib.hid (fun W => rnumber_any s W hm)
    have B1 := Lib.hid (fun W => wname_any s W hm)
    have B2 := Lib.hid (fun W => rname_any s W hm)
    have C1 := Lib.hid (fun W => wsigned_any s W hm)
    have C2 := Lib.hid (fun W => rsigned_any s W hm)
    have D1 := Lib.hid (fun W => wpair_any s c W (by omega) c0 c1)
    have D2 := Lib.hid (fun W => rpair_any s c W hm)
    rw [e1] at A1 A2
    rw [e2] at C1 C2
    rw [e3] at D1 D2
    clear e1 e2 e3
    generalize nameV s.data.toList = b4 at B1 B2
    go_enter Tryd.func5, Tryd.ntmps5
    go_wp2_with fail
    refine (A1.out _).mono ?_
    rintro e w1 ⟨rfl, rfl⟩
    go_wp2_with fail
    refine (A2.out _).mono ?_
    rintro e w1 ⟨rfl, rfl⟩
    go_wp2_with fail
    refine (B1.out _).mono ?_
    rintro e w1 ⟨rfl, rfl⟩
    go_wp2_with fail
    refine (B2.out _).mono ?_
    rintro e w1 ⟨rfl, rfl⟩
    go_wp2_with fail
    refine (C1.out _).mono ?_
    rintro e w1 ⟨rfl, rfl⟩
    go_wp2_with fail
    refine (C2.out _).mono ?_
    rintro e w1 ⟨rfl, rfl⟩
    go_wp2_with fail
    refine (D1.out _).mono ?_
    rintro e w1 ⟨rfl, hb1⟩
    have hb := Lib.hid hb1
    clear hb1
    go_wp2_with fail
    refine (D2.out _).mono ?_
    rintro e w2 ⟨n, rfl, rfl⟩
    have hb2 := Lib.hid (below_drewN hb.out n)
    clear hb
    go_wp2_with fail
    refine (wake_any _).mono ?_
    rintro e w3 ⟨rfl, hb3⟩
    have hb4 := Lib.hid (w_below hb2.out hb3)
    clear hb2 hb3
    go_wp2_with fail
    go_ret
    exact ⟨rfl, hb4.out⟩
  · go_enter Tryd.func5, Tryd.ntmps5
    go_wp2_with fail
    refine (wake_any _).mono ?_
    rintro e w1 ⟨rfl, hb1⟩
    go_wp2_with fail
    go_ret
    exact ⟨rfl, hb1⟩

end Go.Proofs.YtdjkgnganbeonaaDoor
