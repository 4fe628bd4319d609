/- The time with a text: what span.Parse returns, for every text. -/
import Derived.Test.YtjgkliiofechfaaDoorNums
namespace Go.Proofs.YtjgkliiofechfaaDoor
open Go.RowKit

/-- What is made of one or two numbers. -/
def finP (two : Bool) (n d : Int) : Int × Int × Int :=
  if 1099511627776 < n ∨ 1048576 < d then (0, 0, 4) else if two = true ∧ d < 2 then (0, 0, 3) else if chk n d = 0 then (n, d, 0) else (0, 0, chk n d)

def parseV (l : List UInt8) : Int × Int × Int :=
  match numsL l 0 0 none with
  | none => (0, 0, 3)
  | some (none, n) => finP false n 1
  | some (some a, n) => finP true a n

theorem finP_long1 {two : Bool} {n d : Int} (h : 1099511627776 < n) : finP two n d = (0, 0, 4) := by unfold finP; rw [if_pos (.inl h)]
theorem finP_long2 {two : Bool} {n d : Int} (h : 1048576 < d) : finP two n d = (0, 0, 4) := by unfold finP; rw [if_pos (.inr h)]
theorem finP_small {n d : Int} (h : n ≤ 1099511627776) (j : d < 2) : finP true n d = (0, 0, 3) := by unfold finP; rw [if_neg (by omega), if_pos ⟨rfl, j⟩]
theorem finP_one {n d : Int} (h : n ≤ 1099511627776) (k : d ≤ 1048576) : finP false n d = if chk n d = 0 then (n, d, 0) else (0, 0, chk n d) := by unfold finP; rw [if_neg (by omega), if_neg (by simp)]
theorem finP_two {n d : Int} (h : n ≤ 1099511627776) (k : d ≤ 1048576) (j : 2 ≤ d) : finP true n d = if chk n d = 0 then (n, d, 0) else (0, 0, chk n d) := by unfold finP; rw [if_neg (by omega), if_neg (by omega)]

set_option maxHeartbeats 4000000 in
theorem parse_any (s : ByteArray) (w : World) (hs : s.size ≤ maxLen) :
    Calls Tryd.prog 36 #[.string s] w fun e w' => e = .returned (tev (parseV s.data.toList)) ∧ Below w.heap.size w w' := by
  have N := Lib.hid (fun W => nums_any s W hs)
  have hp := Lib.hid (show parseV s.data.toList = match numsL s.data.toList 0 0 none with | none => (0, 0, 3) | some (none, n) => finP false n 1 | some (some a, n) => finP true a n from rfl)
  generalize numsL s.data.toList 0 0 none = r at *
  cases r with
  | none =>
    go_enter Tryd.func36, Tryd.ntmps36
    go_wp2_with fail
    refine (N.out _).mono ?_
    rintro e w1 ⟨hb1, rfl⟩
    obtain ⟨i0, o0, o1, o2, o3⟩ := (Own2.made w 0 0 23).later hb1
    go_wp2_with fail
    refine bodyPost_ret (v := .tuple #[.agg #[.int .i64 0, .int .i64 0], .int .i64 3]) (by simp [results, Tryd.results36, go_sem, o0, o1]) rfl ⟨by rw [hp.out], ?_⟩
    exact bs (bs (bl (ba (br _) _) hb1) (by simp) _) (by simp) _
  | some p =>
    obtain ⟨f, n⟩ := p
    cases f with
    | none =>
      by_cases c1 : 1099511627776 < n
      · have hr := Lib.hid (show parseV s.data.toList = (0, 0, 4) by rw [hp.out]; exact finP_long1 c1)
        clear hp
        go_enter Tryd.func36, Tryd.ntmps36
        go_wp2_with fail
        refine (N.out _).mono ?_
        rintro e w1 ⟨hb1, g, cap, rfl, hcell⟩
        have hg := World.block_lt_of_cell? _ _ hcell
        obtain ⟨i0, o0, o1, o2, o3⟩ := (Own2.made w 0 0 23).later hb1
        go_wp2_with fail
        refine bodyPost_ret (v := .tuple #[.agg #[.int .i64 0, .int .i64 0], .int .i64 4]) (by simp [results, Tryd.results36, go_sem, o0, o1, i0]) rfl ⟨by rw [hr.out], ?_⟩
        exact by repeat (first | exact br _ | refine ba ?_ _ | refine bs ?_ (by first | (simp; done) | (simp; omega) | omega) _ | refine bl ?_ hb1)
      · have hv := Lib.hid (show parseV s.data.toList = if chk n 1 = 0 then (n, 1, 0) else (0, 0, chk n 1) by rw [hp.out]; exact finP_one (by omega) (by omega))
        clear hp
        have C := Lib.hid (fun W => check_any n 1 W)
        by_cases c9 : chk n 1 = 0
        · have hr := Lib.hid (show parseV s.data.toList = (n, 1, 0) by rw [hv.out, if_pos c9])
          rw [c9] at C
          clear hv c9
          go_enter Tryd.func36, Tryd.ntmps36
          go_wp2_with fail
          refine (N.out _).mono ?_
          rintro e w1 ⟨hb1, g, cap, rfl, hcell⟩
          have hg := World.block_lt_of_cell? _ _ hcell
          obtain ⟨i0, o0, o1, o2, o3⟩ := (Own2.made w 0 0 23).later hb1
          go_wp2_with fail
          refine (C.out _).mono ?_
          rintro e w2 ⟨rfl, hb2⟩
          have R2 := Lib.hid (((Own2.made w 0 0 23).later hb1).later (ba (br _) (.cells #[.int .i64 n, .int .i64 1] 23)))
          have S2 := Lib.hid ((Own2.made w1 n 1 23).later hb2)
          clear i0 o0 o1 o2 o3 hcell hg
          obtain ⟨i0, o0, o1, o2, o3⟩ := R2.out.later hb2
          obtain ⟨j0, p0, p1, p2, p3⟩ := S2.out
          go_wp2_with fail
          refine bodyPost_ret (v := .tuple #[.agg #[.int .i64 n, .int .i64 1], .int .i64 0]) (by simp [results, Tryd.results36, go_sem, o0, o1]) rfl ⟨by rw [hr.out], ?_⟩
          exact by repeat (first | exact br _ | refine ba ?_ _ | refine bs ?_ (by first | (simp; done) | (simp; omega) | omega) _ | refine bl ?_ hb2 | refine bl ?_ hb1)
        · have hr := Lib.hid (show parseV s.data.toList = (0, 0, chk n 1) by rw [hv.out, if_neg c9])
          have hne : (chk n 1 != 0) = true := by simp [c9]
          clear hv c9
          go_enter Tryd.func36, Tryd.ntmps36
          go_wp2_with fail
          refine (N.out _).mono ?_
          rintro e w1 ⟨hb1, g, cap, rfl, hcell⟩
          have hg := World.block_lt_of_cell? _ _ hcell
          obtain ⟨i0, o0, o1, o2, o3⟩ := (Own2.made w 0 0 23).later hb1
          go_wp2_with fail
          refine (C.out _).mono ?_
          rintro e w2 ⟨rfl, hb2⟩
          have R2 := Lib.hid (((Own2.made w 0 0 23).later hb1).later (ba (br _) (.cells #[.int .i64 n, .int .i64 1] 23)))
          have S2 := Lib.hid ((Own2.made w1 n 1 23).later hb2)
          clear i0 o0 o1 o2 o3 hcell hg
          obtain ⟨i0, o0, o1, o2, o3⟩ := R2.out.later hb2
          obtain ⟨j0, p0, p1, p2, p3⟩ := S2.out
          go_wp2_with fail
          refine bodyPost_ret (v := .tuple #[.agg #[.int .i64 0, .int .i64 0], .int .i64 (chk n 1)]) (by simp [results, Tryd.results36, go_sem, o0, o1]) rfl ⟨by rw [hr.out], ?_⟩
          exact by repeat (first | exact br _ | refine ba ?_ _ | refine bs ?_ (by first | (simp; done) | (simp; omega) | omega) _ | refine bl ?_ hb2 | refine bl ?_ hb1)
    | some a =>
      by_cases c1 : 1099511627776 < a
      · have hr := Lib.hid (show parseV s.data.toList = (0, 0, 4) by rw [hp.out]; exact finP_long1 c1)
        clear hp
        go_enter Tryd.func36, Tryd.ntmps36
        go_wp2_with fail
        refine (N.out _).mono ?_
        rintro e w1 ⟨hb1, g, cap, rfl, hcell, hcell2⟩
        have hg := World.block_lt_of_cell? _ _ hcell
        obtain ⟨i0, o0, o1, o2, o3⟩ := (Own2.made w 0 0 23).later hb1
        go_wp2_with fail
        refine bodyPost_ret (v := .tuple #[.agg #[.int .i64 0, .int .i64 0], .int .i64 4]) (by simp [results, Tryd.results36, go_sem, o0, o1, i0]) rfl ⟨by rw [hr.out], ?_⟩
        exact by repeat (first | exact br _ | refine ba ?_ _ | refine bs ?_ (by first | (simp; done) | (simp; omega) | omega) _ | refine bl ?_ hb1)
      by_cases c2 : 1048576 < n
      · have hr := Lib.hid (show parseV s.data.toList = (0, 0, 4) by rw [hp.out]; exact finP_long2 c2)
        clear hp
        go_enter Tryd.func36, Tryd.ntmps36
        go_wp2_with fail
        refine (N.out _).mono ?_
        rintro e w1 ⟨hb1, g, cap, rfl, hcell, hcell2⟩
        have hg := World.block_lt_of_cell? _ _ hcell
        obtain ⟨i0, o0, o1, o2, o3⟩ := (Own2.made w 0 0 23).later hb1
        go_wp2_with fail
        refine bodyPost_ret (v := .tuple #[.agg #[.int .i64 0, .int .i64 0], .int .i64 4]) (by simp [results, Tryd.results36, go_sem, o0, o1, i0]) rfl ⟨by rw [hr.out], ?_⟩
        exact by repeat (first | exact br _ | refine ba ?_ _ | refine bs ?_ (by first | (simp; done) | (simp; omega) | omega) _ | refine bl ?_ hb1)
      by_cases c3 : n < 2
      · have hr := Lib.hid (show parseV s.data.toList = (0, 0, 3) by rw [hp.out]; exact finP_small (by omega) c3)
        clear hp
        go_enter Tryd.func36, Tryd.ntmps36
        go_wp2_with fail
        refine (N.out _).mono ?_
        rintro e w1 ⟨hb1, g, cap, rfl, hcell, hcell2⟩
        have hg := World.block_lt_of_cell? _ _ hcell
        obtain ⟨i0, o0, o1, o2, o3⟩ := (Own2.made w 0 0 23).later hb1
        go_wp2_with fail
        refine bodyPost_ret (v := .tuple #[.agg #[.int .i64 0, .int .i64 0], .int .i64 3]) (by simp [results, Tryd.results36, go_sem, o0, o1, i0]) rfl ⟨by rw [hr.out], ?_⟩
        exact by repeat (first | exact br _ | refine ba ?_ _ | refine bs ?_ (by first | (simp; done) | (simp; omega) | omega) _ | refine bl ?_ hb1)
      · have hv := Lib.hid (show parseV s.data.toList = if chk a n = 0 then (a, n, 0) else (0, 0, chk a n) by rw [hp.out]; exact finP_two (by omega) (by omega) (by omega))
        clear hp
        have C := Lib.hid (fun W => check_any a n W)
        by_cases c9 : chk a n = 0
        · have hr := Lib.hid (show parseV s.data.toList = (a, n, 0) by rw [hv.out, if_pos c9])
          rw [c9] at C
          clear hv c9
          go_enter Tryd.func36, Tryd.ntmps36
          go_wp2_with fail
          refine (N.out _).mono ?_
          rintro e w1 ⟨hb1, g, cap, rfl, hcell, hcell2⟩
          have hg := World.block_lt_of_cell? _ _ hcell
          obtain ⟨i0, o0, o1, o2, o3⟩ := (Own2.made w 0 0 23).later hb1
          go_wp2_with fail
          refine (C.out _).mono ?_
          rintro e w2 ⟨rfl, hb2⟩
          have R2 := Lib.hid (((Own2.made w 0 0 23).later hb1).later (ba (br _) (.cells #[.int .i64 a, .int .i64 n] 23)))
          have S2 := Lib.hid ((Own2.made w1 a n 23).later hb2)
          clear i0 o0 o1 o2 o3 hcell hg
          obtain ⟨i0, o0, o1, o2, o3⟩ := R2.out.later hb2
          obtain ⟨j0, p0, p1, p2, p3⟩ := S2.out
          go_wp2_with fail
          refine bodyPost_ret (v := .tuple #[.agg #[.int .i64 a, .int .i64 n], .int .i64 0]) (by simp [results, Tryd.results36, go_sem, o0, o1]) rfl ⟨by rw [hr.out], ?_⟩
          exact by repeat (first | exact br _ | refine ba ?_ _ | refine bs ?_ (by first | (simp; done) | (simp; omega) | omega) _ | refine bl ?_ hb2 | refine bl ?_ hb1)
        · have hr := Lib.hid (show parseV s.data.toList = (0, 0, chk a n) by rw [hv.out, if_neg c9])
          have hne : (chk a n != 0) = true := by simp [c9]
          clear hv c9
          go_enter Tryd.func36, Tryd.ntmps36
          go_wp2_with fail
          refine (N.out _).mono ?_
          rintro e w1 ⟨hb1, g, cap, rfl, hcell, hcell2⟩
          have hg := World.block_lt_of_cell? _ _ hcell
          obtain ⟨i0, o0, o1, o2, o3⟩ := (Own2.made w 0 0 23).later hb1
          go_wp2_with fail
          refine (C.out _).mono ?_
          rintro e w2 ⟨rfl, hb2⟩
          have R2 := Lib.hid (((Own2.made w 0 0 23).later hb1).later (ba (br _) (.cells #[.int .i64 a, .int .i64 n] 23)))
          have S2 := Lib.hid ((Own2.made w1 a n 23).later hb2)
          clear i0 o0 o1 o2 o3 hcell hg
          obtain ⟨i0, o0, o1, o2, o3⟩ := R2.out.later hb2
          obtain ⟨j0, p0, p1, p2, p3⟩ := S2.out
          go_wp2_with fail
          refine bodyPost_ret (v := .tuple #[.agg #[.int .i64 0, .int .i64 0], .int .i64 (chk a n)]) (by simp [results, Tryd.results36, go_sem, o0, o1]) rfl ⟨by rw [hr.out], ?_⟩
          exact by repeat (first | exact br _ | refine ba ?_ _ | refine bs ?_ (by first | (simp; done) | (simp; omega) | omega) _ | refine bl ?_ hb2 | refine bl ?_ hb1)

end Go.Proofs.YtjgkliiofechfaaDoor
