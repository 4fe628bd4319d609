/- The text of a time, for every time: what span.Text returns. -/
import Derived.Test.YtjgkliiofechfaaDoorDigits
import Derived.Lib.LaidTab
namespace Go.Proofs.YtjgkliiofechfaaDoor
open Go.RowKit

/-- The library's table of powers is as its text lays it. -/
def Tab (w : World) : Prop := Lib.TabIs Tryd.prog w "internal/strconv.uint64pow10" .u64 Lib.pow10Tab

theorem gTab0 : Tryd.prog.globalNamed "internal/strconv.uint64pow10" = some 0 := by kernel_rfl

theorem Tab.later {w w' : World} (h : Tab w) (hb : Below w.heap.size w w') : Tab w' := by
  have h0 : 0 < w.heap.size := by
    unfold Tab Lib.TabIs World.var? at h
    simp only [gTab0, Option.bind_some] at h
    by_cases hz : 0 < w.heap.size
    · exact hz
    · have : w.heap[0]? = none := Array.getElem?_eq_none (by omega)
      rw [this] at h; simp at h
  exact var?_below hb gTab0 h0 h

theorem below_grow (w : World) (k : Nat) (os : Array Obj) : Below w.heap.size w (Go.Sort.grow (w.drewN k) os) :=
  ⟨rfl, rfl, rfl, by show w.heap.size ≤ (w.heap ++ os).size; rw [Array.size_append]; omega, fun i hi => by
    show (w.heap ++ os)[i]? = _
    rw [Array.getElem?_append_left hi]⟩

/-- The digits of a number from 0 on, as a string. -/
def digB (n : Int) : ByteArray := ⟨(Lib.decDigits n.toNat).toArray⟩

theorem digB_size (n : Int) (h : n ≤ 1099511627776) : (digB n).size ≤ 13 := by
  have := dig_len 12 n.toNat (by omega)
  show (Lib.decDigits n.toNat).toArray.size ≤ 13
  simpa using this

theorem itoa_any (n : Int) (w : World) (h0 : 0 ≤ n) (h1 : n ≤ 1099511627776) (ht : Tab w) :
    Calls Tryd.prog 54 #[.int .i64 n] w fun e w' => e = .returned (.string (digB n)) ∧ Below w.heap.size w w' := by
  refine (Tryd.strconv_Itoa n (by omega) (by omega) w ht).mono ?_
  rintro e w' ⟨rfl, k, os, rfl⟩
  refine ⟨?_, below_grow w k os⟩
  rw [show Lib.itoa n = Lib.decDigits n.toNat by unfold Lib.itoa; rw [if_neg (by omega)]]; rfl

/-- The text of a time, as a string; none where it isn't valid. -/
def textB (n d : Int) : ByteArray := ⟨(textL n d).toArray⟩
def textR (n d : Int) : ByteArray := if chk n d = 0 then textB n d else ⟨#[]⟩

theorem textB_one {n d : Int} (h : ¬ 1 < d) : textB n d = digB n := by unfold textB textL digB; rw [if_neg h]
theorem textB_two {n d : Int} (h : 1 < d) : textB n d = digB n ++ (⟨#[47]⟩ ++ digB d) := by
  unfold textB textL digB; rw [if_pos h]
  apply ByteArray.ext
  simp [ByteArray.data_append]
theorem textB_two' {n d : Int} (h : 1 < d) : textB n d = digB n ++ ⟨#[47]⟩ ++ digB d := by
  unfold textB textL digB; rw [if_pos h]
  apply ByteArray.ext
  simp [ByteArray.data_append]
theorem textB_list (n d : Int) : (textB n d).data.toList = textL n d := by unfold textB; simp

set_option maxHeartbeats 1000000 in
theorem text_any (n d : Int) (w : World) (ht : Tab w) :
    Calls Tryd.prog 34 #[tv n d] w fun e w' => e = .returned (.tuple #[.string (textR n d), .int .i64 (chk n d)]) ∧ Below w.heap.size w w' := by
  have C := Lib.hid (fun W => check_any n d W)
  by_cases h : chk n d = 0
  · have v := valid_of_chk h
    have n0 := v.n0
    have n1 := v.n1
    have d0 := v.d0
    have d1 := v.d1
    have hr := Lib.hid (show textR n d = textB n d by unfold textR; rw [if_pos h])
    rw [h] at C
    have z1 := digB_size n n1
    have z2 := digB_size d (by omega)
    have T1 := Lib.hid (fun W hW => itoa_any n W n0 n1 hW)
    have T2 := Lib.hid (fun W hW => itoa_any d W (by omega) (by omega) hW)
    have H := Lib.hid h
    have HT := Lib.hid ht
    clear v h ht
    by_cases k : 1 < d
    · have ht2 := Lib.hid (textB_two (n := n) k)
      go_enter Tryd.func34, Tryd.ntmps34
      go_wp2_with fail
      refine (C.out _).mono ?_
      rintro e w1 ⟨rfl, hb1⟩
      have X1 := Lib.hid ((Own2.made w n d 23).later hb1)
      have B1 := Lib.hid (bl (ba (br w) (.cells #[.int .i64 n, .int .i64 d] 23)) hb1)
      clear hb1
      obtain ⟨_, x0, x1, _, _⟩ := X1.out
      go_wp2_with fail
      refine (T1.out _ (HT.out.later B1.out)).mono ?_
      rintro e w2 ⟨rfl, hb2⟩
      have X2 := Lib.hid (X1.out.later hb2)
      have B2 := Lib.hid (bl B1.out hb2)
      clear hb2 x0 x1 X1 B1
      obtain ⟨_, x0, x1, _, _⟩ := X2.out
      go_wp2_with fail
      refine (T2.out _ (HT.out.later B2.out)).mono ?_
      rintro e w3 ⟨rfl, hb3⟩
      have B3 := Lib.hid (bl B2.out hb3)
      clear hb3 x0 x1 X2 B2
      go_wp2_with fail
      go_ret2
      rw [hr.out, ht2.out, H.out]
      exact ⟨rfl, B3.out⟩
    · have ht2 := Lib.hid (textB_one (n := n) k)
      go_enter Tryd.func34, Tryd.ntmps34
      go_wp2_with fail
      refine (C.out _).mono ?_
      rintro e w1 ⟨rfl, hb1⟩
      have X1 := Lib.hid ((Own2.made w n d 23).later hb1)
      have B1 := Lib.hid (bl (ba (br w) (.cells #[.int .i64 n, .int .i64 d] 23)) hb1)
      clear hb1
      obtain ⟨_, x0, x1, _, _⟩ := X1.out
      go_wp2_with fail
      refine (T1.out _ (HT.out.later B1.out)).mono ?_
      rintro e w2 ⟨rfl, hb2⟩
      have X2 := Lib.hid (X1.out.later hb2)
      have B2 := Lib.hid (bl B1.out hb2)
      clear hb2 x0 x1 X1 B1
      obtain ⟨_, x0, x1, _, _⟩ := X2.out
      go_wp2_with fail
      go_ret2
      rw [hr.out, ht2.out, H.out]
      exact ⟨rfl, B2.out⟩
  · have hr := Lib.hid (show textR n d = ⟨#[]⟩ by unfold textR; rw [if_neg h])
    have hne : (chk n d != 0) = true := by simp [h]
    clear h ht
    go_enter Tryd.func34, Tryd.ntmps34
    go_wp2_with fail
    refine (C.out _).mono ?_
    rintro e w1 ⟨rfl, hb1⟩
    have B1 := Lib.hid (bl (ba (br w) (.cells #[.int .i64 n, .int .i64 d] 23)) hb1)
    clear hb1
    go_wp2_with fail
    go_ret2
    rw [hr.out]
    exact ⟨rfl, B1.out⟩

end Go.Proofs.YtjgkliiofechfaaDoor
