/- MensTexts returns true: texts of mensurations, and mensurations of texts and of numbers, are the reference's. -/
import Derived.Test.YtflgmeajkflobaaDoorMKnown
namespace Go.Proofs.YtflgmeajkflobaaDoor
open Go.RowKit

set_option maxRecDepth 100000 in
set_option maxHeartbeats 8000000 in
theorem ltexts_any (q : Q4) (t : ByteArray) (n : Int) (w : World) : Calls Tryd.prog 4 #[mv q, .string t, .int .i64 n] w fun e w' => e = .returned (.bool true) ∧ Below w.heap.size w w' := by
  have AW := Lib.hid (fun W => awake_any W)
  have hB := Lib.hid (w_alloc (w_refl w) (mO q))
  by_cases h : 3000 < t.size
  · have h' : (3000 : Int) < t.size := by omega
    clear h
    obtain ⟨a, b, c, d⟩ := q
    go_enter Tryd.func4, Tryd.ntmps4
    go_wp2_with fail
    refine (AW.out _).mono ?_
    rintro e w1 ⟨rfl, hb⟩
    replace hB := Lib.hid (w_below hB.out hb)
    clear hb AW
    go_wp2_with fail
    go_ret
    exact ⟨rfl, hB.out⟩
  have h' : ¬ ((3000 : Int) < t.size) := by omega
  have hm : t.size ≤ maxLen := by unfold maxLen; omega
  have C1 := Lib.hid (fun W => text_any q W)
  have C2 := Lib.hid (fun W => rtext_any q W)
  have C3 := Lib.hid (fun W => parse_any t hm W)
  have C4 := Lib.hid (fun W => rparse_any t W)
  have C5 := Lib.hid (fun W => of_any n W)
  have C6 := Lib.hid (fun W => rof_any n W)
  have K := Lib.hid (Cell4.made w q 23)
  unfold TexPost at C1 C2
  unfold ParPost at C3 C4
  unfold OfPost at C5 C6
  clear h hm
  generalize texS q = ts at *
  generalize chkM q = ch at *
  generalize parQ t = pq at *
  generalize parE t = pe at *
  generalize ofQ n = oq at *
  generalize ofE n = oe at *
  obtain ⟨a, b, c, d⟩ := q
  obtain ⟨p0, p1, p2, p3⟩ := pq
  obtain ⟨o0, o1, o2, o3⟩ := oq
  go_enter Tryd.func4, Tryd.ntmps4
  go_wp2_with fail
  refine (C1.out _).mono ?_
  rintro e w1 ⟨rfl, hb⟩
  have hbX := hb
  replace hB := Lib.hid (w_below hB.out hbX)
  replace K := Lib.hid (K.out.later hbX)
  clear hb hbX
  obtain ⟨_, c0, c1, c2, c3, _, _, _, _⟩ := K.out
  simp only at c0 c1 c2 c3
  go_wp2_with fail
  clear c0 c1 c2 c3
  refine (C2.out _).mono ?_
  rintro e w2 ⟨rfl, hb⟩
  have hbX := hb
  replace hB := Lib.hid (w_below hB.out hbX)
  replace K := Lib.hid (K.out.later hbX)
  clear hb hbX
  clear K
  go_wp2_with fail
  refine (C3.out _).mono ?_
  rintro e w3 ⟨rfl, hb⟩
  have hbX := w_alloc hb (mO (p0, p1, p2, p3))
  replace hB := Lib.hid (w_below hB.out hbX)
  have K1 := Lib.hid (Cell4.made w3 (p0, p1, p2, p3) 23)
  clear hb hbX
  go_wp2_with fail
  refine (C4.out _).mono ?_
  rintro e w4 ⟨rfl, hb⟩
  have hbX := w_alloc hb (mO (p0, p1, p2, p3))
  replace hB := Lib.hid (w_below hB.out hbX)
  replace K1 := Lib.hid (K1.out.later hbX)
  have K2 := Lib.hid (Cell4.made w4 (p0, p1, p2, p3) 23)
  clear hb hbX
  go_wp2_with fail
  refine (C5.out _).mono ?_
  rintro e w5 ⟨rfl, hb⟩
  have hbX := w_alloc hb (mO (o0, o1, o2, o3))
  replace hB := Lib.hid (w_below hB.out hbX)
  replace K1 := Lib.hid (K1.out.later hbX)
  replace K2 := Lib.hid (K2.out.later hbX)
  have K3 := Lib.hid (Cell4.made w5 (o0, o1, o2, o3) 23)
  clear hb hbX
  go_wp2_with fail
  refine (C6.out _).mono ?_
  rintro e w6 ⟨rfl, hb⟩
  have hbX := w_alloc hb (mO (o0, o1, o2, o3))
  replace hB := Lib.hid (w_below hB.out hbX)
  replace K1 := Lib.hid (K1.out.later hbX)
  replace K2 := Lib.hid (K2.out.later hbX)
  replace K3 := Lib.hid (K3.out.later hbX)
  have K4 := Lib.hid (Cell4.made w6 (o0, o1, o2, o3) 23)
  clear hb hbX
  obtain ⟨_, x10, x11, x12, x13, _, _, _, _⟩ := K1.out
  obtain ⟨_, x20, x21, x22, x23, _, _, _, _⟩ := K2.out
  obtain ⟨_, x30, x31, x32, x33, _, _, _, _⟩ := K3.out
  obtain ⟨_, x40, x41, x42, x43, _, _, _, _⟩ := K4.out
  simp only at x10 x11 x12 x13 x20 x21 x22 x23 x30 x31 x32 x33 x40 x41 x42 x43
  clear K1 K2 K3 K4
  go_wp2_with fail
  refine (AW.out _).mono ?_
  rintro e w9 ⟨rfl, hb⟩
  replace hB := Lib.hid (w_below hB.out hb)
  clear hb AW
  go_wp2_with fail
  go_ret
  exact ⟨rfl, hB.out⟩

end Go.Proofs.YtflgmeajkflobaaDoor
