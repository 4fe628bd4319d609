/- The statement SpanSums returns true at every input: the walk. -/
import Derived.Test.YtjgkliiofechfaaDoorAwake
namespace Go.Proofs.YtjgkliiofechfaaDoor
open Go.RowKit

theorem Own2.other {w : World} {b b' : Nat} {n d : Int} {u v : Value} (h : Own2 w b n d) (hne : b ≠ b') : Own2 ((w.setCell ⟨b', 0, none⟩ u).setCell ⟨b', 1, none⟩ v) b n d := by
  have hk : ((w.setCell ⟨b', 0, none⟩ u).setCell ⟨b', 1, none⟩ v).heap[b]? = w.heap[b]? :=
    (Below.heap_setCell _ ⟨b', 1, none⟩ v b hne).trans (Below.heap_setCell _ ⟨b', 0, none⟩ u b hne)
  obtain ⟨hi, c0, c1, f0, f1⟩ := h
  exact ⟨by simpa [World.setCell] using hi, (World.cell?_of_block (w := w) (a := ⟨b, 0, none⟩) hk).trans c0, (World.cell?_of_block (w := w) (a := ⟨b, 1, none⟩) hk).trans c1, (World.frozen?_of_block (w := w) (a := ⟨b, 0, none⟩) hk).trans f0, (World.frozen?_of_block (w := w) (a := ⟨b, 1, none⟩) hk).trans f1⟩

/-- Two arguments in their boxes, two results in theirs. -/
structure Four (w W : World) (pa pb ps pt : Nat) (a b c d n m : Int) (k l : Int) : Prop where
  A : Own2 W pa a b
  B : Own2 W pb c d
  S : Own2 W ps n m
  T : Own2 W pt k l
  xas : pa ≠ ps
  xbs : pb ≠ ps
  xat : pa ≠ pt
  xbt : pb ≠ pt
  xst : ps ≠ pt
  ws : w.heap.size ≤ ps
  wt : w.heap.size ≤ pt
  bel : Below w.heap.size w W

theorem Four.call {w W W1 : World} {pa pb ps pt : Nat} {a b c d n m k l : Int} (h : Four w W pa pb ps pt a b c d n m k l) (hb : Below W.heap.size W W1) : Four w W1 pa pb ps pt a b c d n m k l :=
  ⟨h.A.later hb, h.B.later hb, h.S.later hb, h.T.later hb, h.xas, h.xbs, h.xat, h.xbt, h.xst, h.ws, h.wt, bl h.bel hb⟩

theorem Four.setS {w W : World} {pa pb ps pt : Nat} {a b c d n m k l n' m' : Int} (h : Four w W pa pb ps pt a b c d n m k l) :
    Four w ((W.setCell ⟨ps, 0, none⟩ (.int .i64 n')).setCell ⟨ps, 1, none⟩ (.int .i64 m')) pa pb ps pt a b c d n' m' k l :=
  ⟨h.A.other h.xas, h.B.other h.xbs, h.S.set, h.T.other h.xst.symm, h.xas, h.xbs, h.xat, h.xbt, h.xst, h.ws, h.wt, bs (bs h.bel h.ws _) h.ws _⟩

theorem Four.setT {w W : World} {pa pb ps pt : Nat} {a b c d n m k l n' m' : Int} (h : Four w W pa pb ps pt a b c d n m k l) :
    Four w ((W.setCell ⟨pt, 0, none⟩ (.int .i64 n')).setCell ⟨pt, 1, none⟩ (.int .i64 m')) pa pb ps pt a b c d n m n' m' :=
  ⟨h.A.other h.xat, h.B.other h.xbt, h.S.other h.xst, h.T.set, h.xas, h.xbs, h.xat, h.xbt, h.xst, h.ws, h.wt, bs (bs h.bel h.wt _) h.wt _⟩

set_option maxHeartbeats 4000000 in
theorem sums_any (a b c d : Int) (w : World) :
    Calls Tryd.prog 4 #[tv a b, tv c d] w fun e w' => e = .returned (.bool true) ∧ Below w.heap.size w w' := by
  obtain ⟨n1, m1, e1, h1⟩ : ∃ n' d' e', addV a b c d = (n', d', e') := ⟨_, _, _, rfl⟩
  obtain ⟨n2, m2, e2, h2⟩ : ∃ n' d' e', subV a b c d = (n', d', e') := ⟨_, _, _, rfl⟩
  obtain ⟨n3, m3, e3, h3⟩ : ∃ n' d' e', mulV a b c d = (n', d', e') := ⟨_, _, _, rfl⟩
  obtain ⟨n4, m4, e4, h4⟩ : ∃ n' d' e', divV a b c d = (n', d', e') := ⟨_, _, _, rfl⟩
  have M1 := Lib.hid (fun W => add_any a b c d W)
  have R1 := Lib.hid (fun W => radd_any a b c d W)
  have M2 := Lib.hid (fun W => sub_any a b c d W)
  have R2 := Lib.hid (fun W => rsub_any a b c d W)
  have M3 := Lib.hid (fun W => mul_any a b c d W)
  have R3 := Lib.hid (fun W => rmul_any a b c d W)
  have M4 := Lib.hid (fun W => div_any a b c d W)
  have R4 := Lib.hid (fun W => rdiv_any a b c d W)
  have M5 := Lib.hid (fun W => cmp_any a b c d W)
  have R5 := Lib.hid (fun W => rcmp_any a b c d W)
  rw [h1] at M1 R1
  rw [h2] at M2 R2
  rw [h3] at M3 R3
  rw [h4] at M4 R4
  generalize cmpV a b c d = k5 at *
  generalize chk2 a b c d = e5 at *
  clear h1 h2 h3 h4
  have AW := Lib.hid awake_any
  go_enter Tryd.func4, Tryd.ntmps4
  go_wp2_with fail
  refine (M1.out _).mono ?_
  rintro e w1 ⟨rfl, hb1⟩
  obtain ⟨hc1, hf1⟩ := bcell hb1
  have hA1 := Lib.hid (((Own2.made w a b 23).later (ba (br _) (.cells #[.int .i64 c, .int .i64 d] 23))).later hb1)
  have hB1 := Lib.hid ((Own2.made (w.alloc (.cells #[.int .i64 a, .int .i64 b] 23)) c d 23).later hb1)
  have hz1 : w.heap.size + 1 < w1.heap.size := by have := hb1.size; simp at this; omega
  have hz0 : w.heap.size < w1.heap.size := by omega
  have bel1 := Lib.hid (bl (ba (ba (br w) _) _) hb1)
  clear hb1
  go_wp2_with fail
  refine (R1.out _).mono ?_
  rintro e w2 ⟨rfl, hb2⟩
  have hz2 : w1.heap.size < w2.heap.size := by have := hb2.size; simp at this; omega
  have F := Lib.hid (show Four w (w2.alloc (.cells #[.int .i64 n1, .int .i64 m1] 23)) w.heap.size (w.heap.size + 1) w1.heap.size w2.heap.size a b c d n1 m1 n1 m1 from
    ⟨((hA1.out.later (ba (br _) _)).later hb2).later (ba (br _) _), by have := ((hB1.out.later (ba (br _) (.cells #[.int .i64 n1, .int .i64 m1] 23))).later hb2).later (ba (br _) (.cells #[.int .i64 n1, .int .i64 m1] 23)); simpa using this,
      ((Own2.made w1 n1 m1 23).later hb2).later (ba (br _) _), Own2.made w2 n1 m1 23, by omega, by omega, by omega, by omega, by omega, by omega, by omega, ba (bl (ba bel1.out _) hb2) _⟩)
  obtain ⟨_, s0, s1, s2, s3⟩ := (Own2.made w1 n1 m1 23).later hb2
  clear hc1 hf1 hA1 hB1 bel1 hb2
  obtain ⟨⟨_, a0, a1, _, _⟩, ⟨_, b0, b1, _, _⟩, _, _, x1, x2, x3, x4, x5, x6, x7, _⟩ := F.out
  go_wp2_with fail
  refine (M2.out _).mono ?_
  rintro e w3 ⟨rfl, hb3⟩
  have F3 := Lib.hid (F.out.call hb3)
  clear s0 s1 s2 s3 a0 a1 b0 b1 hb3 F hz0 hz1 hz2
  obtain ⟨⟨_, a0, a1, _, _⟩, ⟨_, b0, b1, _, _⟩, ⟨_, s0, s1, s2, s3⟩, ⟨_, t0, t1, t2, t3⟩, _, _, _, _, _, _, _, _⟩ := F3.out
  go_wp2_with fail
  refine (R2.out _).mono ?_
  rintro e w4 ⟨rfl, hb4⟩
  have F4 := Lib.hid ((F3.out.setS).call hb4)
  clear s0 s1 s2 s3 t0 t1 t2 t3 a0 a1 b0 b1 hb4 F3
  obtain ⟨⟨_, a0, a1, _, _⟩, ⟨_, b0, b1, _, _⟩, ⟨_, s0, s1, s2, s3⟩, ⟨_, t0, t1, t2, t3⟩, _, _, _, _, _, _, _, _⟩ := F4.out
  go_wp2_with fail
  refine (M3.out _).mono ?_
  rintro e w5 ⟨rfl, hb5⟩
  have F5 := Lib.hid ((F4.out.setT).call hb5)
  clear s0 s1 s2 s3 t0 t1 t2 t3 a0 a1 b0 b1 hb5 F4
  obtain ⟨⟨_, a0, a1, _, _⟩, ⟨_, b0, b1, _, _⟩, ⟨_, s0, s1, s2, s3⟩, ⟨_, t0, t1, t2, t3⟩, _, _, _, _, _, _, _, _⟩ := F5.out
  go_wp2_with fail
  refine (R3.out _).mono ?_
  rintro e w6 ⟨rfl, hb6⟩
  have F6 := Lib.hid ((F5.out.setS).call hb6)
  clear s0 s1 s2 s3 t0 t1 t2 t3 a0 a1 b0 b1 hb6 F5
  obtain ⟨⟨_, a0, a1, _, _⟩, ⟨_, b0, b1, _, _⟩, ⟨_, s0, s1, s2, s3⟩, ⟨_, t0, t1, t2, t3⟩, _, _, _, _, _, _, _, _⟩ := F6.out
  go_wp2_with fail
  refine (M4.out _).mono ?_
  rintro e w7 ⟨rfl, hb7⟩
  have F7 := Lib.hid ((F6.out.setT).call hb7)
  clear s0 s1 s2 s3 t0 t1 t2 t3 a0 a1 b0 b1 hb7 F6
  obtain ⟨⟨_, a0, a1, _, _⟩, ⟨_, b0, b1, _, _⟩, ⟨_, s0, s1, s2, s3⟩, ⟨_, t0, t1, t2, t3⟩, _, _, _, _, _, _, _, _⟩ := F7.out
  go_wp2_with fail
  refine (R4.out _).mono ?_
  rintro e w8 ⟨rfl, hb8⟩
  have F8 := Lib.hid ((F7.out.setS).call hb8)
  clear s0 s1 s2 s3 t0 t1 t2 t3 a0 a1 b0 b1 hb8 F7
  obtain ⟨⟨_, a0, a1, _, _⟩, ⟨_, b0, b1, _, _⟩, ⟨_, s0, s1, s2, s3⟩, ⟨_, t0, t1, t2, t3⟩, _, _, _, _, _, _, _, _⟩ := F8.out
  go_wp2_with fail
  refine (M5.out _).mono ?_
  rintro e w9 ⟨rfl, hb9⟩
  have F9 := Lib.hid ((F8.out.setT).call hb9)
  clear s0 s1 s2 s3 t0 t1 t2 t3 a0 a1 b0 b1 hb9 F8
  obtain ⟨⟨_, a0, a1, _, _⟩, ⟨_, b0, b1, _, _⟩, _, _, _, _, _, _, _, _, _, _⟩ := F9.out
  go_wp2_with fail
  refine (R5.out _).mono ?_
  rintro e wa ⟨rfl, hba⟩
  have Fa := Lib.hid (F9.out.call hba)
  clear a0 a1 b0 b1 hba F9
  go_wp2_with fail
  refine (AW.out _).mono ?_
  rintro e wb ⟨rfl, hbb⟩
  have Fb := Lib.hid (bl Fa.out.bel hbb)
  clear hbb Fa
  go_wp2_with fail
  go_ret
  exact ⟨rfl, Fb.out⟩

end Go.Proofs.YtjgkliiofechfaaDoor
