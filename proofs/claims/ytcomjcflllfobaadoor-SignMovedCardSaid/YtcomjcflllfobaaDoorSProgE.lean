/- The program's test of a ligature's signs, and its check of a part. -/
import Derived.Test.YtcomjcflllfobaaDoorSPart
import Derived.Test.YtcomjcflllfobaaDoorSProgD
import Derived.Test.YtcomjcflllfobaaDoorNumb
namespace Go.Proofs.YtcomjcflllfobaaDoor
open Go.RowKit

set_option maxHeartbeats 2000000 in
theorem pfst_any (l : List Sg) (i : Nat) (hi : i < l.length) (p : Option Addr) (cap : Nat) (w : World) (h : SlP w 17 p l.length cap (flatG l)) :
    Calls Tryd.prog 52 #[.slice p l.length cap, .int .i64 i] w fun e w' => e = .returned (.bool (fstB l i)) ∧ w = w' := by
  have f1 := h.fit
  have m1 := h.max
  obtain ⟨b, off, rfl, hb, hs⟩ := h.sg (sg_some hi)
  have n0 := hs.e0
  have HL := Lib.hid h
  clear h hs
  cases hk : kB l i with
  | false =>
    rw [show fstB l i = false by unfold fstB; rw [hk]; rfl]
    have q : ((l.getD i zS).kind == 4) = false := hk
    have hI1 : (i : Int) < l.length := by omega
    have hI0 : (0 : Int) ≤ i := by omega
    clear hk HL
    generalize l.getD i zS = s at *
    go_enter Tryd.func52, Tryd.ntmps52
    go_wp2_with fail
    go_ret
    exact ⟨rfl, rfl⟩
  | true =>
    have q : ((l.getD i zS).kind == 4) = true := hk
    cases i with
    | zero =>
      rw [fst_zero, hk]
      obtain ⟨I, hI⟩ : ∃ I : Int, ((0 : Nat) : Int) = I := ⟨_, rfl⟩
      obtain ⟨o, ho⟩ : ∃ o, off + 0 * 17 = o := ⟨_, rfl⟩
      have hoff : off + I.toNat * 17 = o := by rw [← hI, ← ho]; simp
      have hI1 : I < l.length := by omega
      have hI0 : 0 ≤ I := by omega
      have hz : (I == 0) = true := by simp; omega
      rw [ho] at n0
      rw [hI]
      clear hk HL hI ho
      generalize l.getD 0 zS = s at *
      go_enter Tryd.func52, Tryd.ntmps52
      go_wp2_with fail
      go_ret
      exact ⟨rfl, rfl⟩
    | succ j =>
      obtain ⟨_, _, e9, _, hx⟩ := HL.out.sg (sg_some (show j < l.length by omega))
      injection e9 with e9
      injection e9 with e9 e10 _
      subst e9 e10
      have m0 := hx.e0
      have m7 := hx.e7
      have HF := show fstB l (j + 1) = (true && (!(kB l j) || laB l j)) by rw [fst_succ, hk]
      have kj : ((l.getD j zS).kind == 4) = kB l j := rfl
      have kj2 : ((l.getD j zS).kind != 4) = !(kB l j) := rfl
      have lj : (l.getD j zS).last = laB l j := rfl
      rw [lj] at m7
      rw [HF]
      obtain ⟨I, hI⟩ : ∃ I : Int, ((j + 1 : Nat) : Int) = I := ⟨_, rfl⟩
      obtain ⟨J, hJ⟩ : ∃ J : Int, ((j : Nat) : Int) = J := ⟨_, rfl⟩
      obtain ⟨o, ho⟩ : ∃ o, off + (j + 1) * 17 = o := ⟨_, rfl⟩
      obtain ⟨o', ho'⟩ : ∃ o, off + j * 17 = o := ⟨_, rfl⟩
      have hoff : off + I.toNat * 17 = o := by rw [← hI, ← ho]; simp
      have hoff' : off + J.toNat * 17 = o' := by rw [← hJ, ← ho']; simp
      have hI1 : I < l.length := by omega
      have hI0 : 0 ≤ I := by omega
      have hJ1 : J < l.length := by omega
      have hJ0 : 0 ≤ J := by omega
      have hz : (I == 0) = false := by simp; omega
      have hw : IntKind.i64.wrap (I - 1) = J := by rw [IntWalk.i64_in _ (by omega)]; omega
      rw [ho] at n0
      rw [ho'] at m0 m7
      rw [hI]
      clear hk HL hx HF hI hJ ho ho' hi lj
      generalize l.getD (j + 1) zS = s at *
      generalize l.getD j zS = t at *
      generalize kB l j = KJ at *
      generalize laB l j = LJ at *
      cases KJ with
      | false =>
        go_enter Tryd.func52, Tryd.ntmps52
        go_wp2_with fail
        go_ret
        exact ⟨rfl, rfl⟩
      | true =>
        cases LJ with
        | false =>
          go_enter Tryd.func52, Tryd.ntmps52
          go_wp2_with fail
          go_ret
          exact ⟨rfl, rfl⟩
        | true =>
          go_enter Tryd.func52, Tryd.ntmps52
          go_wp2_with fail
          go_ret
          exact ⟨rfl, rfl⟩

set_option maxHeartbeats 2000000 in
theorem pjn_any (l : List Sg) (i : Nat) (hi : i < l.length) (p : Option Addr) (cap : Nat) (w : World) (h : SlP w 17 p l.length cap (flatG l)) :
    Calls Tryd.prog 49 #[.slice p l.length cap, .int .i64 i] w fun e w' => e = .returned (.bool (jnB l i)) ∧ w = w' := by
  have f1 := h.fit
  have m1 := h.max
  have FI := Lib.hid (fun W h => pfst_any l i hi p cap W h)
  obtain ⟨b, off, rfl, hb, hs⟩ := h.sg (sg_some hi)
  have n0 := hs.e0
  have n7 := hs.e7
  have HL := Lib.hid h
  have hI1 : (i : Int) < l.length := by omega
  have hI0 : (0 : Int) ≤ i := by omega
  clear h hs
  have kj2 : ((l.getD i zS).kind != 4) = !(kB l i) := rfl
  have lj : (l.getD i zS).last = laB l i := rfl
  rw [lj] at n7
  cases hk : kB l i with
  | false =>
    rw [jn_free hk]
    rw [hk] at kj2
    clear hk HL FI lj n7
    generalize l.getD i zS = s at *
    go_enter Tryd.func49, Tryd.ntmps49
    go_wp2_with fail
    go_ret
    exact ⟨rfl, rfl⟩
  | true =>
    rw [hk] at kj2
    cases hl : laB l i with
    | true =>
      rw [jn_last hk hl]
      rw [hl] at n7
      have F1 := Lib.hid (FI.out w HL.out)
      generalize fstB l i = B at *
      clear hk hl HL FI lj
      generalize l.getD i zS = s at *
      go_enter Tryd.func49, Tryd.ntmps49
      go_wp2_with fail
      refine F1.out.mono ?_
      rintro e w1 ⟨rfl, rfl⟩
      go_wp2_with fail
      go_ret
      exact ⟨rfl, rfl⟩
    | false =>
      rw [jn_mid hk hl]
      rw [hl] at n7
      clear FI lj hk hl
      have hw : IntKind.i64.wrap ((i : Int) + 1) = (i : Int) + 1 := IntWalk.i64_in _ (by omega)
      by_cases hn : i + 1 < l.length
      · have hn1 : (i : Int) + 1 < l.length := by omega
        have hn0 : (0 : Int) ≤ (i : Int) + 1 := by omega
        obtain ⟨_, _, e9, _, hx⟩ := HL.out.sg (sg_some hn)
        injection e9 with e9
        injection e9 with e9 e10 _
        subst e9 e10
        have m0 := hx.e0
        have kj : ((l.getD (i + 1) zS).kind == 4) = kB l (i + 1) := rfl
        rw [decide_eq_true hn, Bool.true_and]
        clear HL hx hn
        generalize l.getD i zS = s at *
        generalize l.getD (i + 1) zS = t at *
        generalize kB l (i + 1) = KJ at *
        go_enter Tryd.func49, Tryd.ntmps49
        go_wp2_with fail
        go_ret
        exact ⟨rfl, rfl⟩
      · have hn1 : ¬ (i : Int) + 1 < l.length := by omega
        rw [decide_eq_false hn, Bool.false_and]
        clear HL hn
        generalize l.getD i zS = s at *
        go_enter Tryd.func49, Tryd.ntmps49
        go_wp2_with fail
        go_ret
        exact ⟨rfl, rfl⟩

set_option maxRecDepth 100000 in
set_option maxHeartbeats 4000000 in
theorem pchk_any (nm : ByteArray) (hnm : nm.size ≤ maxLen) (l : List Sg) (p : Option Addr) (cap : Nat) (w : World) (h : SlP w 17 p l.length cap (flatG l)) (T : TabS w) :
    Calls Tryd.prog 19 #[ptv nm p l.length cap] w fun e w' => e = .returned (.tuple #[.int .i64 (chkV (nameV nm.data.toList) l).1, .int .i64 (chkV (nameV nm.data.toList) l).2]) ∧ Below w.heap.size w w' := by
  have f1 := h.fit
  have m1 := h.max
  have NC := Lib.hid (fun W => wname_any nm W hnm)
  have HP := Lib.hid (pt_new w nm p l.length cap)
  have B1 := Lib.hid (w_alloc (w_refl w) (ptO nm p l.length cap))
  have HL := Lib.hid (h.later (w_alloc (w_refl w) (ptO nm p l.length cap)))
  have T1 := Lib.hid (T.al (ptO nm p l.length cap))
  have k0 := HP.out.cell (j := 0) rfl
  have k1 := HP.out.cell (j := 1) rfl
  clear h T
  generalize nameV nm.data.toList = NM at *
  cases NM with
  | false =>
    rw [chk_name]
    go_enter Tryd.func19, Tryd.ntmps19
    go_wp2_with fail
    refine (NC.out _).mono ?_
    rintro e w1 ⟨rfl, rfl⟩
    go_wp2_with fail
    go_ret2
    exact ⟨rfl, B1.out⟩
  | true =>
    by_cases hf : 400 < l.length
    · rw [chk_full hf]
      have hf' : (400 : Int) < l.length := by omega
      go_enter Tryd.func19, Tryd.ntmps19
      go_wp2_with fail
      refine (NC.out _).mono ?_
      rintro e w1 ⟨rfl, rfl⟩
      go_wp2_with fail
      go_ret2
      exact ⟨rfl, B1.out⟩
    have hf' : ¬ (400 : Int) < l.length := by omega
    have HH := Lib.hid (fun j hj he hb => chk_hit (l := l) hf (j := j) hj he hb)
    have HO := Lib.hid (fun hb => chk_ok (l := l) hf hb)
    have ON := Lib.hid (fun s W (T : TabS W) => pone_any s W T)
    have JN := Lib.hid (fun i hi W h => pjn_any l i hi p cap W h)
    have S1 := Lib.hid (fun i h => sgn_one (l := l) (i := i) h)
    have S0 := Lib.hid (fun i h k => sgn_ok (l := l) (i := i) h k)
    have S3 := Lib.hid (fun i h k => sgn_no (l := l) (i := i) h k)
    generalize chkV true l = R at *
    generalize sgnE l = E at *
    generalize jnB l = JB at *
    obtain ⟨r1, r2⟩ := R
    go_enter Tryd.func19, Tryd.ntmps19
    go_wp2_with fail
    refine (NC.out _).mono ?_
    rintro e w1 ⟨rfl, rfl⟩
    clear NC
    go_wp2_with fail
    clear k0 k1
    have b0 : w.heap.size < (w.alloc (ptO nm p l.length cap)).heap.size := HP.out.lt
    generalize w.alloc (ptO nm p l.length cap) = y at *
    go_loopw [17] (fun s17 wr => ∃ k : Nat, k ≤ l.length ∧ s17 = .int .i64 k ∧ Hid (∀ j, j < k → E j = 0) ∧ Hid (Below y.heap.size y wr)) (fun s17 _ => l.length - (intOf s17).toNat)
    case atStart => exact ⟨0, by omega, rfl, Lib.hid (fun j hj => by omega), Lib.hid (w_refl _)⟩
    case round =>
      obtain ⟨k, hk, rfl, hall, hbr⟩ := hrel
      rename World => wr
      by_cases hlt : k < l.length
      · have hlt' : (k : Int) < l.length := by omega
        have hk0 : (0 : Int) ≤ k := by omega
        obtain ⟨s, hs⟩ : ∃ s, l.getD k zS = s := ⟨_, rfl⟩
        have O1 := Lib.hid (ON.out s wr (T1.out.later hbr.out))
        have hsg := (HL.out.later hbr.out).sg (sg_some hlt)
        rw [hs] at hsg
        obtain ⟨b, off, hpp, _, hx⟩ := hsg
        have HX := Lib.hid hx
        have c1 := cell_later hbr.out (HP.out.cell (j := 1) rfl)
        have S1k := S1.out k
        have S0k := S0.out k
        have S3k := S3.out k
        rw [hs] at S1k S0k S3k
        clear S1 S0 S3 ON hx
        by_cases he : oneE s = 0
        · rw [he] at O1
          have J0 := Lib.hid (fun W h => JN.out k hlt W h)
          cases hj : JB k with
          | true =>
            have hEk := S0k he hj
            have hall2 := Lib.hid (show ∀ j, j < k + 1 → E j = 0 from fun j hj => by
              by_cases e : j = k
              · rw [e]; exact hEk
              · exact hall.out j (by omega))
            rw [hj] at J0
            clear S1k S0k S3k hEk he hj HH HO hall JN hs
            subst hpp
            go_wp2_with (first | (refine wl_load b (off + k * 17) s (by kernel_rfl) HX.out ?_) | fail)
            refine O1.out.mono ?_
            rintro e w2 ⟨rfl, hb⟩
            have hB := Lib.hid (w_below hbr.out hb)
            have c1' := cell_later hb c1
            clear hb O1 HX c1
            go_wp2_with fail
            refine (J0.out _ (HL.out.later hB.out)).mono ?_
            rintro e w3 ⟨rfl, rfl⟩
            clear J0
            go_wp2_with fail
            go_roundw
            case rel => exact ⟨k + 1, by omega, by go_num, hall2, hB⟩
            case measure => simp [intOf]; omega
          | false =>
            have hEk := S3k he hj
            have hfh := HH.out k hlt (by rw [hEk]; decide) hall.out
            have hfin := Lib.hid (show Ending.returned (Value.tuple #[.int .i64 r1, .int .i64 r2]) = .returned (.tuple #[.int .i64 3, .int .i64 (k : Int)]) by
              rw [Prod.mk.injEq] at hfh; rw [hfh.1, hfh.2, hEk])
            rw [hj] at J0
            clear S1k S0k S3k hEk he hj HH HO hall JN hs hfh
            subst hpp
            go_wp2_with (first | (refine wl_load b (off + k * 17) s (by kernel_rfl) HX.out ?_) | fail)
            refine O1.out.mono ?_
            rintro e w2 ⟨rfl, hb⟩
            have hB := Lib.hid (w_below hbr.out hb)
            have c1' := cell_later hb c1
            clear hb O1 HX c1
            go_wp2_with fail
            refine (J0.out _ (HL.out.later hB.out)).mono ?_
            rintro e w3 ⟨rfl, rfl⟩
            clear J0
            go_wp2_with fail
            go_ret2
            exact ⟨hfin.out.symm, w_below B1.out hB.out⟩
        · have hEk := S1k he
          have hfh := HH.out k hlt (by rw [hEk]; exact he) hall.out
          have hfin := Lib.hid (show Ending.returned (Value.tuple #[.int .i64 r1, .int .i64 r2]) = .returned (.tuple #[.int .i64 (oneE s), .int .i64 (k : Int)]) by
            rw [Prod.mk.injEq] at hfh; rw [hfh.1, hfh.2, hEk])
          have e1 : (oneE s == 0) = false := beq_eq_false_iff_ne.2 he
          have e2 : (oneE s != 0) = true := by simp [he]
          clear S1k S0k S3k hEk he HH HO hall JN hs hfh
          generalize oneE s = fe at *
          subst hpp
          go_wp2_with (first | (refine wl_load b (off + k * 17) s (by kernel_rfl) HX.out ?_) | fail)
          refine O1.out.mono ?_
          rintro e w2 ⟨rfl, hb⟩
          have hB := Lib.hid (w_below hbr.out hb)
          clear hb O1 HX c1
          go_wp2_with fail
          go_ret2
          exact ⟨hfin.out.symm, w_below B1.out hB.out⟩
      · have hlt' : ¬ (k : Int) < l.length := by omega
        have hfh := HO.out (fun j hj => hall.out j (by omega))
        have hfin := Lib.hid (show Ending.returned (Value.tuple #[.int .i64 r1, .int .i64 r2]) = .returned (.tuple #[.int .i64 0, .int .i64 0]) by
          rw [Prod.mk.injEq] at hfh; rw [hfh.1, hfh.2]; rfl)
        clear HH HO hall hfh S1 S0 S3 ON JN
        go_wp2_with fail
        go_ret2
        exact ⟨hfin.out.symm, w_below B1.out hbr.out⟩

end Go.Proofs.YtcomjcflllfobaaDoor
