/- The statements' own signs, and the examples that every statement asks for. -/
import Derived.Test.YtcomjcflllfobaaDoorSPlain
import Derived.Test.YtcomjcflllfobaaDoorSProgE
import Derived.Test.YtcomjcflllfobaaDoorLgLst
namespace Go.Proofs.YtcomjcflllfobaaDoor
open Go.RowKit

def nS (v : Int) : Sg := ⟨1, v, 0, 0, false, 0, false, false, 0, 0, 0, 0, false, 0, 0, 0, 0⟩
def rS (v : Int) : Sg := ⟨2, v, 0, 0, false, 0, false, false, 0, 0, 0, 0, false, 0, 0, 0, 0⟩
def dS : Sg := ⟨3, 0, 0, 0, false, 0, false, false, 0, 0, 0, 0, false, 0, 0, 0, 0⟩
def tS : Sg := ⟨4, 0, 0, 0, false, 0, false, false, 0, 0, 0, 0, false, 0, 0, 0, 0⟩
def eS : Sg := ⟨4, 0, 0, 0, false, 0, false, true, 0, 0, 0, 0, false, 0, 0, 0, 0⟩

set_option maxRecDepth 100000 in
theorem lnote_any (v : Int) (w : World) : Calls Tryd.prog 30 #[.int .i64 v] w fun e w' => e = .returned (sgv (nS v)) ∧ Below w.heap.size w w' := by
  go_enter Tryd.func30, Tryd.ntmps30
  go_wp2_with (first | (refine wl_buildS _ (nS v) (by kernel_rfl) ?_) | (refine wl_store0 w.heap.size _ (nS v) rfl (by kernel_rfl) (by kernel_rfl) rfl ?_) | fail)
  refine bodyPost_ret (res_sg rfl (by kernel_rfl) (sg_new w (nS v)).sg) rfl ⟨rfl, w_alloc (w_refl w) _⟩

set_option maxRecDepth 100000 in
theorem lrest_any (v : Int) (w : World) : Calls Tryd.prog 34 #[.int .i64 v] w fun e w' => e = .returned (sgv (rS v)) ∧ Below w.heap.size w w' := by
  go_enter Tryd.func34, Tryd.ntmps34
  go_wp2_with (first | (refine wl_buildS _ (rS v) (by kernel_rfl) ?_) | (refine wl_store0 w.heap.size _ (rS v) rfl (by kernel_rfl) (by kernel_rfl) rfl ?_) | fail)
  refine bodyPost_ret (res_sg rfl (by kernel_rfl) (sg_new w (rS v)).sg) rfl ⟨rfl, w_alloc (w_refl w) _⟩

set_option maxRecDepth 100000 in
theorem ldot_any (w : World) : Calls Tryd.prog 31 #[] w fun e w' => e = .returned (sgv (dS)) ∧ Below w.heap.size w w' := by
  go_enter Tryd.func31, Tryd.ntmps31
  go_wp2_with (first | (refine wl_buildS _ (dS) (by kernel_rfl) ?_) | (refine wl_store0 w.heap.size _ (dS) rfl (by kernel_rfl) (by kernel_rfl) rfl ?_) | fail)
  refine bodyPost_ret (res_sg rfl (by kernel_rfl) (sg_new w (dS)).sg) rfl ⟨rfl, w_alloc (w_refl w) _⟩

set_option maxRecDepth 100000 in
theorem ltied_any (w : World) : Calls Tryd.prog 32 #[] w fun e w' => e = .returned (sgv (tS)) ∧ Below w.heap.size w w' := by
  go_enter Tryd.func32, Tryd.ntmps32
  go_wp2_with (first | (refine wl_buildS _ (tS) (by kernel_rfl) ?_) | (refine wl_store0 w.heap.size _ (tS) rfl (by kernel_rfl) (by kernel_rfl) rfl ?_) | fail)
  refine bodyPost_ret (res_sg rfl (by kernel_rfl) (sg_new w (tS)).sg) rfl ⟨rfl, w_alloc (w_refl w) _⟩

set_option maxRecDepth 100000 in
theorem llast_any (w : World) : Calls Tryd.prog 33 #[] w fun e w' => e = .returned (sgv (eS)) ∧ Below w.heap.size w w' := by
  go_enter Tryd.func33, Tryd.ntmps33
  go_wp2_with (first | (refine wl_buildS _ (eS) (by kernel_rfl) ?_) | (refine wl_store0 w.heap.size _ (eS) rfl (by kernel_rfl) (by kernel_rfl) rfl ?_) | fail)
  refine bodyPost_ret (res_sg rfl (by kernel_rfl) (sg_new w (eS)).sg) rfl ⟨rfl, w_alloc (w_refl w) _⟩

/-! ### Lists of signs that are written out -/
def litO (l : List Sg) : Obj := .cells (flatG l).toArray 27
theorem lit_sl (w : World) (l : List Sg) (hn : l.length ≤ 1000) : SlP (w.alloc (litO l)) 17 (some ⟨w.heap.size, 0, none⟩) l.length l.length (flatG l) :=
  ⟨flatG_len l, Nat.le_refl _, by omega, fun e => (by cases e), flatG_one l, fun _ => ⟨w.heap.size, 0, rfl, by simp, fun j u hj => by
    rw [Nat.zero_add]
    exact (HoldsB.new w 27 (flatG l).toArray).cell (by rw [← Array.getElem?_toList]; exact hj)⟩⟩
set_option maxHeartbeats 4000000 in
theorem run_lit2 (s t : Sg) (w : World) : (Instr.buildSlice 38 2 #[(0, sgv s), (1, sgv t)]).run Tryd.prog w = .ok (.slice (some ⟨w.heap.size, 0, none⟩) 2 2) (w.alloc (litO [s, t])) := by
  unfold litO flatG flatG flatG sgL sgv sgA
  simp [Instr.buildSlice, newRow, go_sem]
set_option maxHeartbeats 4000000 in
theorem run_lit3 (s t u : Sg) (w : World) : (Instr.buildSlice 38 3 #[(0, sgv s), (1, sgv t), (2, sgv u)]).run Tryd.prog w = .ok (.slice (some ⟨w.heap.size, 0, none⟩) 3 3) (w.alloc (litO [s, t, u])) := by
  unfold litO flatG flatG flatG flatG sgL sgv sgA
  simp [Instr.buildSlice, newRow, go_sem]
section
variable {ops : Array Oper} {rest : List Oper} {dd : Option Tmp} {t : TypeId} {ps : String} {af : Array Edge} {a : Act} {Q : Exit → Act → World → Prop}
theorem wl_lit {w : World} {g : Option (Nat × Bool)} (n : Nat) (parts : Array (Nat × Operand)) (l : List Sg) (vs : Array (Nat × Value)) (hv : (parts.map fun (i, x) => (i, a.eval x)) = vs) (hr : (Instr.buildSlice 38 n vs).run Tryd.prog w = .ok (.slice (some ⟨w.heap.size, 0, none⟩) n n) (w.alloc (litO l)))
    (hw : Region.wanted { dst := dd, op := .buildSlice 38 n parts, type := t, pos := ps, after := af, guard := g } (yielded ops a.tmps) = true)
    (h : wpList Tryd.prog ops Q rest (a.put dd (.slice (some ⟨w.heap.size, 0, none⟩) n n)) (w.alloc (litO l))) :
    wpList Tryd.prog ops Q ({ dst := dd, op := .buildSlice 38 n parts, type := t, pos := ps, after := af, guard := g } :: rest) a w := by
  unfold wpList
  rw [if_pos hw]
  refine .inl ?_
  unfold Oper.wp execOp
  simp only [Sem.run_bind, Sem.run_pure]
  rw [hv, hr]
  exact h
end

set_option maxRecDepth 100000 in
set_option maxHeartbeats 4000000 in
theorem lchecks_any (want at_ : Int) (nm : ByteArray) (hnm : nm.size ≤ maxLen) (l : List Sg) (p : Option Addr) (cap : Nat) (w : World) (h : SlP w 17 p l.length cap (flatG l)) (T : TabS w) :
    Calls Tryd.prog 36 #[.int .i64 want, .int .i64 at_, .string nm, .slice p l.length cap] w fun e w' => e = .returned (.bool (((chkV (nameV nm.data.toList) l).1 == want) && (((chkV (nameV nm.data.toList) l).2 : Int) == at_))) ∧ Below w.heap.size w w' := by
  have C := Lib.hid (pchk_any nm hnm l p cap w h T)
  generalize chkV (nameV nm.data.toList) l = R at *
  obtain ⟨r1, r2⟩ := R
  simp only at C ⊢
  clear h T
  generalize (r2 : Int) = r3 at *
  cases h1 : (r1 == want) with
  | true =>
    go_enter Tryd.func36, Tryd.ntmps36
    go_wp2_with fail
    refine C.out.mono ?_
    rintro e w1 ⟨rfl, hb⟩
    have hB := Lib.hid hb
    clear hb C
    go_wp2_with fail
    go_ret
    exact ⟨rfl, hB.out⟩
  | false =>
    go_enter Tryd.func36, Tryd.ntmps36
    go_wp2_with fail
    refine C.out.mono ?_
    rintro e w1 ⟨rfl, hb⟩
    have hB := Lib.hid hb
    clear hb C
    go_wp2_with fail
    go_ret
    exact ⟨rfl, hB.out⟩

def aN : ByteArray := { data := #[97] }
theorem aN_ok : nameV aN.data.toList = true := by decide +kernel
theorem ck1 : chkV true [tS, eS, dS] = (0, 0) := by decide +kernel
theorem ck2 : chkV true [nS 3, eS] = (3, 1) := by decide +kernel
theorem pl1 : plnV (2, 2, 3, 2) (nS 3) = (6, 1, 0) := by decide +kernel
theorem on1 : oneE (nS 9) = 2 := by decide +kernel
theorem lit_below (w : World) (l : List Sg) : Below w.heap.size w (w.alloc (litO l)) := w_alloc (w_refl w) _

set_option maxRecDepth 100000 in
set_option maxHeartbeats 8000000 in
theorem awake_any (w : World) (T : TabS w) : Calls Tryd.prog 16 #[] w fun e w' => e = .returned (.bool true) ∧ Below w.heap.size w w' := by
  have NT := Lib.hid (fun v W => lnote_any v W)
  have TI := Lib.hid (fun W => ltied_any W)
  have LA := Lib.hid (fun W => llast_any W)
  have DO := Lib.hid (fun W => ldot_any W)
  have PL := Lib.hid (show ∀ W, Below w.heap.size w W → Calls Tryd.prog 12 #[mv (2, 2, 3, 2), sgv (nS 3)] W fun e w' => e = .returned (tev (6, 1, 0)) ∧ Below W.heap.size W w' from fun W b => by have := ppln_any (2, 2, 3, 2) (nS 3) W (T.later b); rwa [pl1] at this)
  have C1 := Lib.hid (show ∀ W, Below w.heap.size w W → Calls Tryd.prog 36 #[.int .i64 0, .int .i64 0, .string aN, .slice (some ⟨W.heap.size, 0, none⟩) 3 3] (W.alloc (litO [tS, eS, dS])) fun e w' => e = .returned (.bool true) ∧ Below W.heap.size W w' from fun W b => by
    have := lchecks_any 0 0 aN (by decide) [tS, eS, dS] _ _ _ (lit_sl W [tS, eS, dS] (by decide)) (T.later (w_below b (lit_below W _)))
    rw [aN_ok, ck1] at this
    exact this.mono fun e w' ⟨h1, h2⟩ => ⟨h1, w_below (lit_below W _) h2⟩)
  have C2 := Lib.hid (show ∀ W, Below w.heap.size w W → Calls Tryd.prog 36 #[.int .i64 3, .int .i64 1, .string aN, .slice (some ⟨W.heap.size, 0, none⟩) 2 2] (W.alloc (litO [nS 3, eS])) fun e w' => e = .returned (.bool true) ∧ Below W.heap.size W w' from fun W b => by
    have := lchecks_any 3 1 aN (by decide) [nS 3, eS] _ _ _ (lit_sl W [nS 3, eS] (by decide)) (T.later (w_below b (lit_below W _)))
    rw [aN_ok, ck2] at this
    exact this.mono fun e w' ⟨h1, h2⟩ => ⟨h1, w_below (lit_below W _) h2⟩)
  have O9 := Lib.hid (show ∀ W, Below w.heap.size w W → Calls Tryd.prog 14 #[sgv (nS 9)] W fun e w' => e = .returned (.int .i64 2) ∧ Below W.heap.size W w' from fun W b => by have := pone_any (nS 9) W (T.later b); rwa [on1] at this)
  unfold aN at C1 C2
  have B := Lib.hid (w_refl w)
  clear T
  go_enter Tryd.func16, Tryd.ntmps16
  go_wp2_with fail
  refine (NT.out _ _).mono ?_
  rintro e w1 ⟨rfl, hb⟩
  replace B := Lib.hid (w_below B.out hb)
  clear hb
  go_wp2_with fail
  refine (PL.out _ B.out).mono ?_
  rintro e w1 ⟨rfl, hb⟩
  have B2 := Lib.hid (w_alloc (w_below B.out hb) (.cells #[.int .i64 6, .int .i64 1] 32))
  have HT := Lib.hid (HoldsB.new w1 32 #[.int .i64 6, .int .i64 1])
  clear hb B PL
  go_wp2_with fail
  refine (TI.out _).mono ?_
  rintro e w1 ⟨rfl, hb⟩
  replace B2 := Lib.hid (w_below B2.out hb)
  replace HT := Lib.hid (HT.out.later hb)
  clear hb
  go_wp2_with fail
  refine (LA.out _).mono ?_
  rintro e w1 ⟨rfl, hb⟩
  replace B2 := Lib.hid (w_below B2.out hb)
  replace HT := Lib.hid (HT.out.later hb)
  clear hb
  go_wp2_with fail
  refine (DO.out _).mono ?_
  rintro e w1 ⟨rfl, hb⟩
  replace B2 := Lib.hid (w_below B2.out hb)
  replace HT := Lib.hid (HT.out.later hb)
  clear hb
  go_wp2_with (first | (refine wl_lit 3 _ [tS, eS, dS] #[(0, sgv tS), (1, sgv eS), (2, sgv dS)] (by kernel_rfl) (run_lit3 tS eS dS _) (by kernel_rfl) ?_) | fail)
  refine (C1.out _ B2.out).mono ?_
  rintro e w1 ⟨rfl, hb⟩
  replace B2 := Lib.hid (w_below B2.out hb)
  replace HT := Lib.hid (HT.out.later hb)
  clear hb
  clear C1
  go_wp2_with fail
  refine (NT.out _ _).mono ?_
  rintro e w1 ⟨rfl, hb⟩
  replace B2 := Lib.hid (w_below B2.out hb)
  replace HT := Lib.hid (HT.out.later hb)
  clear hb
  go_wp2_with fail
  refine (LA.out _).mono ?_
  rintro e w1 ⟨rfl, hb⟩
  replace B2 := Lib.hid (w_below B2.out hb)
  replace HT := Lib.hid (HT.out.later hb)
  clear hb
  go_wp2_with (first | (refine wl_lit 2 _ [nS 3, eS] #[(0, sgv (nS 3)), (1, sgv eS)] (by kernel_rfl) (run_lit2 (nS 3) eS _) (by kernel_rfl) ?_) | fail)
  refine (C2.out _ B2.out).mono ?_
  rintro e w1 ⟨rfl, hb⟩
  replace B2 := Lib.hid (w_below B2.out hb)
  replace HT := Lib.hid (HT.out.later hb)
  clear hb
  clear C2
  have t0 := HT.out.cell (j := 0) rfl
  have t1 := HT.out.cell (j := 1) rfl
  go_wp2_with fail
  refine (NT.out _ _).mono ?_
  rintro e w1 ⟨rfl, hb⟩
  replace B2 := Lib.hid (w_below B2.out hb)
  replace HT := Lib.hid (HT.out.later hb)
  clear hb
  clear t0 t1
  go_wp2_with fail
  refine (O9.out _ B2.out).mono ?_
  rintro e w1 ⟨rfl, hb⟩
  replace B2 := Lib.hid (w_below B2.out hb)
  replace HT := Lib.hid (HT.out.later hb)
  clear hb
  go_wp2_with fail
  go_ret
  exact ⟨rfl, B2.out⟩

end Go.Proofs.YtcomjcflllfobaaDoor
