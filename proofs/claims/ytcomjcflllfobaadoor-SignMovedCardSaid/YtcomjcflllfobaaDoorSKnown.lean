/- SignKnown: the chapter's examples. -/
import Derived.Test.YtcomjcflllfobaaDoorSAwake
import Derived.Test.YtcomjcflllfobaaDoorSNum
import Derived.Test.YtcomjcflllfobaaDoorSLig
import Derived.Test.YtcomjcflllfobaaDoorLgKit
import Derived.Test.YtcomjcflllfobaaDoorLgLit
import Derived.Laws.AppendOwnNone
namespace Go.Proofs.YtcomjcflllfobaaDoor
open Go.RowKit

/-! ### The signs of 'ones' -/
def o1 : Sg := ⟨1, 3, 0, 0, false, 1, false, false, 0, 0, 0, 0, false, 0, 0, 0, 0⟩
def o2 : Sg := ⟨13, 0, 0, 0, false, 0, false, false, 0, 0, 0, 0, false, 0, 0, 0, 0⟩
def o3 : Sg := ⟨10, 0, 0, 0, false, 0, false, false, 0, 0, 0, 0, false, 1, 0, 0, 0⟩
def o4 : Sg := ⟨5, 0, 0, 0, false, 0, false, false, 2, 2, 3, 4, false, 0, 0, 0, 0⟩
def o5 : Sg := ⟨2, 4, 1, 0, false, 0, false, false, 0, 0, 0, 0, false, 0, 0, 0, 0⟩
def o6 : Sg := ⟨4, 0, 0, 0, false, 0, true, true, 0, 0, 0, 0, false, 0, 0, 0, 0⟩
theorem on0 : oneE (nS 3) = 0 ∧ oneE o1 = 3 ∧ oneE o2 = 8 ∧ oneE o3 = 2 ∧ oneE o4 = 12 ∧ oneE o5 = 3 ∧ oneE o6 = 3 := by decide +kernel
section
variable {ops : Array Oper} {rest : List Oper} {t : TypeId} {ps : String} {af : Array Edge} {a : Act} {Q : Exit → Act → World → Prop}
set_option maxRecDepth 100000 in
/-- A sign that is built, guarded. -/
theorem wl_buildG {w : World} {d : Tmp} {g : Option (Nat × Bool)} (parts : Array (Nat × Operand)) (s : Sg) (hw : Region.wanted { dst := some d, op := .build 27 parts, type := t, pos := ps, after := af, guard := g } (yielded ops a.tmps) = true)
    (hb : Tryd.prog.built 27 (parts.map fun (i, x) => (i, a.eval x)).toList = some (sgA s)) (h : wpList Tryd.prog ops Q rest (a.put (some d) (sgv s)) w) :
    wpList Tryd.prog ops Q ({ dst := some d, op := .build 27 parts, type := t, pos := ps, after := af, guard := g } :: rest) a w := by
  refine wpList_step fun K hK => ?_
  rw [if_pos hw]
  have e : (Tryd.prog.built 27 (parts.map fun (i, x) => (i, a.eval x)).toList).isSome = true := by rw [hb]; rfl
  have hk : K (a.put (some d) (.agg ((Tryd.prog.built 27 (parts.map fun (i, x) => (i, a.eval x)).toList).getD #[]))) w := by rw [hb]; exact hK _ _ h
  generalize hv : Tryd.prog.built 27 (parts.map fun (i, x) => (i, a.eval x)).toList = v at *
  subst hv
  exact wp_build (P := Tryd.prog) 27 parts rfl e hk
end
set_option maxRecDepth 100000 in
set_option maxHeartbeats 8000000 in
theorem lones2_any (w : World) (T : TabS w) : Calls Tryd.prog 35 #[] w fun e w' => e = .returned (.bool true) ∧ Below w.heap.size w w' := by
  have NT := Lib.hid (fun v W => lnote_any v W)
  have ON := Lib.hid (show ∀ s W, Below w.heap.size w W → Calls Tryd.prog 14 #[sgv s] W fun e w' => e = .returned (.int .i64 (oneE s)) ∧ Below W.heap.size W w' from fun s W b => pone_any s W (T.later b))
  obtain ⟨v0, v1, v2, v3, v4, v5, v6⟩ := on0
  have N0 := Lib.hid (fun W b => ON.out (nS 3) W b)
  have N1 := Lib.hid (fun W b => ON.out o1 W b)
  have N2 := Lib.hid (fun W b => ON.out o2 W b)
  have N3 := Lib.hid (fun W b => ON.out o3 W b)
  have N4 := Lib.hid (fun W b => ON.out o4 W b)
  have N5 := Lib.hid (fun W b => ON.out o5 W b)
  have N6 := Lib.hid (fun W b => ON.out o6 W b)
  rw [v0] at N0
  rw [v1] at N1
  rw [v2] at N2
  rw [v3] at N3
  rw [v4] at N4
  rw [v5] at N5
  rw [v6] at N6
  clear ON T v0 v1 v2 v3 v4 v5 v6
  have HM := Lib.hid (HoldsB.new w 23 #[.int .i64 2, .int .i64 2, .int .i64 3, .int .i64 4])
  have B := Lib.hid (w_alloc (w_refl w) (.cells #[.int .i64 2, .int .i64 2, .int .i64 3, .int .i64 4] 23))
  go_enter Tryd.func35, Tryd.ntmps35
  go_upto_region 2 with (fail)
  generalize w.alloc (.cells #[.int .i64 2, .int .i64 2, .int .i64 3, .int .i64 4] 23) = y at *
  go_wp2_with fail
  refine (NT.out _ _).mono ?_
  rintro e w1 ⟨rfl, hb⟩
  replace B := Lib.hid (w_below B.out hb)
  replace HM := Lib.hid (HM.out.later hb)
  clear hb
  go_wp2_with fail
  refine (N0.out _ B.out).mono ?_
  rintro e w1 ⟨rfl, hb⟩
  replace B := Lib.hid (w_below B.out hb)
  replace HM := Lib.hid (HM.out.later hb)
  clear hb N0
  go_wp2_with (first | (refine wl_buildG _ o1 (by kernel_rfl) (by kernel_rfl) ?_) | fail)
  refine (N1.out _ B.out).mono ?_
  rintro e w1 ⟨rfl, hb⟩
  replace B := Lib.hid (w_below B.out hb)
  replace HM := Lib.hid (HM.out.later hb)
  clear hb N1
  go_wp2_with (first | (refine wl_buildG _ o2 (by kernel_rfl) (by kernel_rfl) ?_) | fail)
  refine (N2.out _ B.out).mono ?_
  rintro e w1 ⟨rfl, hb⟩
  replace B := Lib.hid (w_below B.out hb)
  replace HM := Lib.hid (HM.out.later hb)
  clear hb N2
  go_wp2_with (first | (refine wl_buildG _ o3 (by kernel_rfl) (by kernel_rfl) ?_) | fail)
  refine (N3.out _ B.out).mono ?_
  rintro e w1 ⟨rfl, hb⟩
  replace B := Lib.hid (w_below B.out hb)
  replace HM := Lib.hid (HM.out.later hb)
  clear hb N3
  have h0 := HM.out.cell (j := 0) rfl
  have h1 := HM.out.cell (j := 1) rfl
  have h2 := HM.out.cell (j := 2) rfl
  have h3 := HM.out.cell (j := 3) rfl
  go_wp2_with (first | (refine wl_buildG _ o4 (by kernel_rfl) (by kernel_rfl) ?_) | fail)
  clear h0 h1 h2 h3
  refine (N4.out _ B.out).mono ?_
  rintro e w1 ⟨rfl, hb⟩
  replace B := Lib.hid (w_below B.out hb)
  replace HM := Lib.hid (HM.out.later hb)
  clear hb N4
  go_wp2_with (first | (refine wl_buildG _ o5 (by kernel_rfl) (by kernel_rfl) ?_) | fail)
  refine (N5.out _ B.out).mono ?_
  rintro e w1 ⟨rfl, hb⟩
  replace B := Lib.hid (w_below B.out hb)
  replace HM := Lib.hid (HM.out.later hb)
  clear hb N5
  go_wp2_with (first | (refine wl_buildG _ o6 (by kernel_rfl) (by kernel_rfl) ?_) | fail)
  refine (N6.out _ B.out).mono ?_
  rintro e w1 ⟨rfl, hb⟩
  replace B := Lib.hid (w_below B.out hb)
  replace HM := Lib.hid (HM.out.later hb)
  clear hb N6
  go_wp2_with fail
  go_ret
  exact ⟨rfl, B.out⟩

/-! ### The law itself -/
def exL : List Sg := [nS 3, dS, tS, tS, eS, rS 4, tS, eS]
set_option maxHeartbeats 16000000 in
set_option maxRecDepth 100000 in
theorem run_lit8 (a b c d e f g h : Sg) (w : World) : (Instr.buildSlice 38 8 #[(0, sgv a), (1, sgv b), (2, sgv c), (3, sgv d), (4, sgv e), (5, sgv f), (6, sgv g), (7, sgv h)]).run Tryd.prog w = .ok (.slice (some ⟨w.heap.size, 0, none⟩) 8 8) (w.alloc (litO [a, b, c, d, e, f, g, h])) := by
  unfold litO flatG flatG flatG flatG flatG flatG flatG flatG flatG sgL sgv sgA
  simp [Instr.buildSlice, newRow, go_sem]
theorem ex_chk : chkV true exL = (0, 0) := by decide +kernel
theorem ex_tim : timR true exL = [0, 2, 3, 4, 5, 6, 7] := by decide +kernel
theorem ex_fir : firR true exL = [2, 6] := by decide +kernel
theorem ex_las : lasR true exL = [4, 7] := by decide +kernel
theorem ex_cnt : cntR true exL = [1, 1, 1, 5, 0, 0, 0, 0, 0, 0, 0, 0] := by decide +kernel
theorem pl2 : plnV (2, 2, 3, 2) (rS 4) = (2, 1, 0) ∧ plnV (2, 2, 3, 2) dS = (0, 0, 8) := by decide +kernel
theorem ck3 : chkV true [tS, dS, eS] = (3, 0) ∧ chkV true [tS] = (3, 0) := by decide +kernel
def bigN : ByteArray := { data := #[65] }
theorem cl_zero : clsV 0 = (0, 8) := by decide +kernel
theorem own_dots {w W : World} {n : Nat} {l : List Sg} {q : Option Addr} {c : Nat} (h : OwnL w W 27 17 (.slice q n c) n (flatG l)) (hl : l.length = n) : SlP W 17 q n c (flatG l) := by
  subst hl
  obtain ⟨q', c', e, hs⟩ := SlP.of_own h.row (flatG_len l) (flatG_one l)
  injection e with e1 e2 e3
  subst e1 e3
  exact hs
theorem bigN_no : nameV bigN.data.toList = false := by decide +kernel
theorem ck_dots : chkV true (List.replicate 401 dS) = (11, 0) := chk_full (by rw [List.length_replicate]; omega)
def wantI (k : Nat) : Int := (clsV ((k : Int) + 1)).1
theorem want_ok : ∀ k : Nat, k < 12 → (clsV ((k : Int) + 1)) = (wantI k, 0) := by
  intro k hk
  have c : k = 0 ∨ k = 1 ∨ k = 2 ∨ k = 3 ∨ k = 4 ∨ k = 5 ∨ k = 6 ∨ k = 7 ∨ k = 8 ∨ k = 9 ∨ k = 10 ∨ k = 11 := by omega
  rcases c with rfl | rfl | rfl | rfl | rfl | rfl | rfl | rfl | rfl | rfl | rfl | rfl <;> rfl
theorem want_at : ∀ k : Nat, k < 12 → (#[.int .i64 1, .int .i64 1, .int .i64 2, .int .i64 1, .int .i64 3, .int .i64 3, .int .i64 4, .int .i64 4, .int .i64 3, .int .i64 3, .int .i64 4, .int .i64 4] : Array Value)[k]? = some (.int .i64 (wantI k)) := by
  intro k hk
  have c : k = 0 ∨ k = 1 ∨ k = 2 ∨ k = 3 ∨ k = 4 ∨ k = 5 ∨ k = 6 ∨ k = 7 ∨ k = 8 ∨ k = 9 ∨ k = 10 ∨ k = 11 := by omega
  rcases c with rfl | rfl | rfl | rfl | rfl | rfl | rfl | rfl | rfl | rfl | rfl | rfl <;> rfl
/-- A list of numbers that is written out. -/
theorem ints_new (w : World) (zs : List Int) (hn : zs.length ≤ 1000) : SlP (w.alloc (.cells (ints zs).toArray 3)) 1 (some ⟨w.heap.size, 0, none⟩) zs.length zs.length (ints zs) :=
  ⟨ints_len zs, Nat.le_refl _, by omega, fun e => (by cases e), ints_one _, fun _ => ⟨w.heap.size, 0, rfl, by simp, fun j u hj => by
    rw [Nat.zero_add]
    exact (HoldsB.new w 3 (ints zs).toArray).cell (by rw [← Array.getElem?_toList]; exact hj)⟩⟩
theorem one_sg (w : World) (s : Sg) : SlP (w.alloc (sgO s)) 17 (some ⟨w.heap.size, 0, none⟩) 1 1 (flatG [s]) :=
  ⟨flatG_len [s], Nat.le_refl _, by omega, fun e => (by cases e), flatG_one [s], fun _ => ⟨w.heap.size, 0, rfl, by simp, fun j u hj => by
    rw [Nat.zero_add]
    refine (sg_new w s).cell ?_
    rw [← Array.getElem?_toList]
    simpa [flatG, sgL] using hj⟩⟩
section
variable {ops : Array Oper} {rest : List Oper} {dd : Option Tmp} {t : TypeId} {ps : String} {af : Array Edge} {a : Act} {Q : Exit → Act → World → Prop}
theorem wl_lit1 {w : World} {g : Option (Nat × Bool)} (x : Operand) (s : Sg) (hx : a.eval x = sgv s)
    (hw : Region.wanted { dst := dd, op := .buildSlice 38 1 #[(0, x)], type := t, pos := ps, after := af, guard := g } (yielded ops a.tmps) = true)
    (h : wpList Tryd.prog ops Q rest (a.put dd (.slice (some ⟨w.heap.size, 0, none⟩) 1 1)) (w.alloc (sgO s))) :
    wpList Tryd.prog ops Q ({ dst := dd, op := .buildSlice 38 1 #[(0, x)], type := t, pos := ps, after := af, guard := g } :: rest) a w := by
  have hr := run_lit_sg s w
  rw [← hx] at hr
  unfold wpList
  rw [if_pos hw]
  refine .inl ?_
  unfold Oper.wp execOp
  simp only [Sem.run_bind, Sem.run_pure, List.map_toArray, List.map_cons, List.map_nil]
  rw [hr]
  exact h
end

/-- What stands in memory: the example's part. -/
structure ExX (w y : World) (b1 : Nat) (q : Option Addr) : Prop where
  h : HoldsB y b1 40 #[.string { data := #[97] }, .slice q 8 8]
  s : SlP y 17 q 8 8 (flatG exL)
  b : Below w.heap.size w y
/-- A mensuration in memory, besides. -/
structure KnX (w y : World) (b1 : Nat) : Prop where
  m : HoldsB y b1 23 #[.int .i64 2, .int .i64 2, .int .i64 3, .int .i64 2]
  b : Below w.heap.size w y
theorem KnX.later {w y z : World} {b1 : Nat} (h : KnX w y b1) (k : Below y.heap.size y z) : KnX w z b1 := ⟨h.m.later k, w_below h.b k⟩
theorem KnX.al {w y : World} {b1 : Nat} (h : KnX w y b1) (o : Obj) : KnX w (y.alloc o) b1 := h.later (w_alloc (w_refl y) o)
theorem KnX.four {w y : World} {b1 : Nat} (h : KnX w y b1) : y.cell? ⟨b1, 0, none⟩ = some (.int .i64 2) ∧ y.cell? ⟨b1, 1, none⟩ = some (.int .i64 2) ∧ y.cell? ⟨b1, 2, none⟩ = some (.int .i64 3) ∧ y.cell? ⟨b1, 3, none⟩ = some (.int .i64 2) :=
  ⟨h.m.cell (j := 0) rfl, h.m.cell (j := 1) rfl, h.m.cell (j := 2) rfl, h.m.cell (j := 3) rfl⟩
theorem KnX.put {w y : World} {b1 C : Nat} (h : KnX w y b1) (hne : b1 ≠ C) (hC : w.heap.size ≤ C) (u v : Value) : KnX w ((y.setCell ⟨C, 0, none⟩ u).setCell ⟨C, 1, none⟩ v) b1 :=
  ⟨(h.m.other hne 0 u).other hne 1 v, w_set (w_set h.b hC _) hC _⟩
theorem own2_put {w : World} {b : Nat} {n d n' d' : Int} (h : Own2 w b n d) : Own2 ((w.setCell ⟨b, 0, none⟩ (.int .i64 n')).setCell ⟨b, 1, none⟩ (.int .i64 d')) b n' d' := by
  obtain ⟨hi, c0, c1, f0, f1⟩ := h
  refine ⟨?_, ?_, ?_, ?_, ?_⟩
  · simpa [World.setCell] using hi
  · go_simp
  · go_simp
  · go_simp
  · go_simp
theorem ExX.later {w y z : World} {b1 : Nat} {q : Option Addr} (h : ExX w y b1 q) (k : Below y.heap.size y z) : ExX w z b1 q := ⟨h.h.later k, h.s.later k, w_below h.b k⟩

theorem si1_any (pa : Option Addr) (ca : Nat) (W : World) (h : SlP W 1 pa 7 ca (ints [0, 2, 3, 4, 5, 6, 7])) : Calls Tryd.prog 23 #[.slice pa 7 ca, .slice (some ⟨W.heap.size, 0, none⟩) 7 7] (W.alloc (.cells #[.int .i64 0, .int .i64 2, .int .i64 3, .int .i64 4, .int .i64 5, .int .i64 6, .int .i64 7] 3)) fun e w' => e = .returned (.bool true) ∧ Below W.heap.size W w' :=
  (samei_any pa (some ⟨W.heap.size, 0, none⟩) ca 7 [0, 2, 3, 4, 5, 6, 7] (W.alloc (.cells #[.int .i64 0, .int .i64 2, .int .i64 3, .int .i64 4, .int .i64 5, .int .i64 6, .int .i64 7] 3)) (h.later (w_alloc (w_refl W) _)) (ints_new W [0, 2, 3, 4, 5, 6, 7] (by decide))).mono fun e w' ⟨h1, h2⟩ => ⟨h1, w_below (w_alloc (w_refl W) _) h2⟩
theorem si2_any (pa : Option Addr) (ca : Nat) (W : World) (h : SlP W 1 pa 2 ca (ints [2, 6])) : Calls Tryd.prog 23 #[.slice pa 2 ca, .slice (some ⟨W.heap.size, 0, none⟩) 2 2] (W.alloc (.cells #[.int .i64 2, .int .i64 6] 3)) fun e w' => e = .returned (.bool true) ∧ Below W.heap.size W w' :=
  (samei_any pa (some ⟨W.heap.size, 0, none⟩) ca 2 [2, 6] (W.alloc (.cells #[.int .i64 2, .int .i64 6] 3)) (h.later (w_alloc (w_refl W) _)) (ints_new W [2, 6] (by decide))).mono fun e w' ⟨h1, h2⟩ => ⟨h1, w_below (w_alloc (w_refl W) _) h2⟩
theorem si3_any (pa : Option Addr) (ca : Nat) (W : World) (h : SlP W 1 pa 2 ca (ints [4, 7])) : Calls Tryd.prog 23 #[.slice pa 2 ca, .slice (some ⟨W.heap.size, 0, none⟩) 2 2] (W.alloc (.cells #[.int .i64 4, .int .i64 7] 3)) fun e w' => e = .returned (.bool true) ∧ Below W.heap.size W w' :=
  (samei_any pa (some ⟨W.heap.size, 0, none⟩) ca 2 [4, 7] (W.alloc (.cells #[.int .i64 4, .int .i64 7] 3)) (h.later (w_alloc (w_refl W) _)) (ints_new W [4, 7] (by decide))).mono fun e w' ⟨h1, h2⟩ => ⟨h1, w_below (w_alloc (w_refl W) _) h2⟩
theorem si4_any (pa : Option Addr) (ca : Nat) (W : World) (h : SlP W 1 pa 12 ca (ints [1, 1, 1, 5, 0, 0, 0, 0, 0, 0, 0, 0])) : Calls Tryd.prog 23 #[.slice pa 12 ca, .slice (some ⟨W.heap.size, 0, none⟩) 12 12] (W.alloc (.cells #[.int .i64 1, .int .i64 1, .int .i64 1, .int .i64 5, .int .i64 0, .int .i64 0, .int .i64 0, .int .i64 0, .int .i64 0, .int .i64 0, .int .i64 0, .int .i64 0] 3)) fun e w' => e = .returned (.bool true) ∧ Below W.heap.size W w' :=
  (samei_any pa (some ⟨W.heap.size, 0, none⟩) ca 12 [1, 1, 1, 5, 0, 0, 0, 0, 0, 0, 0, 0] (W.alloc (.cells #[.int .i64 1, .int .i64 1, .int .i64 1, .int .i64 5, .int .i64 0, .int .i64 0, .int .i64 0, .int .i64 0, .int .i64 0, .int .i64 0, .int .i64 0, .int .i64 0] 3)) (h.later (w_alloc (w_refl W) _)) (ints_new W [1, 1, 1, 5, 0, 0, 0, 0, 0, 0, 0, 0] (by decide))).mono fun e w' ⟨h1, h2⟩ => ⟨h1, w_below (w_alloc (w_refl W) _) h2⟩

set_option maxRecDepth 100000 in
set_option maxHeartbeats 16000000 in
theorem lknown_any (w : World) (T : TabS w) : Calls Tryd.prog 6 #[] w fun e w' => e = .returned (.bool true) ∧ Below w.heap.size w w' := by
  have NT := Lib.hid (fun v W => lnote_any v W)
  have RS := Lib.hid (fun v W => lrest_any v W)
  have TI := Lib.hid (fun W => ltied_any W)
  have LA := Lib.hid (fun W => llast_any W)
  have DO := Lib.hid (fun W => ldot_any W)
  have PT := Lib.hid (show ∀ q W, SlP W 17 q 8 8 (flatG exL) → Below w.heap.size w W → Calls Tryd.prog 21 #[.agg #[.string { data := #[97] }, .slice q 8 8]] W fun e w' => ∃ p c, e = .returned (.tuple #[.slice p 7 c, .int .i64 0]) ∧ SlP w' 1 p 7 c (ints [0, 2, 3, 4, 5, 6, 7]) ∧ Below W.heap.size W w' from fun q W h b => by
    have := ptim_any aN (by decide) exL q 8 W h (T.later b)
    rw [aN_ok, ex_chk, ex_tim] at this
    refine this.mono ?_
    rintro e w' ⟨v, he, ho⟩
    obtain ⟨p, c, rfl, hs⟩ := ho.sl
    exact ⟨p, c, he, hs, ho.bel⟩)
  have PL := Lib.hid (show ∀ q W, SlP W 17 q 8 8 (flatG exL) → Below w.heap.size w W → Calls Tryd.prog 24 #[.agg #[.string { data := #[97] }, .slice q 8 8]] W fun e w' => ∃ p c p2 c2, e = .returned (.tuple #[.slice p 2 c, .slice p2 2 c2, .int .i64 0]) ∧ SlP w' 1 p 2 c (ints [2, 6]) ∧ SlP w' 1 p2 2 c2 (ints [4, 7]) ∧ Below W.heap.size W w' from fun q W h b => by
    have := plig_any aN (by decide) exL q 8 W h (T.later b)
    rw [aN_ok, ex_chk, ex_fir, ex_las] at this
    refine this.mono ?_
    rintro e w' ⟨v, u, he, ho, hu⟩
    obtain ⟨p, c, rfl, hs⟩ := ho.sl
    obtain ⟨p2, c2, rfl, hs2⟩ := hu.sl
    exact ⟨p, c, p2, c2, he, hs, hs2, ho.bel⟩)
  have PN := Lib.hid (show ∀ q W, SlP W 17 q 8 8 (flatG exL) → Below w.heap.size w W → Calls Tryd.prog 26 #[.agg #[.string { data := #[97] }, .slice q 8 8]] W fun e w' => ∃ p c, e = .returned (.tuple #[.slice p 12 c, .int .i64 0]) ∧ SlP w' 1 p 12 c (ints [1, 1, 1, 5, 0, 0, 0, 0, 0, 0, 0, 0]) ∧ Below W.heap.size W w' from fun q W h b => by
    have := pcnt_any aN (by decide) exL q 8 W h (T.later b)
    rw [aN_ok, ex_chk, ex_cnt] at this
    refine this.mono ?_
    rintro e w' ⟨v, he, ho⟩
    obtain ⟨p, c, rfl, hs⟩ := ho.sl
    exact ⟨p, c, he, hs, ho.bel⟩)
  have P1 := Lib.hid (show ∀ W, Below w.heap.size w W → Calls Tryd.prog 12 #[mv (2, 2, 3, 2), sgv (rS 4)] W fun e w' => e = .returned (tev (2, 1, 0)) ∧ Below W.heap.size W w' from fun W b => by have := ppln_any (2, 2, 3, 2) (rS 4) W (T.later b); rwa [pl2.1] at this)
  have P2 := Lib.hid (show ∀ W, Below w.heap.size w W → Calls Tryd.prog 12 #[mv (2, 2, 3, 2), sgv dS] W fun e w' => e = .returned (tev (0, 0, 8)) ∧ Below W.heap.size W w' from fun W b => by have := ppln_any (2, 2, 3, 2) dS W (T.later b); rwa [pl2.2] at this)
  have CL := Lib.hid (fun k W => pcls_any k W)
  have WO := Lib.hid want_ok
  have O2 := Lib.hid (show ∀ W, Below w.heap.size w W → Calls Tryd.prog 35 #[] W fun e w' => e = .returned (.bool true) ∧ Below W.heap.size W w' from fun W b => lones2_any W (T.later b))
  have C3 := Lib.hid (show ∀ W, Below w.heap.size w W → Calls Tryd.prog 36 #[.int .i64 3, .int .i64 0, .string { data := #[97] }, .slice (some ⟨W.heap.size, 0, none⟩) 3 3] (W.alloc (litO [tS, dS, eS])) fun e w' => e = .returned (.bool true) ∧ Below W.heap.size W w' from fun W b => by
    have := lchecks_any 3 0 aN (by decide) [tS, dS, eS] _ _ _ (lit_sl W [tS, dS, eS] (by decide)) (T.later (w_below b (lit_below W _)))
    rw [aN_ok, ck3.1] at this
    exact this.mono fun e w' ⟨h1, h2⟩ => ⟨h1, w_below (lit_below W _) h2⟩)
  have C4 := Lib.hid (show ∀ W, Below w.heap.size w W → Calls Tryd.prog 36 #[.int .i64 3, .int .i64 0, .string { data := #[97] }, .slice (some ⟨W.heap.size, 0, none⟩) 1 1] (W.alloc (sgO tS)) fun e w' => e = .returned (.bool true) ∧ Below W.heap.size W w' from fun W b => by
    have := lchecks_any 3 0 aN (by decide) [tS] _ _ _ (one_sg W tS) (T.later (w_below b (w_alloc (w_refl W) _)))
    rw [aN_ok, ck3.2] at this
    exact this.mono fun e w' ⟨h1, h2⟩ => ⟨h1, w_below (w_alloc (w_refl W) _) h2⟩)
  have C5 := Lib.hid (show ∀ W, Below w.heap.size w W → Calls Tryd.prog 36 #[.int .i64 7, .int .i64 0, .string { data := #[65] }, .slice none 0 0] W fun e w' => e = .returned (.bool true) ∧ Below W.heap.size W w' from fun W b => by
    have := lchecks_any 7 0 bigN (by decide) [] none 0 W ⟨rfl, by simp, by omega, fun _ => rfl, by simp [flatG], fun h => by simp at h⟩ (T.later b)
    rw [bigN_no, chk_name] at this
    exact this)
  have C6 := Lib.hid (show ∀ q c W, SlP W 17 q 401 c (flatG (List.replicate 401 dS)) → Below w.heap.size w W → Calls Tryd.prog 36 #[.int .i64 11, .int .i64 0, .string { data := #[97] }, .slice q 401 c] W fun e w' => e = .returned (.bool true) ∧ Below W.heap.size W w' from fun q c W h b => by
    have hl : (List.replicate 401 dS).length = 401 := List.length_replicate
    have := lchecks_any 11 0 aN (by decide) (List.replicate 401 dS) q c W (by rw [hl]; exact h) (T.later b)
    rw [aN_ok, ck_dots, hl] at this
    exact this)
  have AW := Lib.hid (show ∀ W, Below w.heap.size w W → Calls Tryd.prog 16 #[] W fun e w' => e = .returned (.bool true) ∧ Below W.heap.size W w' from fun W b => awake_any W (T.later b))
  have S1 := Lib.hid si1_any
  have S2 := Lib.hid si2_any
  have S3 := Lib.hid si3_any
  have S4 := Lib.hid si4_any
  have B := Lib.hid (w_refl w)
  clear T
  go_enter Tryd.func6, Tryd.ntmps6
  go_wp2_with fail
  refine (NT.out _ _).mono ?_
  rintro e w1 ⟨rfl, hb⟩
  replace B := Lib.hid (w_below B.out hb)
  clear hb
  go_wp2_with fail
  refine (DO.out _).mono ?_
  rintro e w1 ⟨rfl, hb⟩
  replace B := Lib.hid (w_below B.out hb)
  clear hb
  go_wp2_with fail
  refine (TI.out _).mono ?_
  rintro e w1 ⟨rfl, hb⟩
  replace B := Lib.hid (w_below B.out hb)
  clear hb
  go_wp2_with fail
  refine (TI.out _).mono ?_
  rintro e w1 ⟨rfl, hb⟩
  replace B := Lib.hid (w_below B.out hb)
  clear hb
  go_wp2_with fail
  refine (LA.out _).mono ?_
  rintro e w1 ⟨rfl, hb⟩
  replace B := Lib.hid (w_below B.out hb)
  clear hb
  go_wp2_with fail
  refine (RS.out _ _).mono ?_
  rintro e w1 ⟨rfl, hb⟩
  replace B := Lib.hid (w_below B.out hb)
  clear hb
  go_wp2_with fail
  refine (TI.out _).mono ?_
  rintro e w1 ⟨rfl, hb⟩
  replace B := Lib.hid (w_below B.out hb)
  clear hb
  go_wp2_with fail
  refine (LA.out _).mono ?_
  rintro e wz ⟨rfl, hb⟩
  replace B := Lib.hid (w_below B.out hb)
  clear hb
  go_upto_region 2 with (first | (refine wl_lit 8 _ exL #[(0, sgv (nS 3)), (1, sgv dS), (2, sgv tS), (3, sgv tS), (4, sgv eS), (5, sgv (rS 4)), (6, sgv tS), (7, sgv eS)] (by kernel_rfl) (run_lit8 (nS 3) dS tS tS eS (rS 4) tS eS _) (by kernel_rfl) ?_) | fail)
  have FX := Lib.hid (show ExX w ((wz.alloc (litO exL)).alloc (ptO { data := #[97] } (some ⟨wz.heap.size, 0, none⟩) 8 8)) (wz.heap.size + 1) (some ⟨wz.heap.size, 0, none⟩) from ⟨by have := pt_new (wz.alloc (litO exL)) { data := #[97] } (some ⟨wz.heap.size, 0, none⟩) 8 8; rwa [World.size_alloc] at this, (lit_sl wz exL (by decide)).later (w_alloc (w_refl _) _), w_alloc (w_alloc B.out _) _⟩)
  obtain ⟨b1, hb1⟩ : ∃ b1, wz.heap.size + 1 = b1 := ⟨_, rfl⟩
  rw [hb1] at FX ⊢
  generalize (wz.alloc (litO exL)).alloc (ptO { data := #[97] } (some ⟨wz.heap.size, 0, none⟩) 8 8) = y at *
  generalize (some (⟨wz.heap.size, 0, none⟩ : Addr)) = q at *
  clear hb1 B
  have j0 := FX.out.h.cell (j := 0) rfl
  have j1 := FX.out.h.cell (j := 1) rfl
  go_wp2_with fail
  refine (PT.out _ _ FX.out.s FX.out.b).mono ?_
  rintro e w9 ⟨pa, ca, rfl, hs, hb⟩
  have Sa := Lib.hid hs
  replace FX := Lib.hid (FX.out.later hb)
  clear hb hs PT j0 j1
  have j0 := FX.out.h.cell (j := 0) rfl
  have j1 := FX.out.h.cell (j := 1) rfl
  go_wp2_with fail
  refine (PL.out _ _ FX.out.s FX.out.b).mono ?_
  rintro e w9 ⟨pd, cd, pf, cf, rfl, hs, hs2, hb⟩
  have Sd := Lib.hid hs
  have Sf := Lib.hid hs2
  replace FX := Lib.hid (FX.out.later hb)
  replace Sa := Lib.hid (Sa.out.later hb)
  clear hb hs hs2 PL j0 j1
  have j0 := FX.out.h.cell (j := 0) rfl
  have j1 := FX.out.h.cell (j := 1) rfl
  go_wp2_with fail
  refine (PN.out _ _ FX.out.s FX.out.b).mono ?_
  rintro e w9 ⟨pi, ci, rfl, hs, hb⟩
  have Si := Lib.hid hs
  replace Sa := Lib.hid (Sa.out.later hb)
  replace Sd := Lib.hid (Sd.out.later hb)
  replace Sf := Lib.hid (Sf.out.later hb)
  have B := Lib.hid (w_below FX.out.b hb)
  clear hb hs PN j0 j1 FX
  go_wp2_with fail
  refine (S1.out _ _ _ Sa.out).mono ?_
  rintro e w9 ⟨rfl, hb⟩
  replace Sd := Lib.hid (Sd.out.later hb)
  replace Sf := Lib.hid (Sf.out.later hb)
  replace Si := Lib.hid (Si.out.later hb)
  replace B := Lib.hid (w_below B.out hb)
  clear hb Sa S1
  go_wp2_with fail
  refine (S2.out _ _ _ Sd.out).mono ?_
  rintro e w9 ⟨rfl, hb⟩
  replace Sf := Lib.hid (Sf.out.later hb)
  replace Si := Lib.hid (Si.out.later hb)
  replace B := Lib.hid (w_below B.out hb)
  clear hb Sd S2
  go_wp2_with fail
  refine (S3.out _ _ _ Sf.out).mono ?_
  rintro e w9 ⟨rfl, hb⟩
  replace Si := Lib.hid (Si.out.later hb)
  replace B := Lib.hid (w_below B.out hb)
  clear hb Sf S3
  go_wp2_with fail
  refine (S4.out _ _ _ Si.out).mono ?_
  rintro e w9 ⟨rfl, hb⟩
  replace B := Lib.hid (w_below B.out hb)
  clear hb Si S4
  go_upto_region 8 with (fail)
  have HM := Lib.hid (HoldsB.new w9 23 #[.int .i64 2, .int .i64 2, .int .i64 3, .int .i64 2])
  replace B := Lib.hid (w_alloc B.out (.cells #[.int .i64 2, .int .i64 2, .int .i64 3, .int .i64 2] 23))
  obtain ⟨b1, hb1⟩ : ∃ b1, w9.heap.size = b1 := ⟨_, rfl⟩
  rw [hb1] at HM ⊢
  generalize w9.alloc (.cells #[.int .i64 2, .int .i64 2, .int .i64 3, .int .i64 2] 23) = y at *
  clear hb1
  have FX := Lib.hid (show KnX w y b1 from ⟨HM.out, B.out⟩)
  clear HM B
  go_cut [3, 10] (fun s3 s10 wc => s3 = .int .i64 0 ∧ ∃ C : Nat, s10 = .pointer (some ⟨C, 0, none⟩) ∧ Hid (Own2 wc C 2 1) ∧ Hid (KnX w wc b1))
  case first =>
    have FD := Lib.hid (FX.out.later (w_refl y).drew)
    clear DO TI LA NT P2 CL WO O2 C3 C4 C5 C6 AW
    go_region_held3 (fun W => W.cell? ⟨b1, 0, none⟩ = some (.int .i64 2) ∧ W.cell? ⟨b1, 1, none⟩ = some (.int .i64 2) ∧ W.cell? ⟨b1, 2, none⟩ = some (.int .i64 3) ∧ W.cell? ⟨b1, 3, none⟩ = some (.int .i64 2))
      (first | exact FD.out.four | exact (KnX.later (KnX.al FX.out (.cells #[.int .i64 0, .int .i64 0] 32)) (w_refl _).drew).four | exact FE.out.four | exact (FE.out.al _).four | exact FZ.out.four | exact (FZ.out.al _).four | exact (FZ.out.put (Nat.ne_of_lt FX.out.m.lt) FX.out.b.size _ _).four | exact (FZ.out.put (Nat.ne_of_lt FE.out.m.lt) FE.out.b.size _ _).four | fail)
      (first
        | (go_at_call 34; refine (RS.out _ _).mono ?_; rintro e wn ⟨rfl, hb⟩
           first
             | (have FE := Lib.hid (KnX.later FD.out hb))
             | (have FE := Lib.hid (KnX.later (KnX.later (KnX.al FX.out (.cells #[.int .i64 0, .int .i64 0] 32)) (w_refl _).drew) hb); have G := Lib.hid (((Own2.made y 0 0 32).later (w_refl _).drew).later hb))
           clear hb RS)
        | (go_at_call 12; refine (P1.out _ (by first | exact FE.out.b | exact (FE.out.al _).b)).mono ?_; rintro e wm ⟨rfl, hb⟩
           first
             | (have FZ := Lib.hid (KnX.later FE.out hb); try (replace G := Lib.hid (G.out.later hb); obtain ⟨_, g0, g1, f0, f1⟩ := G.out))
             | (have FZ := Lib.hid (KnX.later (KnX.al FE.out _) hb); have G := Lib.hid ((Own2.made _ 0 0 32).later hb); obtain ⟨_, g0, g1, f0, f1⟩ := G.out)
           clear hb P1)
        | fail)
    all_goals
      go_wp2_with fail
      go_meet
    all_goals first
      | exact ⟨rfl, wm.heap.size, rfl, Lib.hid (Own2.made wm 2 1 32), Lib.hid (FZ.out.al _)⟩
      | exact ⟨rfl, _, rfl, Lib.hid (own2_put G.out), Lib.hid (FZ.out.put (Nat.ne_of_lt FX.out.m.lt) FX.out.b.size _ _)⟩
      | exact ⟨rfl, _, rfl, Lib.hid (own2_put G.out), Lib.hid (FZ.out.put (Nat.ne_of_lt FE.out.m.lt) FE.out.b.size _ _)⟩
  case rest =>
    rename World => wc
    obtain ⟨C, rfl, HT, FX⟩ := hcut.2
    have h3 := hcut.1
    subst h3
    clear hcut
    have KD := Lib.hid (show ∀ n : Grown wc, Calls Tryd.prog 31 #[] n.W fun e w' => e = .returned (sgv dS) ∧ Grew wc w' from fun n => (DO.out n.W).mono fun e w' ⟨h1, h2⟩ => ⟨h1, n.on h2, rfl⟩)
    have KP := Lib.hid (show ∀ n : Grown wc, Calls Tryd.prog 12 #[mv (2, 2, 3, 2), sgv dS] n.W fun e w' => e = .returned (tev (0, 0, 8)) ∧ Grew wc w' from fun n => (P2.out n.W (w_below FX.out.b n.b)).mono fun e w' ⟨h1, h2⟩ => ⟨h1, n.on h2, rfl⟩)
    have t0 : ∀ n : Grown wc, n.W.cell? ⟨b1, 0, none⟩ = some (.int .i64 2) := fun n => (FX.out.later n.b).four.1
    have t1 : ∀ n : Grown wc, n.W.cell? ⟨b1, 1, none⟩ = some (.int .i64 2) := fun n => (FX.out.later n.b).four.2.1
    have t2 : ∀ n : Grown wc, n.W.cell? ⟨b1, 2, none⟩ = some (.int .i64 3) := fun n => (FX.out.later n.b).four.2.2.1
    have t3 : ∀ n : Grown wc, n.W.cell? ⟨b1, 3, none⟩ = some (.int .i64 2) := fun n => (FX.out.later n.b).four.2.2.2
    go_wp2_with fail
    refine wp_region_grown (by kernel_rfl) (by kernel_rfl) ?_
    repeat (go_big_quiet_step ((first | exact KD.out _ | exact KP.out _)))
    refine wpQuiet_nil ?_
    intro n
    have d0 := (HT.out.later n.b).c0
    have d1 := (HT.out.later n.b).c1
    have B := Lib.hid (w_below FX.out.b n.b)
    have NB := Lib.hid n.b
    clear KD KP t0 t1 t2 t3 P1 P2 RS NT FX HT
    obtain ⟨ww, bb⟩ := n
    simp only at d0 d1 B NB
    go_upto_region 13 with (fail)
    clear d0 d1 NB bb
    have HW := Lib.hid (HoldsB.new ww 3 #[.int .i64 1, .int .i64 1, .int .i64 2, .int .i64 1, .int .i64 3, .int .i64 3, .int .i64 4, .int .i64 4, .int .i64 3, .int .i64 3, .int .i64 4, .int .i64 4])
    replace B := Lib.hid (w_alloc B.out (.cells #[.int .i64 1, .int .i64 1, .int .i64 2, .int .i64 1, .int .i64 3, .int .i64 3, .int .i64 4, .int .i64 4, .int .i64 3, .int .i64 3, .int .i64 4, .int .i64 4] 3))
    obtain ⟨b3, hb3⟩ : ∃ b3, ww.heap.size = b3 := ⟨_, rfl⟩
    rw [hb3] at HW ⊢
    generalize ww.alloc (.cells #[.int .i64 1, .int .i64 1, .int .i64 2, .int .i64 1, .int .i64 3, .int .i64 3, .int .i64 4, .int .i64 4, .int .i64 3, .int .i64 3, .int .i64 4, .int .i64 4] 3) = y3 at *
    clear hb3
    go_wp2_with fail
    go_loopw [12] (fun i wr => ∃ k : Nat, k ≤ 12 ∧ i = .int .i64 k ∧ y3 = wr) (fun i _ => 12 - (intOf i).toNat)
    case atStart => exact ⟨0, by omega, rfl, rfl⟩
    case round =>
      rename World => wr
      obtain ⟨k, hk, rfl, rfl⟩ := hrel
      by_cases hlt : k < 12
      · have hlt' : (k : Int) < 12 := by omega
        have hk0 : (0 : Int) ≤ k := by omega
        have CLk := CL.out ((k : Int) + 1) y3
        rw [WO.out k hlt] at CLk
        replace CLk := Lib.hid CLk
        have c1 := HW.out.cell (j := k) (want_at k hlt)
        clear CL WO DO O2 C3 C4 C5 C6 AW TI LA
        generalize wantI k = z at *
        go_wp2_with fail
        refine (CLk.out).mono ?_
        rintro e w2 ⟨rfl, rfl⟩
        clear CLk
        go_wp2_with fail
        go_roundw
        case rel => exact ⟨k + 1, by omega, by go_num, by trivial⟩
        case measure => simp [intOf]; omega
      · have hkk : k = 12 := by omega
        subst hkk
        have CLk := CL.out 0 y3
        rw [cl_zero] at CLk
        replace CLk := Lib.hid CLk
        clear CL WO HW
        go_wp2_with fail
        refine (CLk.out).mono ?_
        rintro e w2 ⟨rfl, rfl⟩
        clear CLk
        go_wp2_with fail
        obtain ⟨i0, hi0, hz0, hz1, hz2⟩ := info_parts info_sign
        go_loopw [15, 16] (fun v i wr => ∃ k : Nat, k ≤ 401 ∧ i = .int .i64 k ∧ (∃ q c, v = .slice q k c) ∧ Hid (OwnL y3 wr 27 17 v k (flatG (List.replicate k dS)))) (fun _ i _ => 401 - (intOf i).toNat)
        case atStart => exact ⟨0, by omega, rfl, ⟨none, 0, rfl⟩, Lib.hid (OwnL.start y3 _ _)⟩
        case round =>
          rename World => wr
          obtain ⟨k, hk, rfl, ⟨q4, c4, rfl⟩, ho⟩ := hrel
          by_cases hlt : k < 401
          · have hlt' : (k : Int) < 401 := by omega
            have hk0 : (0 : Int) ≤ k := by omega
            clear TI LA O2 C3 C4 C5 C6 AW
            go_wp2_with fail
            refine (DO.out _).mono ?_
            rintro e w2 ⟨rfl, hb⟩
            replace ho := Lib.hid (ho.out.later hb)
            have hbase := ho.out.bel.size
            clear hb DO
            go_wp2_with (first
              | (at_builtin; refine wpList_append_sl rfl _ _ 38 rfl y3.heap.size 27 i0 (sgv zS) 17 128 Tryd.underlying38 hi0 hz0 hz1 hz2 rfl (by decide) _ k (flatG (List.replicate k dS)) rfl (ho.out.later (w_alloc (w_refl _) (sgO dS))).row (some ⟨w2.heap.size, 0, none⟩) 1 1 (flatG [dS]) rfl (one_sg w2 dS) (by unfold maxLen; omega) (by omega) (by simp; omega) ?_)
              | (refine wl_lit1 _ dS (by kernel_rfl) (by kernel_rfl) ?_)
              | fail)
            intro v' w3 hown hgrow
            have HN := Lib.hid (show OwnL y3 w3 27 17 v' (k + 1) (flatG (List.replicate (k + 1) dS)) by
              have := ho.out.app (w_alloc (w_refl _) _) hown hgrow
              rw [← flatG_app, ← List.replicate_succ'] at this
              exact this)
            obtain ⟨q2, c2, rfl⟩ := HN.out.val
            clear hown hgrow ho
            go_wp2_with fail
            go_roundw
            case rel => exact ⟨k + 1, by omega, by go_num, ⟨q2, c2, rfl⟩, HN⟩
            case measure => simp [intOf]; omega
          · have hkk : k = 401 := by omega
            subst hkk
            have HS := Lib.hid (own_dots ho.out List.length_replicate)
            replace B := Lib.hid (w_below B.out ho.out.bel)
            clear ho
            go_wp2_with fail
            refine (O2.out _ B.out).mono ?_
            rintro e w9 ⟨rfl, hb⟩
            replace B := Lib.hid (w_below B.out hb)
            replace HS := Lib.hid (HS.out.later hb)
            clear hb
            go_wp2_with fail
            refine (TI.out _).mono ?_
            rintro e w9 ⟨rfl, hb⟩
            replace B := Lib.hid (w_below B.out hb)
            replace HS := Lib.hid (HS.out.later hb)
            clear hb
            go_wp2_with fail
            refine (DO.out _).mono ?_
            rintro e w9 ⟨rfl, hb⟩
            replace B := Lib.hid (w_below B.out hb)
            replace HS := Lib.hid (HS.out.later hb)
            clear hb
            go_wp2_with fail
            refine (LA.out _).mono ?_
            rintro e w9 ⟨rfl, hb⟩
            replace B := Lib.hid (w_below B.out hb)
            replace HS := Lib.hid (HS.out.later hb)
            clear hb
            go_wp2_with (first | (refine wl_lit 3 _ [tS, dS, eS] #[(0, sgv tS), (1, sgv dS), (2, sgv eS)] (by kernel_rfl) (run_lit3 tS dS eS _) (by kernel_rfl) ?_) | fail)
            refine (C3.out _ B.out).mono ?_
            rintro e w9 ⟨rfl, hb⟩
            replace B := Lib.hid (w_below B.out hb)
            replace HS := Lib.hid (HS.out.later hb)
            clear hb
            go_wp2_with fail
            refine (TI.out _).mono ?_
            rintro e w9 ⟨rfl, hb⟩
            replace B := Lib.hid (w_below B.out hb)
            replace HS := Lib.hid (HS.out.later hb)
            clear hb
            go_wp2_with (first | (refine wl_lit1 _ tS (by kernel_rfl) (by kernel_rfl) ?_) | fail)
            refine (C4.out _ B.out).mono ?_
            rintro e w9 ⟨rfl, hb⟩
            replace B := Lib.hid (w_below B.out hb)
            replace HS := Lib.hid (HS.out.later hb)
            clear hb
            go_wp2_with fail
            refine (C5.out _ B.out).mono ?_
            rintro e w9 ⟨rfl, hb⟩
            replace B := Lib.hid (w_below B.out hb)
            replace HS := Lib.hid (HS.out.later hb)
            clear hb
            go_wp2_with fail
            refine (C6.out _ _ _ HS.out B.out).mono ?_
            rintro e w9 ⟨rfl, hb⟩
            replace B := Lib.hid (w_below B.out hb)
            replace HS := Lib.hid (HS.out.later hb)
            clear hb
            go_wp2_with fail
            refine (AW.out _ B.out).mono ?_
            rintro e w9 ⟨rfl, hb⟩
            replace B := Lib.hid (w_below B.out hb)
            replace HS := Lib.hid (HS.out.later hb)
            clear hb
            go_wp2_with fail
            go_ret
            exact ⟨rfl, B.out⟩


end Go.Proofs.YtcomjcflllfobaaDoor
