/- The fields that the kinds use, the program's two tables as they stand in memory, stores of whole structs. -/
import Derived.Test.YtcomjcflllfobaaDoorLgOps
import Derived.Test.YtcomjcflllfobaaDoorMProgB
import Derived.Test.YtcomjcflllfobaaDoorQGrow
import Derived.Laws.Tables
import Derived.Laws.CopyOwn
import Derived.LaidLaws
import Derived.ChangeArms
import Derived.Lib.LaidU8
namespace Go.Proofs.YtcomjcflllfobaaDoor
open Go.RowKit

/-- Which fields a kind uses. -/
structure Fd where
  fv : Bool
  fp : Bool
  fa : Bool
  fc : Bool
  fs : Bool
  fo : Bool
  fl : Bool
  fm : Bool
  fk : Bool
  fn : Bool
  fd : Bool
  fC : Bool
def fdA (f : Fd) : Array Value := #[.bool f.fv, .bool f.fp, .bool f.fa, .bool f.fc, .bool f.fs, .bool f.fo, .bool f.fl, .bool f.fm, .bool f.fk, .bool f.fn, .bool f.fd, .bool f.fC]
def fdv (f : Fd) : Value := .agg (fdA f)
def fdO (f : Fd) : Obj := .cells (fdA f) 65
def fdL (f : Fd) : List Value := (fdA f).toList
def fdK : Nat → Fd
  | 1 => ⟨true, true, true, true, false, false, false, false, false, false, false, false⟩
  | 2 => ⟨true, false, false, false, false, false, false, false, false, false, false, false⟩
  | 4 => ⟨false, true, true, true, true, true, true, false, false, false, false, false⟩
  | 5 => ⟨false, false, false, false, false, false, false, true, true, false, false, false⟩
  | 6 => ⟨false, false, false, false, false, false, false, false, false, true, true, false⟩
  | 7 => ⟨false, false, false, false, false, false, false, false, false, false, false, true⟩
  | 8 => ⟨false, false, false, false, false, false, false, false, false, true, false, false⟩
  | 10 => ⟨false, false, false, false, false, false, false, false, false, true, false, false⟩
  | _ => ⟨false, false, false, false, false, false, false, false, false, false, false, false⟩
theorem fd_size : (Tryd.prog.info? 65).map (·.size) = some 12 := by kernel_rfl
theorem fdL_one (f : Fd) : ∀ u ∈ fdL f, u.oneCell' = true := by
  intro u hu
  simp only [fdL, fdA, List.mem_cons, List.not_mem_nil, or_false] at hu
  rcases hu with rfl | rfl | rfl | rfl | rfl | rfl | rfl | rfl | rfl | rfl | rfl | rfl <;> rfl
theorem fd_all (f : Fd) : (fdA f).all (·.oneCell') = true := by
  have := all_oneCell_toArray (fdL_one f)
  rwa [show (fdL f).toArray = fdA f from rfl] at this
theorem fd_new (w : World) (f : Fd) : HoldsB (w.alloc (fdO f)) w.heap.size 65 (fdA f) := HoldsB.new w _ _
theorem holds_range {W : World} {b : Nat} {t : TypeId} {cs : Array Value} (h : HoldsB W b t cs) : W.rangeAt b 0 cs.toList := fun j v hj => by
  rw [Nat.zero_add]
  exact h.cell (by rw [← Array.getElem?_toList]; exact hj)
theorem range_later {w w1 : World} {b o : Nat} {cs : List Value} (h : w.rangeAt b o cs) (k : Below w.heap.size w w1) : w1.rangeAt b o cs := fun j v hj => cell_later k (h j v hj)

section
variable {ops : Array Oper} {rest : List Oper} {dd : Option Tmp} {x y : Operand} {t : TypeId} {ps : String} {af : Array Edge} {a : Act} {Q : Exit → Act → World → Prop}
theorem wl_loadF {w : World} (b o : Nat) (f : Fd) (hx : a.eval x = .pointer (some ⟨b, o, none⟩)) (hs : w.rangeAt b o (fdL f)) (h : wpList Tryd.prog ops Q rest (a.put dd (fdv f)) w) :
    wpList Tryd.prog ops Q ({ dst := dd, op := .load 65 x, type := t, pos := ps, after := af, guard := none } :: rest) a w :=
  wpList_load_mid rfl 65 x rfl b o hx (fdL f) _ hs Tryd.underlying65 rfl fd_size h
/-- A store of a whole struct. -/
theorem wl_row {W : World} (ty : TypeId) (g : Nat) (t0 : TypeId) (old cells : Array Value) (hg : HoldsB W g t0 old) (hx : a.eval x = .pointer (some ⟨g, 0, none⟩)) (hy : a.eval y = .agg cells)
    (hi : (Tryd.prog.info? ty).map (·.size) = some cells.size) (ho : old.size = cells.size) (h1 : cells.all (·.oneCell') = true)
    (h : ∀ W', HoldsB W' g t0 cells → (∀ B w0, Below B w0 W → B ≤ g → Below B w0 W') → (∀ c, c ≠ g → W'.heap[c]? = W.heap[c]?) → wpList Tryd.prog ops Q rest a W') :
    wpList Tryd.prog ops Q ({ dst := none, op := .store ty x y, type := t, pos := ps, after := af, guard := none } :: rest) a W := by
  refine wpList_store_row rfl ty x y rfl g cells hx hy t0 old hg hi ho h1 ?_
  exact h _ (setRow_heap W g old cells t0 (0, 0) hg) (fun B w0 hb hB => below_setRow hb hB cells) (fun c hc => setRow_other W g c cells hc)
theorem wl_rowS {W : World} (g : Nat) (old : Array Value) (s : Sg) (hg : HoldsB W g 27 old) (hx : a.eval x = .pointer (some ⟨g, 0, none⟩)) (hy : a.eval y = sgv s) (ho : old.size = 17)
    (h : ∀ W', HoldsB W' g 27 (sgA s) → (∀ B w0, Below B w0 W → B ≤ g → Below B w0 W') → (∀ c, c ≠ g → W'.heap[c]? = W.heap[c]?) → wpList Tryd.prog ops Q rest a W') :
    wpList Tryd.prog ops Q ({ dst := none, op := .store 27 x y, type := t, pos := ps, after := af, guard := none } :: rest) a W :=
  wl_row 27 g _ old (sgA s) hg hx hy sg_size (by rw [ho]; rfl) (sg_all s) h
theorem wl_storeF0 {W : World} (B : Nat) (c : Array Value) (f : Fd) (hB : B = W.heap.size) (hx : a.eval x = .pointer (some ⟨B, 0, none⟩)) (hy : a.eval y = fdv f) (hc : c.size = 12)
    (h : wpList Tryd.prog ops Q rest a (W.alloc (fdO f))) :
    wpList Tryd.prog ops Q ({ dst := none, op := .store 65 x y, type := t, pos := ps, after := af, guard := none } :: rest) a (W.alloc (.cells c 65)) := by
  subst hB
  refine wpList_plain rfl fun _ hK => ?_
  unfold Oper.wp execOp
  simp only [hx, hy, Instr.storeAt, Instr.sureAddr, Sem.run_bind, Sem.run_pure, Result.andThen_ok]
  unfold fdv
  simp only [run_storeVar_new (P := Tryd.prog) W 65 c (fdA f) fd_size (by rw [hc]; rfl) (fd_all f)]
  exact hK _ _ h
theorem wl_store0 {W : World} (B : Nat) (c : Array Value) (s : Sg) (hB : B = W.heap.size) (hx : a.eval x = .pointer (some ⟨B, 0, none⟩)) (hy : a.eval y = sgv s) (hc : c.size = 17)
    (h : wpList Tryd.prog ops Q rest a (W.alloc (sgO s))) :
    wpList Tryd.prog ops Q ({ dst := none, op := .store 27 x y, type := t, pos := ps, after := af, guard := none } :: rest) a (W.alloc (.cells c 27)) :=
  wl_store B c s hB hx hy hc h
/-- A sign that is built. -/
theorem wl_buildS {w : World} {d : Tmp} (parts : Array (Nat × Operand)) (s : Sg) (hb : Tryd.prog.built 27 (parts.map fun (i, x) => (i, a.eval x)).toList = some (sgA s)) (h : wpList Tryd.prog ops Q rest (a.put (some d) (sgv s)) w) :
    wpList Tryd.prog ops Q ({ dst := some d, op := .build 27 parts, type := t, pos := ps, after := af, guard := none } :: rest) a w := by
  refine wpList_build rfl 27 parts rfl (by rw [hb]; rfl) ?_
  rw [hb]
  exact h
theorem wl_boxF {w : World} (f : Fd) (hx : a.eval x = fdv f) (h : wpList Tryd.prog ops Q rest (a.put dd (.pointer (some ⟨w.heap.size, 0, none⟩))) (w.alloc (fdO f))) :
    wpList Tryd.prog ops Q ({ dst := dd, op := .box 65 x, type := t, pos := ps, after := af, guard := none } :: rest) a w := by
  refine wpList_plain rfl fun _ hK => ?_
  unfold Oper.wp execOp
  have e : (Instr.box 65 (fdv f)).run Tryd.prog w = .ok (.pointer (some ⟨w.heap.size, 0, none⟩)) (w.alloc (fdO f)) := by
    unfold fdv fdO
    simp [Instr.box, newVar, go_sem]
  simp only [hx, Sem.run_bind, e, Result.andThen_ok, Sem.run_pure]
  exact hK _ _ h
end
theorem fd_yields {ops : Array Oper} {S : World → Prop} {op : Oper} {a : Act} (x : Operand) (b o : Nat) (f : Fd) (hw : Region.wanted op (yielded ops a.tmps) = true) (ho : op.op = .load 65 x)
    (hx : a.eval x = .pointer (some ⟨b, o, none⟩)) (hS : ∀ w, S w → w.rangeAt b o (fdL f)) : YieldsIf Tryd.prog ops S op (fdv f) a :=
  yieldsIf_load_mid hw 65 x ho b o hx (fdL f) _ hS Tryd.underlying65 rfl fd_size

/-! ### The tables -/
/-- The pitches of the clefs, number for number. -/
def cpI (i : Nat) : Int := ([0, 4, 0, 3, 3, 0, 4, 4, 0] : List Int).getD i 0
/-- The tables stand as the program's text lays them. -/
structure TabS (w : World) : Prop where
  p : ∀ i : Nat, i < 9 → w.cell? ⟨1, i, none⟩ = some (.int .i64 (cpI i))
  u : ∀ k : Nat, k < 13 → w.rangeAt 0 (k * 12) (fdL (fdK k))
theorem TabS.later {w w1 : World} (T : TabS w) (b : Below w.heap.size w w1) : TabS w1 := ⟨fun i hi => cell_later b (T.p i hi), fun k hk => range_later (T.u k hk) b⟩
theorem TabS.al {w : World} (T : TabS w) (o : Obj) : TabS (w.alloc o) := T.later (w_alloc (w_refl w) o)

theorem cells_cp : Tryd.prog.cellsOf 101 = 3 := by kernel_rfl
theorem cells_i1 : Tryd.prog.cellsOf 3 = 1 := by kernel_rfl
theorem cells_b1 : Tryd.prog.cellsOf 4 = 1 := by kernel_rfl
theorem cells_fd : Tryd.prog.cellsOf 65 = 12 := by kernel_rfl
theorem take3 {l : List Value} {n : Nat} {a b c : Value} (h : (l.drop n).take 3 = [a, b, c]) : l[n]? = some a ∧ l[n + 1]? = some b ∧ l[n + 2]? = some c := by
  have e0 := congrArg (·[0]?) h
  have e1 := congrArg (·[1]?) h
  have e2 := congrArg (·[2]?) h
  simp only [List.getElem?_take, List.getElem?_drop] at e0 e1 e2
  exact ⟨by simpa using e0, by simpa using e1, by simpa using e2⟩
/-- A struct whose fields are bools. -/
theorem bools_of_struct {H : Type} {enc : TypeId × Value → H} {P : Program} {w : World} {base : Nat} {sp : Nat → Bool} {held : Bool} {fuel : Nat} {t : TypeId} {fs : Array Field} {cs : List Value} {zs : List Bool} {p : List MemPlace} (ht : P.underlying t = some (.struct fs))
    (hf : ∀ (i : Nat) (f : Field), fs[i]? = some f → P.underlying f.type = some .bool ∧ f.offset = i ∧ P.cellsOf f.type = 1) (hct : P.cellsOf t = fs.size)
    (h : DataW.trod enc P w base sp held fuel t cs = some (.agg (zs.map fun z => .lit (.bool z)), p)) : cs = zs.map fun z => Value.bool z := by
  obtain ⟨xs, n, rfl, hx, hl, hxl, hall⟩ := DataW.trod_struct ht h
  have hxs : xs.map (·.1) = zs.map fun z => (DataW.lit (.bool z) : DataW H) := by
    have := congrArg Prod.fst hx
    simpa using this.symm
  have hzl : zs.length = fs.size := by
    have := congrArg List.length hxs
    simp at this
    omega
  apply List.ext_getElem?
  intro i
  by_cases hi : i < fs.size
  · obtain ⟨hu, ho, hc⟩ := hf i fs[i] (by simp [hi])
    have h1 := hall i fs[i] (by simp [hi])
    obtain ⟨b, hb⟩ : ∃ b, xs[i]? = some b := ⟨xs[i]'(by omega), List.getElem?_eq_getElem (by omega)⟩
    rw [hb, ho, hc] at h1
    obtain ⟨z, hcz, rfl⟩ := DataW.trod_bool hu h1
    have h2 : cs[i]? = some (.bool z) := by
      have := congrArg (·[0]?) hcz
      simpa [List.getElem?_take, List.getElem?_drop] using this
    have h3 : (xs.map (·.1))[i]? = some (DataW.lit (.bool z) : DataW H) := by simp [hb]
    rw [hxs] at h3
    simp only [List.getElem?_map, Option.map_eq_some_iff, DataW.lit.injEq, Lit.bool.injEq] at h3
    obtain ⟨z', hz', rfl⟩ := h3
    simp [h2, hz']
  · rw [List.getElem?_eq_none (by omega), List.getElem?_eq_none (by simp; omega)]
def cpD : DataW Unit := .agg [.agg [.lit (.int .i64 0), .lit (.int .i64 4), .lit (.int .i64 0)], .agg [.lit (.int .i64 3), .lit (.int .i64 3), .lit (.int .i64 0)], .agg [.lit (.int .i64 4), .lit (.int .i64 4), .lit (.int .i64 0)]]
def ubL : List (DataW Unit) := [.agg [.lit (.bool false), .lit (.bool false), .lit (.bool false), .lit (.bool false), .lit (.bool false), .lit (.bool false), .lit (.bool false), .lit (.bool false), .lit (.bool false), .lit (.bool false), .lit (.bool false), .lit (.bool false)], .agg [.lit (.bool true), .lit (.bool true), .lit (.bool true), .lit (.bool true), .lit (.bool false), .lit (.bool false), .lit (.bool false), .lit (.bool false), .lit (.bool false), .lit (.bool false), .lit (.bool false), .lit (.bool false)], .agg [.lit (.bool true), .lit (.bool false), .lit (.bool false), .lit (.bool false), .lit (.bool false), .lit (.bool false), .lit (.bool false), .lit (.bool false), .lit (.bool false), .lit (.bool false), .lit (.bool false), .lit (.bool false)], .agg [.lit (.bool false), .lit (.bool false), .lit (.bool false), .lit (.bool false), .lit (.bool false), .lit (.bool false), .lit (.bool false), .lit (.bool false), .lit (.bool false), .lit (.bool false), .lit (.bool false), .lit (.bool false)], .agg [.lit (.bool false), .lit (.bool true), .lit (.bool true), .lit (.bool true), .lit (.bool true), .lit (.bool true), .lit (.bool true), .lit (.bool false), .lit (.bool false), .lit (.bool false), .lit (.bool false), .lit (.bool false)], .agg [.lit (.bool false), .lit (.bool false), .lit (.bool false), .lit (.bool false), .lit (.bool false), .lit (.bool false), .lit (.bool false), .lit (.bool true), .lit (.bool true), .lit (.bool false), .lit (.bool false), .lit (.bool false)], .agg [.lit (.bool false), .lit (.bool false), .lit (.bool false), .lit (.bool false), .lit (.bool false), .lit (.bool false), .lit (.bool false), .lit (.bool false), .lit (.bool false), .lit (.bool true), .lit (.bool true), .lit (.bool false)], .agg [.lit (.bool false), .lit (.bool false), .lit (.bool false), .lit (.bool false), .lit (.bool false), .lit (.bool false), .lit (.bool false), .lit (.bool false), .lit (.bool false), .lit (.bool false), .lit (.bool false), .lit (.bool true)], .agg [.lit (.bool false), .lit (.bool false), .lit (.bool false), .lit (.bool false), .lit (.bool false), .lit (.bool false), .lit (.bool false), .lit (.bool false), .lit (.bool false), .lit (.bool true), .lit (.bool false), .lit (.bool false)], .agg [.lit (.bool false), .lit (.bool false), .lit (.bool false), .lit (.bool false), .lit (.bool false), .lit (.bool false), .lit (.bool false), .lit (.bool false), .lit (.bool false), .lit (.bool false), .lit (.bool false), .lit (.bool false)], .agg [.lit (.bool false), .lit (.bool false), .lit (.bool false), .lit (.bool false), .lit (.bool false), .lit (.bool false), .lit (.bool false), .lit (.bool false), .lit (.bool false), .lit (.bool true), .lit (.bool false), .lit (.bool false)], .agg [.lit (.bool false), .lit (.bool false), .lit (.bool false), .lit (.bool false), .lit (.bool false), .lit (.bool false), .lit (.bool false), .lit (.bool false), .lit (.bool false), .lit (.bool false), .lit (.bool false), .lit (.bool false)], .agg [.lit (.bool false), .lit (.bool false), .lit (.bool false), .lit (.bool false), .lit (.bool false), .lit (.bool false), .lit (.bool false), .lit (.bool false), .lit (.bool false), .lit (.bool false), .lit (.bool false), .lit (.bool false)]]
def fdB (f : Fd) : List Bool := [f.fv, f.fp, f.fa, f.fc, f.fs, f.fo, f.fl, f.fm, f.fk, f.fn, f.fd, f.fC]
theorem ub_at : ∀ k, k < 13 → ubL[k]? = some (.agg ((fdB (fdK k)).map fun z => .lit (.bool z))) := by
  intro k hk
  have c : k = 0 ∨ k = 1 ∨ k = 2 ∨ k = 3 ∨ k = 4 ∨ k = 5 ∨ k = 6 ∨ k = 7 ∨ k = 8 ∨ k = 9 ∨ k = 10 ∨ k = 11 ∨ k = 12 := by omega
  rcases c with rfl | rfl | rfl | rfl | rfl | rfl | rfl | rfl | rfl | rfl | rfl | rfl | rfl <;> rfl
theorem tabs_of {w : World} (h : Lib.VarReads Tryd.prog w "tactus/clef.clefPitches" cpD) (k : Lib.VarReads Tryd.prog w "tactus/sign.usedBy" (.agg ubL)) : TabS w := by
  obtain ⟨g, t, cs, fuel, p, hg, hty, hvar, hd⟩ := h
  obtain ⟨g', t', cs', fuel', p', hg', hty', hvar', hd'⟩ := k
  obtain rfl : 1 = g := Option.some.inj ((show Tryd.prog.globalNamed "tactus/clef.clefPitches" = some 1 by kernel_rfl).symm.trans hg)
  obtain rfl : 0 = g' := Option.some.inj ((show Tryd.prog.globalNamed "tactus/sign.usedBy" = some 0 by kernel_rfl).symm.trans hg')
  obtain rfl : 104 = t := Option.some.inj ((show (Tryd.prog.globals[1]?).map (·.type) = some 104 by kernel_rfl).symm.trans hty)
  obtain rfl : 66 = t' := Option.some.inj ((show (Tryd.prog.globals[0]?).map (·.type) = some 66 by kernel_rfl).symm.trans hty')
  have h1 : ∀ (i : Nat) (hi : i < 3), ∀ a b c : Int, ([.agg [.lit (.int .i64 0), .lit (.int .i64 4), .lit (.int .i64 0)], .agg [.lit (.int .i64 3), .lit (.int .i64 3), .lit (.int .i64 0)], .agg [.lit (.int .i64 4), .lit (.int .i64 4), .lit (.int .i64 0)]] : List (DataW Unit))[i]? = some (.agg [.lit (.int .i64 a), .lit (.int .i64 b), .lit (.int .i64 c)]) →
      (cs.toList.drop (i * 3)).take 3 = [.int .i64 a, .int .i64 b, .int .i64 c] := by
    intro i hi a b c hb
    obtain ⟨f2, d, q, h1, h2⟩ := Lib.array_elem Tryd.underlying104 hd i hi
    rw [hb] at h1
    simp only [Option.some.injEq] at h1
    subst h1
    rw [cells_cp] at h2
    exact Lib.ints_of_struct (zs := [a, b, c]) Tryd.underlying101 (fun j f hj => by
      match j, hj with
      | 0, hj => simp at hj; subst hj; exact ⟨Tryd.underlying3, rfl, cells_i1⟩
      | 1, hj => simp at hj; subst hj; exact ⟨Tryd.underlying3, rfl, cells_i1⟩
      | 2, hj => simp at hj; subst hj; exact ⟨Tryd.underlying3, rfl, cells_i1⟩
      | j + 3, hj => simp at hj) (by rw [cells_cp]; rfl) h2
  refine ⟨fun i hi => ?_, fun k hk => ?_⟩
  · rw [World.var?_cell hg hvar i, ← Array.getElem?_toList]
    obtain ⟨a0, a1, a2⟩ := take3 (h1 0 (by omega) _ _ _ rfl)
    obtain ⟨b0, b1, b2⟩ := take3 (h1 1 (by omega) _ _ _ rfl)
    obtain ⟨c0, c1, c2⟩ := take3 (h1 2 (by omega) _ _ _ rfl)
    have : i = 0 ∨ i = 1 ∨ i = 2 ∨ i = 3 ∨ i = 4 ∨ i = 5 ∨ i = 6 ∨ i = 7 ∨ i = 8 := by omega
    rcases this with rfl | rfl | rfl | rfl | rfl | rfl | rfl | rfl | rfl
    · exact a0
    · exact a1
    · exact a2
    · exact b0
    · exact b1
    · exact b2
    · exact c0
    · exact c1
    · exact c2
  · intro j v hj
    rw [World.var?_cell hg' hvar' (k * 12 + j), ← Array.getElem?_toList]
    obtain ⟨f2, d, q, e1, e2⟩ := Lib.array_elem Tryd.underlying66 hd' k hk
    rw [ub_at k hk] at e1
    simp only [Option.some.injEq] at e1
    subst e1
    rw [cells_fd] at e2
    have e3 := bools_of_struct (zs := fdB (fdK k)) Tryd.underlying65 (fun i f hi => by
      match i, hi with
      | 0, hi => simp at hi; subst hi; exact ⟨Tryd.underlying4, rfl, cells_b1⟩
      | 1, hi => simp at hi; subst hi; exact ⟨Tryd.underlying4, rfl, cells_b1⟩
      | 2, hi => simp at hi; subst hi; exact ⟨Tryd.underlying4, rfl, cells_b1⟩
      | 3, hi => simp at hi; subst hi; exact ⟨Tryd.underlying4, rfl, cells_b1⟩
      | 4, hi => simp at hi; subst hi; exact ⟨Tryd.underlying4, rfl, cells_b1⟩
      | 5, hi => simp at hi; subst hi; exact ⟨Tryd.underlying4, rfl, cells_b1⟩
      | 6, hi => simp at hi; subst hi; exact ⟨Tryd.underlying4, rfl, cells_b1⟩
      | 7, hi => simp at hi; subst hi; exact ⟨Tryd.underlying4, rfl, cells_b1⟩
      | 8, hi => simp at hi; subst hi; exact ⟨Tryd.underlying4, rfl, cells_b1⟩
      | 9, hi => simp at hi; subst hi; exact ⟨Tryd.underlying4, rfl, cells_b1⟩
      | 10, hi => simp at hi; subst hi; exact ⟨Tryd.underlying4, rfl, cells_b1⟩
      | 11, hi => simp at hi; subst hi; exact ⟨Tryd.underlying4, rfl, cells_b1⟩
      | i + 12, hi => simp at hi) (by rw [cells_fd]; rfl) e2
    have hlt : j < 12 := (List.getElem?_eq_some_iff.1 hj).1
    have e4 := congrArg (·[j]?) e3
    simp only [List.getElem?_take, List.getElem?_drop, if_pos hlt] at e4
    rw [e4]
    have e5 : (fdB (fdK k)).map (fun z => Value.bool z) = fdL (fdK k) := rfl
    rw [e5]
    exact hj

end Go.Proofs.YtcomjcflllfobaaDoor
