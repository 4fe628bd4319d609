/- The fields that the kinds use, the program's two tables as they stand in memory, stores of whole structs. The check of a clef, the program's. Ligatures by definition: which notes are valid, and which values they have. Signs by definition: which fields a kind uses, which signs are valid, classes of kinds. Bytes, names, numbers, cuts at a byte: what the reference of layer 2 answers, for every text. The reference's Name, Number, Signed, Pair: for every text. Parts by definition: which are valid, and where else the first error is. Perfect values above a value, of the reference. -/
import Derived.Test.YtdmedealdhadcaaGreatDoorG01
import Derived.Test.YtdmedealdhadcaaGreatDoorG02
import Derived.Laws.Tables
import Derived.Laws.CopyOwn
import Derived.LaidLaws
import Derived.ChangeArms
import Derived.Lib.LaidU8
import Derived.Test.YtdmedealdhadcaaGreatDoorProg
import Derived.WalkKit
import Derived.WalkSpells
import Derived.WalkLawsBesides
import Derived.WalkMore
import Derived.WalkSmall
import Derived.Lib.Hide
import Derived.Lib.Strings
import Derived.Lib.IndexBytes
import Derived.BigQuiet
import Derived.OwnWalk

namespace Go.Proofs.YtdmedealdhadcaaGreatDoor
open Go.RowKit
/-- Which fields a kind uses. -/
structure Fd where
  fv : Bool
  fp : Bool
  fa : Bool
  fc : Bool
  fs : Bool
  fo : Bool
  fl : Bool
  fm : Bool
  fk : Bool
  fn : Bool
  fd : Bool
  fC : Bool
def fdA (f : Fd) : Array Value := #[.bool f.fv, .bool f.fp, .bool f.fa, .bool f.fc, .bool f.fs, .bool f.fo, .bool f.fl, .bool f.fm, .bool f.fk, .bool f.fn, .bool f.fd, .bool f.fC]
def fdv (f : Fd) : Value := .agg (fdA f)
def fdO (f : Fd) : Obj := .cells (fdA f) 114
def fdL (f : Fd) : List Value := (fdA f).toList
def fdK : Nat → Fd
  | 1 => ⟨true, true, true, true, false, false, false, false, false, false, false, false⟩
  | 2 => ⟨true, false, false, false, false, false, false, false, false, false, false, false⟩
  | 4 => ⟨false, true, true, true, true, true, true, false, false, false, false, false⟩
  | 5 => ⟨false, false, false, false, false, false, false, true, true, false, false, false⟩
  | 6 => ⟨false, false, false, false, false, false, false, false, false, true, true, false⟩
  | 7 => ⟨false, false, false, false, false, false, false, false, false, false, false, true⟩
  | 8 => ⟨false, false, false, false, false, false, false, false, false, true, false, false⟩
  | 10 => ⟨false, false, false, false, false, false, false, false, false, true, false, false⟩
  | _ => ⟨false, false, false, false, false, false, false, false, false, false, false, false⟩
theorem fd_size : (Tryz.prog.info? 114).map (·.size) = some 12 := by kernel_rfl
theorem fdL_one (f : Fd) : ∀ u ∈ fdL f, u.oneCell' = true := by
  intro u hu
  simp only [fdL, fdA, List.mem_cons, List.not_mem_nil, or_false] at hu
  rcases hu with rfl | rfl | rfl | rfl | rfl | rfl | rfl | rfl | rfl | rfl | rfl | rfl <;> rfl
theorem fd_all (f : Fd) : (fdA f).all (·.oneCell') = true := by
  have := all_oneCell_toArray (fdL_one f)
  rwa [show (fdL f).toArray = fdA f from rfl] at this
theorem fd_new (w : World) (f : Fd) : HoldsB (w.alloc (fdO f)) w.heap.size 114 (fdA f) := HoldsB.new w _ _
theorem holds_range {W : World} {b : Nat} {t : TypeId} {cs : Array Value} (h : HoldsB W b t cs) : W.rangeAt b 0 cs.toList := fun j v hj => by
  rw [Nat.zero_add]
  exact h.cell (by rw [← Array.getElem?_toList]; exact hj)
theorem range_later {w w1 : World} {b o : Nat} {cs : List Value} (h : w.rangeAt b o cs) (k : Below w.heap.size w w1) : w1.rangeAt b o cs := fun j v hj => cell_later k (h j v hj)
section
variable {ops : Array Oper} {rest : List Oper} {dd : Option Tmp} {x y : Operand} {t : TypeId} {ps : String} {af : Array Edge} {a : Act} {Q : Exit → Act → World → Prop}
theorem wl_loadF {w : World} (b o : Nat) (f : Fd) (hx : a.eval x = .pointer (some ⟨b, o, none⟩)) (hs : w.rangeAt b o (fdL f)) (h : wpList Tryz.prog ops Q rest (a.put dd (fdv f)) w) :
    wpList Tryz.prog ops Q ({ dst := dd, op := .load 114 x, type := t, pos := ps, after := af, guard := none } :: rest) a w :=
  wpList_load_mid rfl 114 x rfl b o hx (fdL f) _ hs Tryz.underlying114 rfl fd_size h
/-- A store of a whole struct. -/
theorem wl_row {W : World} (ty : TypeId) (g : Nat) (t0 : TypeId) (old cells : Array Value) (hg : HoldsB W g t0 old) (hx : a.eval x = .pointer (some ⟨g, 0, none⟩)) (hy : a.eval y = .agg cells)
    (hi : (Tryz.prog.info? ty).map (·.size) = some cells.size) (ho : old.size = cells.size) (h1 : cells.all (·.oneCell') = true)
    (h : ∀ W', HoldsB W' g t0 cells → (∀ B w0, Below B w0 W → B ≤ g → Below B w0 W') → (∀ c, c ≠ g → W'.heap[c]? = W.heap[c]?) → wpList Tryz.prog ops Q rest a W') :
    wpList Tryz.prog ops Q ({ dst := none, op := .store ty x y, type := t, pos := ps, after := af, guard := none } :: rest) a W := by
  refine wpList_store_row rfl ty x y rfl g cells hx hy t0 old hg hi ho h1 ?_
  exact h _ (setRow_heap W g old cells t0 (0, 0) hg) (fun B w0 hb hB => below_setRow hb hB cells) (fun c hc => setRow_other W g c cells hc)
theorem wl_rowS {W : World} (g : Nat) (old : Array Value) (s : Sg) (hg : HoldsB W g 27 old) (hx : a.eval x = .pointer (some ⟨g, 0, none⟩)) (hy : a.eval y = sgv s) (ho : old.size = 17)
    (h : ∀ W', HoldsB W' g 27 (sgA s) → (∀ B w0, Below B w0 W → B ≤ g → Below B w0 W') → (∀ c, c ≠ g → W'.heap[c]? = W.heap[c]?) → wpList Tryz.prog ops Q rest a W') :
    wpList Tryz.prog ops Q ({ dst := none, op := .store 27 x y, type := t, pos := ps, after := af, guard := none } :: rest) a W :=
  wl_row 27 g _ old (sgA s) hg hx hy sg_size (by rw [ho]; rfl) (sg_all s) h
theorem wl_storeF0 {W : World} (B : Nat) (c : Array Value) (f : Fd) (hB : B = W.heap.size) (hx : a.eval x = .pointer (some ⟨B, 0, none⟩)) (hy : a.eval y = fdv f) (hc : c.size = 12)
    (h : wpList Tryz.prog ops Q rest a (W.alloc (fdO f))) :
    wpList Tryz.prog ops Q ({ dst := none, op := .store 114 x y, type := t, pos := ps, after := af, guard := none } :: rest) a (W.alloc (.cells c 114)) := by
  subst hB
  refine wpList_plain rfl fun _ hK => ?_
  unfold Oper.wp execOp
  simp only [hx, hy, Instr.storeAt, Instr.sureAddr, Sem.run_bind, Sem.run_pure, Result.andThen_ok]
  unfold fdv
  simp only [run_storeVar_new (P := Tryz.prog) W 114 c (fdA f) fd_size (by rw [hc]; rfl) (fd_all f)]
  exact hK _ _ h
theorem wl_store0 {W : World} (B : Nat) (c : Array Value) (s : Sg) (hB : B = W.heap.size) (hx : a.eval x = .pointer (some ⟨B, 0, none⟩)) (hy : a.eval y = sgv s) (hc : c.size = 17)
    (h : wpList Tryz.prog ops Q rest a (W.alloc (sgO s))) :
    wpList Tryz.prog ops Q ({ dst := none, op := .store 27 x y, type := t, pos := ps, after := af, guard := none } :: rest) a (W.alloc (.cells c 27)) :=
  wl_store B c s hB hx hy hc h
/-- A sign that is built. -/
theorem wl_buildS {w : World} {d : Tmp} (parts : Array (Nat × Operand)) (s : Sg) (hb : Tryz.prog.built 27 (parts.map fun (i, x) => (i, a.eval x)).toList = some (sgA s)) (h : wpList Tryz.prog ops Q rest (a.put (some d) (sgv s)) w) :
    wpList Tryz.prog ops Q ({ dst := some d, op := .build 27 parts, type := t, pos := ps, after := af, guard := none } :: rest) a w := by
  refine wpList_build rfl 27 parts rfl (by rw [hb]; rfl) ?_
  rw [hb]
  exact h
theorem wl_boxF {w : World} (f : Fd) (hx : a.eval x = fdv f) (h : wpList Tryz.prog ops Q rest (a.put dd (.pointer (some ⟨w.heap.size, 0, none⟩))) (w.alloc (fdO f))) :
    wpList Tryz.prog ops Q ({ dst := dd, op := .box 114 x, type := t, pos := ps, after := af, guard := none } :: rest) a w := by
  refine wpList_plain rfl fun _ hK => ?_
  unfold Oper.wp execOp
  have e : (Instr.box 114 (fdv f)).run Tryz.prog w = .ok (.pointer (some ⟨w.heap.size, 0, none⟩)) (w.alloc (fdO f)) := by
    unfold fdv fdO
    simp [Instr.box, newVar, go_sem]
  simp only [hx, Sem.run_bind, e, Result.andThen_ok, Sem.run_pure]
  exact hK _ _ h
end
theorem fd_yields {ops : Array Oper} {S : World → Prop} {op : Oper} {a : Act} (x : Operand) (b o : Nat) (f : Fd) (hw : Region.wanted op (yielded ops a.tmps) = true) (ho : op.op = .load 114 x)
    (hx : a.eval x = .pointer (some ⟨b, o, none⟩)) (hS : ∀ w, S w → w.rangeAt b o (fdL f)) : YieldsIf Tryz.prog ops S op (fdv f) a :=
  yieldsIf_load_mid hw 114 x ho b o hx (fdL f) _ hS Tryz.underlying114 rfl fd_size
/-! ### The tables -/
/-- The pitches of the clefs, number for number. -/
def cpI (i : Nat) : Int := ([0, 4, 0, 3, 3, 0, 4, 4, 0] : List Int).getD i 0
/-- The tables stand as the program's text lays them. -/
structure TabS (w : World) : Prop where
  p : ∀ i : Nat, i < 9 → w.cell? ⟨2, i, none⟩ = some (.int .i64 (cpI i))
  u : ∀ k : Nat, k < 13 → w.rangeAt 0 (k * 12) (fdL (fdK k))
theorem TabS.later {w w1 : World} (T : TabS w) (b : Below w.heap.size w w1) : TabS w1 := ⟨fun i hi => cell_later b (T.p i hi), fun k hk => range_later (T.u k hk) b⟩
theorem TabS.al {w : World} (T : TabS w) (o : Obj) : TabS (w.alloc o) := T.later (w_alloc (w_refl w) o)
theorem cells_cp : Tryz.prog.cellsOf 183 = 3 := by kernel_rfl
theorem cells_i1 : Tryz.prog.cellsOf 3 = 1 := by kernel_rfl
theorem cells_b1 : Tryz.prog.cellsOf 4 = 1 := by kernel_rfl
theorem cells_fd : Tryz.prog.cellsOf 114 = 12 := by kernel_rfl
theorem take3 {l : List Value} {n : Nat} {a b c : Value} (h : (l.drop n).take 3 = [a, b, c]) : l[n]? = some a ∧ l[n + 1]? = some b ∧ l[n + 2]? = some c := by
  have e0 := congrArg (·[0]?) h
  have e1 := congrArg (·[1]?) h
  have e2 := congrArg (·[2]?) h
  simp only [List.getElem?_take, List.getElem?_drop] at e0 e1 e2
  exact ⟨by simpa using e0, by simpa using e1, by simpa using e2⟩
/-- A struct whose fields are bools. -/
theorem bools_of_struct {H : Type} {enc : TypeId × Value → H} {P : Program} {w : World} {base : Nat} {sp : Nat → Bool} {held : Bool} {fuel : Nat} {t : TypeId} {fs : Array Field} {cs : List Value} {zs : List Bool} {p : List MemPlace} (ht : P.underlying t = some (.struct fs))
    (hf : ∀ (i : Nat) (f : Field), fs[i]? = some f → P.underlying f.type = some .bool ∧ f.offset = i ∧ P.cellsOf f.type = 1) (hct : P.cellsOf t = fs.size)
    (h : DataW.trod enc P w base sp held fuel t cs = some (.agg (zs.map fun z => .lit (.bool z)), p)) : cs = zs.map fun z => Value.bool z := by
  obtain ⟨xs, n, rfl, hx, hl, hxl, hall⟩ := DataW.trod_struct ht h
  have hxs : xs.map (·.1) = zs.map fun z => (DataW.lit (.bool z) : DataW H) := by
    have := congrArg Prod.fst hx
    simpa using this.symm
  have hzl : zs.length = fs.size := by
    have := congrArg List.length hxs
    simp at this
    omega
  apply List.ext_getElem?
  intro i
  by_cases hi : i < fs.size
  · obtain ⟨hu, ho, hc⟩ := hf i fs[i] (by simp [hi])
    have h1 := hall i fs[i] (by simp [hi])
    obtain ⟨b, hb⟩ : ∃ b, xs[i]? = some b := ⟨xs[i]'(by omega), List.getElem?_eq_getElem (by omega)⟩
    rw [hb, ho, hc] at h1
    obtain ⟨z, hcz, rfl⟩ := DataW.trod_bool hu h1
    have h2 : cs[i]? = some (.bool z) := by
      have := congrArg (·[0]?) hcz
      simpa [List.getElem?_take, List.getElem?_drop] using this
    have h3 : (xs.map (·.1))[i]? = some (DataW.lit (.bool z) : DataW H) := by simp [hb]
    rw [hxs] at h3
    simp only [List.getElem?_map, Option.map_eq_some_iff, DataW.lit.injEq, Lit.bool.injEq] at h3
    obtain ⟨z', hz', rfl⟩ := h3
    simp [h2, hz']
  · rw [List.getElem?_eq_none (by omega), List.getElem?_eq_none (by simp; omega)]
def cpD : DataW Unit := .agg [.agg [.lit (.int .i64 0), .lit (.int .i64 4), .lit (.int .i64 0)], .agg [.lit (.int .i64 3), .lit (.int .i64 3), .lit (.int .i64 0)], .agg [.lit (.int .i64 4), .lit (.int .i64 4), .lit (.int .i64 0)]]
def ubL : List (DataW Unit) := [.agg [.lit (.bool false), .lit (.bool false), .lit (.bool false), .lit (.bool false), .lit (.bool false), .lit (.bool false), .lit (.bool false), .lit (.bool false), .lit (.bool false), .lit (.bool false), .lit (.bool false), .lit (.bool false)], .agg [.lit (.bool true), .lit (.bool true), .lit (.bool true), .lit (.bool true), .lit (.bool false), .lit (.bool false), .lit (.bool false), .lit (.bool false), .lit (.bool false), .lit (.bool false), .lit (.bool false), .lit (.bool false)], .agg [.lit (.bool true), .lit (.bool false), .lit (.bool false), .lit (.bool false), .lit (.bool false), .lit (.bool false), .lit (.bool false), .lit (.bool false), .lit (.bool false), .lit (.bool false), .lit (.bool false), .lit (.bool false)], .agg [.lit (.bool false), .lit (.bool false), .lit (.bool false), .lit (.bool false), .lit (.bool false), .lit (.bool false), .lit (.bool false), .lit (.bool false), .lit (.bool false), .lit (.bool false), .lit (.bool false), .lit (.bool false)], .agg [.lit (.bool false), .lit (.bool true), .lit (.bool true), .lit (.bool true), .lit (.bool true), .lit (.bool true), .lit (.bool true), .lit (.bool false), .lit (.bool false), .lit (.bool false), .lit (.bool false), .lit (.bool false)], .agg [.lit (.bool false), .lit (.bool false), .lit (.bool false), .lit (.bool false), .lit (.bool false), .lit (.bool false), .lit (.bool false), .lit (.bool true), .lit (.bool true), .lit (.bool false), .lit (.bool false), .lit (.bool false)], .agg [.lit (.bool false), .lit (.bool false), .lit (.bool false), .lit (.bool false), .lit (.bool false), .lit (.bool false), .lit (.bool false), .lit (.bool false), .lit (.bool false), .lit (.bool true), .lit (.bool true), .lit (.bool false)], .agg [.lit (.bool false), .lit (.bool false), .lit (.bool false), .lit (.bool false), .lit (.bool false), .lit (.bool false), .lit (.bool false), .lit (.bool false), .lit (.bool false), .lit (.bool false), .lit (.bool false), .lit (.bool true)], .agg [.lit (.bool false), .lit (.bool false), .lit (.bool false), .lit (.bool false), .lit (.bool false), .lit (.bool false), .lit (.bool false), .lit (.bool false), .lit (.bool false), .lit (.bool true), .lit (.bool false), .lit (.bool false)], .agg [.lit (.bool false), .lit (.bool false), .lit (.bool false), .lit (.bool false), .lit (.bool false), .lit (.bool false), .lit (.bool false), .lit (.bool false), .lit (.bool false), .lit (.bool false), .lit (.bool false), .lit (.bool false)], .agg [.lit (.bool false), .lit (.bool false), .lit (.bool false), .lit (.bool false), .lit (.bool false), .lit (.bool false), .lit (.bool false), .lit (.bool false), .lit (.bool false), .lit (.bool true), .lit (.bool false), .lit (.bool false)], .agg [.lit (.bool false), .lit (.bool false), .lit (.bool false), .lit (.bool false), .lit (.bool false), .lit (.bool false), .lit (.bool false), .lit (.bool false), .lit (.bool false), .lit (.bool false), .lit (.bool false), .lit (.bool false)], .agg [.lit (.bool false), .lit (.bool false), .lit (.bool false), .lit (.bool false), .lit (.bool false), .lit (.bool false), .lit (.bool false), .lit (.bool false), .lit (.bool false), .lit (.bool false), .lit (.bool false), .lit (.bool false)]]
def fdB (f : Fd) : List Bool := [f.fv, f.fp, f.fa, f.fc, f.fs, f.fo, f.fl, f.fm, f.fk, f.fn, f.fd, f.fC]
theorem ub_at : ∀ k, k < 13 → ubL[k]? = some (.agg ((fdB (fdK k)).map fun z => .lit (.bool z))) := by
  intro k hk
  have c : k = 0 ∨ k = 1 ∨ k = 2 ∨ k = 3 ∨ k = 4 ∨ k = 5 ∨ k = 6 ∨ k = 7 ∨ k = 8 ∨ k = 9 ∨ k = 10 ∨ k = 11 ∨ k = 12 := by omega
  rcases c with rfl | rfl | rfl | rfl | rfl | rfl | rfl | rfl | rfl | rfl | rfl | rfl | rfl <;> rfl
theorem tabs_of {w : World} (h : Lib.VarReads Tryz.prog w "tactus/clef.clefPitches" cpD) (k : Lib.VarReads Tryz.prog w "tactus/sign.usedBy" (.agg ubL)) : TabS w := by
  obtain ⟨g, t, cs, fuel, p, hg, hty, hvar, hd⟩ := h
  obtain ⟨g', t', cs', fuel', p', hg', hty', hvar', hd'⟩ := k
  obtain rfl : 2 = g := Option.some.inj ((show Tryz.prog.globalNamed "tactus/clef.clefPitches" = some 2 by kernel_rfl).symm.trans hg)
  obtain rfl : 0 = g' := Option.some.inj ((show Tryz.prog.globalNamed "tactus/sign.usedBy" = some 0 by kernel_rfl).symm.trans hg')
  obtain rfl : 194 = t := Option.some.inj ((show (Tryz.prog.globals[2]?).map (·.type) = some 194 by kernel_rfl).symm.trans hty)
  obtain rfl : 115 = t' := Option.some.inj ((show (Tryz.prog.globals[0]?).map (·.type) = some 115 by kernel_rfl).symm.trans hty')
  have h1 : ∀ (i : Nat) (hi : i < 3), ∀ a b c : Int, ([.agg [.lit (.int .i64 0), .lit (.int .i64 4), .lit (.int .i64 0)], .agg [.lit (.int .i64 3), .lit (.int .i64 3), .lit (.int .i64 0)], .agg [.lit (.int .i64 4), .lit (.int .i64 4), .lit (.int .i64 0)]] : List (DataW Unit))[i]? = some (.agg [.lit (.int .i64 a), .lit (.int .i64 b), .lit (.int .i64 c)]) →
      (cs.toList.drop (i * 3)).take 3 = [.int .i64 a, .int .i64 b, .int .i64 c] := by
    intro i hi a b c hb
    obtain ⟨f2, d, q, h1, h2⟩ := Lib.array_elem Tryz.underlying194 hd i hi
    rw [hb] at h1
    simp only [Option.some.injEq] at h1
    subst h1
    rw [cells_cp] at h2
    exact Lib.ints_of_struct (zs := [a, b, c]) Tryz.underlying183 (fun j f hj => by
      match j, hj with
      | 0, hj => simp at hj; subst hj; exact ⟨Tryz.underlying3, rfl, cells_i1⟩
      | 1, hj => simp at hj; subst hj; exact ⟨Tryz.underlying3, rfl, cells_i1⟩
      | 2, hj => simp at hj; subst hj; exact ⟨Tryz.underlying3, rfl, cells_i1⟩
      | j + 3, hj => simp at hj) (by rw [cells_cp]; rfl) h2
  refine ⟨fun i hi => ?_, fun k hk => ?_⟩
  · rw [World.var?_cell hg hvar i, ← Array.getElem?_toList]
    obtain ⟨a0, a1, a2⟩ := take3 (h1 0 (by omega) _ _ _ rfl)
    obtain ⟨b0, b1, b2⟩ := take3 (h1 1 (by omega) _ _ _ rfl)
    obtain ⟨c0, c1, c2⟩ := take3 (h1 2 (by omega) _ _ _ rfl)
    have : i = 0 ∨ i = 1 ∨ i = 2 ∨ i = 3 ∨ i = 4 ∨ i = 5 ∨ i = 6 ∨ i = 7 ∨ i = 8 := by omega
    rcases this with rfl | rfl | rfl | rfl | rfl | rfl | rfl | rfl | rfl
    · exact a0
    · exact a1
    · exact a2
    · exact b0
    · exact b1
    · exact b2
    · exact c0
    · exact c1
    · exact c2
  · intro j v hj
    rw [World.var?_cell hg' hvar' (k * 12 + j), ← Array.getElem?_toList]
    obtain ⟨f2, d, q, e1, e2⟩ := Lib.array_elem Tryz.underlying115 hd' k hk
    rw [ub_at k hk] at e1
    simp only [Option.some.injEq] at e1
    subst e1
    rw [cells_fd] at e2
    have e3 := bools_of_struct (zs := fdB (fdK k)) Tryz.underlying114 (fun i f hi => by
      match i, hi with
      | 0, hi => simp at hi; subst hi; exact ⟨Tryz.underlying4, rfl, cells_b1⟩
      | 1, hi => simp at hi; subst hi; exact ⟨Tryz.underlying4, rfl, cells_b1⟩
      | 2, hi => simp at hi; subst hi; exact ⟨Tryz.underlying4, rfl, cells_b1⟩
      | 3, hi => simp at hi; subst hi; exact ⟨Tryz.underlying4, rfl, cells_b1⟩
      | 4, hi => simp at hi; subst hi; exact ⟨Tryz.underlying4, rfl, cells_b1⟩
      | 5, hi => simp at hi; subst hi; exact ⟨Tryz.underlying4, rfl, cells_b1⟩
      | 6, hi => simp at hi; subst hi; exact ⟨Tryz.underlying4, rfl, cells_b1⟩
      | 7, hi => simp at hi; subst hi; exact ⟨Tryz.underlying4, rfl, cells_b1⟩
      | 8, hi => simp at hi; subst hi; exact ⟨Tryz.underlying4, rfl, cells_b1⟩
      | 9, hi => simp at hi; subst hi; exact ⟨Tryz.underlying4, rfl, cells_b1⟩
      | 10, hi => simp at hi; subst hi; exact ⟨Tryz.underlying4, rfl, cells_b1⟩
      | 11, hi => simp at hi; subst hi; exact ⟨Tryz.underlying4, rfl, cells_b1⟩
      | i + 12, hi => simp at hi) (by rw [cells_fd]; rfl) e2
    have hlt : j < 12 := (List.getElem?_eq_some_iff.1 hj).1
    have e4 := congrArg (·[j]?) e3
    simp only [List.getElem?_take, List.getElem?_drop, if_pos hlt] at e4
    rw [e4]
    have e5 : (fdB (fdK k)).map (fun z => Value.bool z) = fdL (fdK k) := rfl
    rw [e5]
    exact hj
end Go.Proofs.YtdmedealdhadcaaGreatDoor

namespace Go.Proofs.YtdmedealdhadcaaGreatDoor
open Go.RowKit
abbrev pO (p : Pi3) : Obj := .cells #[.int .i64 p.1, .int .i64 p.2.1, .int .i64 p.2.2] 183
abbrev Cl := Int × Int
abbrev cv (c : Cl) : Value := .agg #[.int .i64 c.1, .int .i64 c.2]
def stepOk (s : Int) : Prop := s = 0 ∨ s = 3 ∨ s = 4
instance (s : Int) : Decidable (stepOk s) := by unfold stepOk; infer_instance
def okC (c : Cl) : Prop := stepOk c.1 ∧ 1 ≤ c.2 ∧ c.2 ≤ 5
instance (c : Cl) : Decidable (okC c) := by unfold okC; infer_instance
def chkC (c : Cl) : Int := if stepOk c.1 then (if 1 ≤ c.2 ∧ c.2 ≤ 5 then 0 else 2) else 8
theorem chkC_ok {c : Cl} (h : okC c) : chkC c = 0 := by unfold chkC; rw [if_pos h.1, if_pos h.2]
theorem chkC_step {c : Cl} (h : ¬ stepOk c.1) : chkC c = 8 := if_neg h
theorem chkC_line {c : Cl} (h : stepOk c.1) (k : ¬ (1 ≤ c.2 ∧ c.2 ≤ 5)) : chkC c = 2 := by unfold chkC; rw [if_pos h, if_neg k]
theorem chkC_zero {c : Cl} (h : chkC c = 0) : okC c := by
  unfold chkC at h
  split at h
  · split at h
    · exact ⟨‹_›, ‹_›⟩
    · cases h
  · cases h
structure Two2 (w : World) (b : Nat) (c : Cl) : Prop where
  inb : b < w.heap.size
  c0 : w.cell? ⟨b, 0, none⟩ = some (.int .i64 c.1)
  c1 : w.cell? ⟨b, 1, none⟩ = some (.int .i64 c.2)
  f0 : w.frozen? ⟨b, 0, none⟩ = false
  f1 : w.frozen? ⟨b, 1, none⟩ = false
theorem Two2.made (w : World) (c : Cl) (t : TypeId) : Two2 (w.alloc (.cells #[.int .i64 c.1, .int .i64 c.2] t)) w.heap.size c := ⟨by simp, by go_simp, by go_simp, by go_simp, by go_simp⟩
theorem Two2.later {w w1 : World} {b : Nat} {c : Cl} (h : Two2 w b c) (k : Below w.heap.size w w1) : Two2 w1 b c :=
  ⟨Nat.lt_of_lt_of_le h.inb k.size, (k.cell (p := ⟨b, 0, none⟩) h.inb).trans h.c0, (k.cell (p := ⟨b, 1, none⟩) h.inb).trans h.c1,
    (k.frozen (p := ⟨b, 0, none⟩) h.inb).trans h.f0, (k.frozen (p := ⟨b, 1, none⟩) h.inb).trans h.f1⟩
abbrev cO (c : Cl) : Obj := .cells #[.int .i64 c.1, .int .i64 c.2] 25
theorem pit_put {w1 : World} {b : Nat} {t : TypeId} {x0 x1 x2 : Value} (h : HoldsB w1 b t #[x0, x1, x2]) (A B C : Value) :
    (w1.setCell ⟨b, 0, none⟩ A).cell? ⟨b, 0, none⟩ = some A ∧ ((w1.setCell ⟨b, 0, none⟩ A).setCell ⟨b, 1, none⟩ B).cell? ⟨b, 1, none⟩ = some B ∧
    (((w1.setCell ⟨b, 0, none⟩ A).setCell ⟨b, 1, none⟩ B).setCell ⟨b, 2, none⟩ C).cell? ⟨b, 2, none⟩ = some C := by
  have h0 := h.set 0 A
  have h1 := h0.set 1 B
  have h2 := h1.set 2 C
  exact ⟨h0.cell rfl, h1.cell rfl, h2.cell rfl⟩
attribute [local go_sem] Oper.semAt_some
/-- The pitch of the clefs with a step. -/
def clefP (s : Int) : Pi3 := if s = 0 then (0, 4, 0) else if s = 3 then (3, 3, 0) else if s = 4 then (4, 4, 0) else (0, 0, 0)
abbrev cpV (s : Int) : Value := .tuple #[pv (clefP s), .bool (decide (stepOk s))]
theorem cp_index : ∀ w, (Instr.index 194 (.agg #[.int .i64 0, .int .i64 4, .int .i64 0, .int .i64 3, .int .i64 3, .int .i64 0, .int .i64 4, .int .i64 4, .int .i64 0]) (.int .i64 0)).run Tryz.prog w = .ok (.agg #[.int .i64 0, .int .i64 4, .int .i64 0]) w ∧
    (Instr.index 194 (.agg #[.int .i64 0, .int .i64 4, .int .i64 0, .int .i64 3, .int .i64 3, .int .i64 0, .int .i64 4, .int .i64 4, .int .i64 0]) (.int .i64 1)).run Tryz.prog w = .ok (.agg #[.int .i64 3, .int .i64 3, .int .i64 0]) w ∧
    (Instr.index 194 (.agg #[.int .i64 0, .int .i64 4, .int .i64 0, .int .i64 3, .int .i64 3, .int .i64 0, .int .i64 4, .int .i64 4, .int .i64 0]) (.int .i64 2)).run Tryz.prog w = .ok (.agg #[.int .i64 4, .int .i64 4, .int .i64 0]) w := fun _ => ⟨by kernel_rfl, by kernel_rfl, by kernel_rfl⟩
set_option maxHeartbeats 4000000 in
theorem clefp_any (s : Int) (w : World) (T : TabS w) : Calls Tryz.prog 163 #[.int .i64 s] w fun e w' => e = .returned (cpV s) ∧ Below w.heap.size w w' := by
  have T1 := T.al (pO (0, 0, 0))
  have p0 : (w.alloc (pO (0, 0, 0))).cell? ⟨2, 0, none⟩ = some (.int .i64 0) := T1.p 0 (by decide)
  have p1 : (w.alloc (pO (0, 0, 0))).cell? ⟨2, 1, none⟩ = some (.int .i64 4) := T1.p 1 (by decide)
  have p2 : (w.alloc (pO (0, 0, 0))).cell? ⟨2, 2, none⟩ = some (.int .i64 0) := T1.p 2 (by decide)
  have p3 : (w.alloc (pO (0, 0, 0))).cell? ⟨2, 3, none⟩ = some (.int .i64 3) := T1.p 3 (by decide)
  have p4 : (w.alloc (pO (0, 0, 0))).cell? ⟨2, 4, none⟩ = some (.int .i64 3) := T1.p 4 (by decide)
  have p5 : (w.alloc (pO (0, 0, 0))).cell? ⟨2, 5, none⟩ = some (.int .i64 0) := T1.p 5 (by decide)
  have p6 : (w.alloc (pO (0, 0, 0))).cell? ⟨2, 6, none⟩ = some (.int .i64 4) := T1.p 6 (by decide)
  have p7 : (w.alloc (pO (0, 0, 0))).cell? ⟨2, 7, none⟩ = some (.int .i64 4) := T1.p 7 (by decide)
  have p8 : (w.alloc (pO (0, 0, 0))).cell? ⟨2, 8, none⟩ = some (.int .i64 0) := T1.p 8 (by decide)
  have i0 := fun w => (cp_index w).1
  have i1 := fun w => (cp_index w).2.1
  have i2 := fun w => (cp_index w).2.2
  have r0 := Lib.hid (HoldsB.new w 183 #[.int .i64 0, .int .i64 0, .int .i64 0])
  have hB := Lib.hid (w_alloc (w_refl w) (pO (0, 0, 0)))
  have hv := Lib.hid (show ∀ k : Nat, k < 3 → s = (if k = 0 then 0 else if k = 1 then 3 else 4) → Ending.returned (cpV s) = .returned (.tuple #[pv (if k = 0 then (0, 4, 0) else if k = 1 then (3, 3, 0) else (4, 4, 0)), .bool true]) by
    intro k hk e
    have c : k = 0 ∨ k = 1 ∨ k = 2 := by omega
    rcases c with rfl | rfl | rfl <;> (subst e; rfl))
  have hn := Lib.hid (show s ≠ 0 → s ≠ 3 → s ≠ 4 → Ending.returned (cpV s) = .returned (.tuple #[pv (0, 0, 0), .bool false]) by
    intro h1 h2 h3
    have e1 : clefP s = (0, 0, 0) := by unfold clefP; rw [if_neg h1, if_neg h2, if_neg h3]
    have e2 : decide (stepOk s) = false := decide_eq_false (fun h => by rcases h with h | h | h <;> contradiction)
    show Ending.returned (.tuple #[pv (clefP s), .bool (decide (stepOk s))]) = _
    rw [e1, e2])
  generalize cpV s = V at *
  clear T T1
  go_enter Tryz.func163, Tryz.ntmps163
  go_wp2_with fail
  clear p0 p1 p2 p3 p4 p5 p6 p7 p8
  go_loopw [7] (fun i wr => ∃ k : Nat, k ≤ 3 ∧ i = .int .i64 (k : Int) ∧ Hid ((1 ≤ k → s ≠ 0) ∧ (2 ≤ k → s ≠ 3) ∧ (3 ≤ k → s ≠ 4)) ∧ Hid (HoldsB wr w.heap.size 183 #[.int .i64 0, .int .i64 0, .int .i64 0]) ∧ Hid (Below w.heap.size w wr)) (fun i _ => (3 - intOf i).toNat)
  case atStart => exact ⟨0, by omega, rfl, Lib.hid ⟨by omega, by omega, by omega⟩, r0, hB⟩
  case round =>
    clear r0 hB
    obtain ⟨k, hk, rfl, hs, r0, hB⟩ := hrel
    have c : k = 0 ∨ k = 1 ∨ k = 2 ∨ k = 3 := by omega
    clear hk
    rcases c with rfl | rfl | rfl | rfl
    · by_cases h : (0 : Int) = s
      · have hr := hv.out 0 (by decide) h.symm
        simp only [if_true] at hr
        have r1 := Lib.hid (r0.out.al (pO (0, 4, 0)))
        have ff := r1.out.frozen
        have e0 := r1.out.cell (j := 0) rfl
        have e1 := r1.out.cell (j := 1) rfl
        have e2 := r1.out.cell (j := 2) rfl
        obtain ⟨d0, d1, d2⟩ := pit_put r1.out (.int .i64 0) (.int .i64 4) (.int .i64 0)
        have HR := Lib.hid hr
        clear hr hv hn hs
        subst h
        go_wp2_with fail
        refine bodyPost_ret (v := .tuple #[pv (0, 4, 0), .bool true]) (by simp [results, Tryz.results163, go_sem, d0, d1, d2]) rfl ⟨HR.out.symm, ?_⟩
        exact w_put (w_put (w_put (w_alloc hB.out _) (by omega) _ _) (by omega) _ _) (by omega) _ _
      · have hne : ((0 : Int) == s) = false := by simp [h]
        have hs2 := Lib.hid (show (1 ≤ 1 → s ≠ 0) ∧ (2 ≤ 1 → s ≠ 3) ∧ (3 ≤ 1 → s ≠ 4) from ⟨fun _ e => h e.symm, by omega, by omega⟩)
        have r1 := Lib.hid (r0.out.al (pO (0, 4, 0)))
        have hB1 := Lib.hid (w_alloc hB.out (pO (0, 4, 0)))
        clear hs hv hn h r0 hB
        go_wp2_with fail
        go_roundw
        case rel => exact ⟨1, by omega, rfl, hs2, r1, hB1⟩
        case measure => simp [intOf]
    · by_cases h : (3 : Int) = s
      · have hr := hv.out 1 (by decide) h.symm
        simp only [if_true, if_false, show ¬ (1 : Nat) = 0 by decide] at hr
        have r1 := Lib.hid (r0.out.al (pO (3, 3, 0)))
        have ff := r1.out.frozen
        have e0 := r1.out.cell (j := 0) rfl
        have e1 := r1.out.cell (j := 1) rfl
        have e2 := r1.out.cell (j := 2) rfl
        obtain ⟨d0, d1, d2⟩ := pit_put r1.out (.int .i64 3) (.int .i64 3) (.int .i64 0)
        have HR := Lib.hid hr
        clear hr hv hn hs
        subst h
        go_wp2_with fail
        refine bodyPost_ret (v := .tuple #[pv (3, 3, 0), .bool true]) (by simp [results, Tryz.results163, go_sem, d0, d1, d2]) rfl ⟨HR.out.symm, ?_⟩
        exact w_put (w_put (w_put (w_alloc hB.out _) (by omega) _ _) (by omega) _ _) (by omega) _ _
      · have hne : ((3 : Int) == s) = false := by simp [h]
        have hs2 := Lib.hid (show (1 ≤ 2 → s ≠ 0) ∧ (2 ≤ 2 → s ≠ 3) ∧ (3 ≤ 2 → s ≠ 4) from ⟨fun _ => hs.out.1 (by decide), fun _ e => h e.symm, by omega⟩)
        have r1 := Lib.hid (r0.out.al (pO (3, 3, 0)))
        have hB1 := Lib.hid (w_alloc hB.out (pO (3, 3, 0)))
        clear hs hv hn h r0 hB
        go_wp2_with fail
        go_roundw
        case rel => exact ⟨2, by omega, rfl, hs2, r1, hB1⟩
        case measure => simp [intOf]
    · by_cases h : (4 : Int) = s
      · have hr := hv.out 2 (by decide) h.symm
        simp only [if_false, show ¬ (2 : Nat) = 0 by decide, show ¬ (2 : Nat) = 1 by decide] at hr
        have r1 := Lib.hid (r0.out.al (pO (4, 4, 0)))
        have ff := r1.out.frozen
        have e0 := r1.out.cell (j := 0) rfl
        have e1 := r1.out.cell (j := 1) rfl
        have e2 := r1.out.cell (j := 2) rfl
        obtain ⟨d0, d1, d2⟩ := pit_put r1.out (.int .i64 4) (.int .i64 4) (.int .i64 0)
        have HR := Lib.hid hr
        clear hr hv hn hs
        subst h
        go_wp2_with fail
        refine bodyPost_ret (v := .tuple #[pv (4, 4, 0), .bool true]) (by simp [results, Tryz.results163, go_sem, d0, d1, d2]) rfl ⟨HR.out.symm, ?_⟩
        exact w_put (w_put (w_put (w_alloc hB.out _) (by omega) _ _) (by omega) _ _) (by omega) _ _
      · have hne : ((4 : Int) == s) = false := by simp [h]
        have hs2 := Lib.hid (show (1 ≤ 3 → s ≠ 0) ∧ (2 ≤ 3 → s ≠ 3) ∧ (3 ≤ 3 → s ≠ 4) from ⟨fun _ => hs.out.1 (by decide), fun _ => hs.out.2.1 (by decide), fun _ e => h e.symm⟩)
        have r1 := Lib.hid (r0.out.al (pO (4, 4, 0)))
        have hB1 := Lib.hid (w_alloc hB.out (pO (4, 4, 0)))
        clear hs hv hn h r0 hB
        go_wp2_with fail
        go_roundw
        case rel => exact ⟨3, by omega, rfl, hs2, r1, hB1⟩
        case measure => simp [intOf]
    · have HR := Lib.hid (hn.out (hs.out.1 (by decide)) (hs.out.2.1 (by decide)) (hs.out.2.2 (by decide)))
      have ff := r0.out.frozen
      have e0 := r0.out.cell (j := 0) rfl
      have e1 := r0.out.cell (j := 1) rfl
      have e2 := r0.out.cell (j := 2) rfl
      obtain ⟨d0, d1, d2⟩ := pit_put r0.out (.int .i64 0) (.int .i64 0) (.int .i64 0)
      clear hv hn hs
      go_wp2_with fail
      refine bodyPost_ret (v := .tuple #[pv (0, 0, 0), .bool false]) (by simp [results, Tryz.results163, go_sem, d0, d1, d2]) rfl ⟨HR.out.symm, ?_⟩
      exact w_put (w_put (w_put hB.out (by omega) _ _) (by omega) _ _) (by omega) _ _
set_option maxHeartbeats 2000000 in
theorem cchk_any (c : Cl) (w : World) (T : TabS w) : Calls Tryz.prog 116 #[cv c] w fun e w' => e = .returned (.int .i64 (chkC c)) ∧ Below w.heap.size w w' := by
  have C := Lib.hid (show ∀ W, Below w.heap.size w W → Calls Tryz.prog 163 #[.int .i64 c.1] W fun e w' => e = .returned (.tuple #[pv (clefP c.1), .bool (decide (stepOk c.1))]) ∧ Below W.heap.size W w' from fun W b => clefp_any c.1 W (T.later b))
  have K := Lib.hid (Two2.made w c 25)
  have hB := Lib.hid (w_alloc (w_refl w) (cO c))
  clear T
  by_cases hs : stepOk c.1
  · rw [decide_eq_true hs] at C
    by_cases hl : 1 ≤ c.2 ∧ c.2 ≤ 5
    · rw [chkC_ok ⟨hs, hl⟩]
      obtain ⟨h1, h2⟩ := hl
      clear hs
      generalize clefP c.1 = p at *
      obtain ⟨p1, p2, p3⟩ := p
      obtain ⟨s, l⟩ := c
      simp only at h1 h2
      go_enter Tryz.func116, Tryz.ntmps116
      go_wp2_with fail
      refine (C.out _ hB.out).mono ?_
      rintro e w1 ⟨rfl, hb⟩
      have hb9 := w_alloc hb (pO (p1, p2, p3))
      replace hB := Lib.hid (w_below hB.out hb9)
      obtain ⟨_, k0, k1, _, _⟩ := K.out.later hb9
      simp only at k0 k1
      clear hb hb9 C K
      go_wp2_with fail
      go_ret
      exact ⟨rfl, hB.out⟩
    · rw [chkC_line hs hl]
      clear hs
      generalize clefP c.1 = p at *
      obtain ⟨p1, p2, p3⟩ := p
      obtain ⟨s, l⟩ := c
      simp only at hl
      by_cases h1 : l < 1
      · clear hl
        go_enter Tryz.func116, Tryz.ntmps116
        go_wp2_with fail
        refine (C.out _ hB.out).mono ?_
        rintro e w1 ⟨rfl, hb⟩
        have hb9 := w_alloc hb (pO (p1, p2, p3))
        replace hB := Lib.hid (w_below hB.out hb9)
        obtain ⟨_, k0, k1, _, _⟩ := K.out.later hb9
        simp only at k0 k1
        clear hb hb9 C K
        go_wp2_with fail
        go_ret
        exact ⟨rfl, hB.out⟩
      · have h2 : 5 < l := by omega
        clear hl
        go_enter Tryz.func116, Tryz.ntmps116
        go_wp2_with fail
        refine (C.out _ hB.out).mono ?_
        rintro e w1 ⟨rfl, hb⟩
        have hb9 := w_alloc hb (pO (p1, p2, p3))
        replace hB := Lib.hid (w_below hB.out hb9)
        obtain ⟨_, k0, k1, _, _⟩ := K.out.later hb9
        simp only at k0 k1
        clear hb hb9 C K
        go_wp2_with fail
        go_ret
        exact ⟨rfl, hB.out⟩
  · rw [chkC_step hs]
    rw [decide_eq_false hs] at C
    clear hs
    generalize clefP c.1 = p at *
    obtain ⟨p1, p2, p3⟩ := p
    obtain ⟨s, l⟩ := c
    go_enter Tryz.func116, Tryz.ntmps116
    go_wp2_with fail
    refine (C.out _ hB.out).mono ?_
    rintro e w1 ⟨rfl, hb⟩
    have hb9 := w_alloc hb (pO (p1, p2, p3))
    replace hB := Lib.hid (w_below hB.out hb9)
    clear hb hb9 C K
    go_wp2_with fail
    go_ret
    exact ⟨rfl, hB.out⟩
end Go.Proofs.YtdmedealdhadcaaGreatDoor

namespace Go.Proofs.YtdmedealdhadcaaGreatDoor
abbrev zS : Sg := ⟨0, 0, 0, 0, false, 0, false, false, 0, 0, 0, 0, false, 0, 0, 0, 0⟩
def badRange (s : Sg) : Prop := (s.place < -4 ∨ 12 < s.place) ∨ (s.acc < -1 ∨ 2 < s.acc) ∨ (s.stem < 0 ∨ 3 < s.stem)
instance (s : Sg) : Decidable (badRange s) := by unfold badRange; infer_instance
theorem sg_some {l : List Sg} {i : Nat} (h : i < l.length) : l[i]? = some (l.getD i zS) := by simp [List.getElem?_eq_getElem h]
end Go.Proofs.YtdmedealdhadcaaGreatDoor

namespace Go.Proofs.YtdmedealdhadcaaGreatDoor
def inB (n lo hi : Int) : Bool := decide (lo ≤ n ∧ n ≤ hi)
theorem inB_iff {n lo hi : Int} : inB n lo hi = true ↔ lo ≤ n ∧ n ≤ hi := by unfold inB; exact decide_eq_true_iff
def kp (b : Bool) (x : Int) : Int := if b then x else 0
def kpB (b x : Bool) : Bool := b && x
/-- What is kept of a sign. -/
def keepS (f : Fd) (s : Sg) : Sg := ⟨s.kind, kp f.fv s.val, kp f.fp s.place, kp f.fa s.acc, kpB f.fc s.col, kp f.fs s.stem, kpB f.fo s.obl, kpB f.fl s.last, kp f.fm s.m0, kp f.fm s.m1, kp f.fm s.m2, kp f.fm s.m3, kpB f.fk s.stk, kp f.fn s.n, kp f.fd s.d, kp f.fC s.c0, kp f.fC s.c1⟩
/-- Only what the kind uses. -/
def useS (s : Sg) : Sg := keepS (fdK s.kind.toNat) s
def kOk (k : Int) : Prop := 1 ≤ k ∧ k ≤ 12
instance (k : Int) : Decidable (kOk k) := by unfold kOk; infer_instance
/-- The class of a kind, and the error. -/
def clsV (k : Int) : Int × Int := if k = 1 ∨ k = 2 ∨ k = 4 then (1, 0) else if k = 3 then (2, 0) else if k = 5 ∨ k = 6 ∨ k = 9 ∨ k = 10 then (3, 0) else if k = 7 ∨ k = 8 ∨ k = 11 ∨ k = 12 then (4, 0) else (0, 8)
theorem kcls_ok {k : Int} (h : kOk k) : (clsV k).2 = 0 := by
  obtain ⟨h1, h2⟩ := h
  have c : k = 1 ∨ k = 2 ∨ k = 3 ∨ k = 4 ∨ k = 5 ∨ k = 6 ∨ k = 7 ∨ k = 8 ∨ k = 9 ∨ k = 10 ∨ k = 11 ∨ k = 12 := by omega
  rcases c with rfl | rfl | rfl | rfl | rfl | rfl | rfl | rfl | rfl | rfl | rfl | rfl <;> rfl
theorem kcls_no {k : Int} (h : ¬ kOk k) : clsV k = (0, 8) := by
  unfold kOk at h
  unfold clsV
  rw [if_neg (by omega), if_neg (by omega), if_neg (by omega), if_neg (by omega)]
def plcB (s : Sg) : Bool := inB s.place (-4) 12 && inB s.acc (-1) 2
/-- The fields are in their ranges. -/
def rngB (s : Sg) : Bool :=
  if s.kind = 1 then inB s.val 1 8 && plcB s else if s.kind = 2 then inB s.val 1 8 else if s.kind = 4 then plcB s && inB s.stem 0 3
  else if s.kind = 6 then inB s.n 1 100 && inB s.d 1 100 else if s.kind = 7 then chkC (s.c0, s.c1) == 0 else if s.kind = 8 then inB s.n 0 2 else if s.kind = 10 then inB s.n 2 4 else true
abbrev mq (s : Sg) : Q4 := (s.m0, s.m1, s.m2, s.m3)
/-- The error of a sign by itself. -/
def oneE (s : Sg) : Int :=
  if ¬ kOk s.kind then 8 else if sgE s (useS s) = false then 3 else if s.kind = 5 ∧ ¬ okM (mq s) then 12 else if rngB s = false then 2 else if (s.obl && s.last) = true then 3 else 0
theorem fdK_mens (k : Nat) : (fdK k).fm = decide (k = 5) := by
  match k with
  | 0 => rfl
  | 1 => rfl
  | 2 => rfl
  | 3 => rfl
  | 4 => rfl
  | 5 => rfl
  | 6 => rfl
  | 7 => rfl
  | 8 => rfl
  | 9 => rfl
  | 10 => rfl
  | 11 => rfl
  | 12 => rfl
  | k + 13 => rfl
end Go.Proofs.YtdmedealdhadcaaGreatDoor

namespace Go.Proofs.YtdmedealdhadcaaGreatDoor
open Go.RowKit
def plainI (c : Int) : Bool := decide (33 ≤ c ∧ c ≤ 126 ∧ c ≠ 59 ∧ c ≠ 34)
def insideI (c : Int) : Bool := decide (32 ≤ c ∧ c ≤ 126 ∧ c ≠ 34)
def digitI (c : Int) : Bool := decide (48 ≤ c ∧ c ≤ 57)
def letterI (c : Int) : Bool := decide (97 ≤ c ∧ c ≤ 122)
theorem w_drop (s : ByteArray) (pos : Nat) (h : pos < s.size) : s.data.toList.drop pos = s[pos] :: s.data.toList.drop (pos + 1) := by
  rw [List.drop_eq_getElem_cons (by simpa using h)]; rfl
theorem w_nil (s : ByteArray) : (s.toList = [] ↔ s.size = 0) := by
  rw [Lib.toList_data]
  constructor
  · intro h; have := congrArg List.length h; simpa using this
  · intro h; exact List.length_eq_zero_iff.1 (by simpa using h)
end Go.Proofs.YtdmedealdhadcaaGreatDoor

namespace Go.Proofs.YtdmedealdhadcaaGreatDoor
open Go.RowKit
def nameB (c : UInt8) : Bool := letterI c.toNat || digitI c.toNat || (c.toNat : Int) == 45
def headLetter : List UInt8 → Bool
  | [] => false
  | c :: _ => letterI c.toNat
/-- Is it a name? -/
def nameV (l : List UInt8) : Bool := l.all nameB && decide (l.length ≤ 20) && headLetter l
def numG : Int → List UInt8 → Option Int
  | n, [] => some n
  | n, c :: t => if digitI c.toNat = true then (if 1099511627776 < 10 * n + ((c.toNat : Int) - 48) then none else numG (10 * n + ((c.toNat : Int) - 48)) t) else none
/-- The number that a text is, or none. -/
def numberV (l : List UInt8) : Option Int := if l = [] ∨ (l.head? = some 48 ∧ 1 < l.length) then none else numG 0 l
def numRes : Option Int → Value
  | none => .tuple #[.int .i64 0, .bool false]
  | some n => .tuple #[.int .i64 n, .bool true]
theorem numG_bds : ∀ (l : List UInt8) (n m : Int), 0 ≤ n → n ≤ 1099511627776 → numG n l = some m → 0 ≤ m ∧ m ≤ 1099511627776
  | [], n, m, h0, h1, h => by
    simp only [numG, Option.some.injEq] at h; omega
  | c :: t, n, m, h0, h1, h => by
    unfold numG at h
    split at h
    · rename_i hd
      simp only [digitI, decide_eq_true_eq] at hd
      split at h
      · cases h
      · exact numG_bds t _ m (by omega) (by omega) h
    · cases h
theorem numberV_bds {l : List UInt8} {m : Int} (h : numberV l = some m) : 0 ≤ m ∧ m ≤ 1099511627776 := by
  unfold numberV at h
  split at h
  · cases h
  · exact numG_bds l 0 m (by omega) (by omega) h
theorem head_byte (s : ByteArray) (h : 0 < s.size) : s.data.toList = s[0] :: s.data.toList.drop 1 := by have := w_drop s 0 h; simpa using this
theorem ne_empty {s : ByteArray} (h : 0 < s.size) : s.toList.isEmpty = false := by
  have : s.toList ≠ [] := fun x => by have := (w_nil s).1 x; omega
  simpa using this
theorem data_nil {s : ByteArray} (h : ¬ 0 < s.size) : s.data.toList = [] := by
  have : s.data.toList.length = s.size := by simp
  exact List.length_eq_zero_iff.1 (by omega)
theorem numberV_nil {s : ByteArray} (h : ¬ 0 < s.size) : numberV s.data.toList = none := by
  unfold numberV; rw [data_nil h]; rfl
theorem numberV_zero {s : ByteArray} (h : 0 < s.size) (h0 : ((s[0].toNat : Int) == 48) = true) (h1 : 1 < s.size) : numberV s.data.toList = none := by
  have e := head_byte s h
  have e0 : s[0] = 48 := UInt8.toNat_inj.1 (by rw [beq_iff_eq] at h0; have : (48 : UInt8).toNat = 48 := rfl; omega)
  unfold numberV; rw [if_pos]
  right
  refine ⟨by rw [e, e0]; rfl, by simp; omega⟩
theorem numberV_digits {s : ByteArray} (h : 0 < s.size) (h0 : ((s[0].toNat : Int) == 48) = false ∨ ¬ 1 < s.size) : numberV s.data.toList = numG 0 s.data.toList := by
  have e := head_byte s h
  unfold numberV; rw [if_neg]
  rintro (x | ⟨x, y⟩)
  · rw [e] at x; simp at x
  · rcases h0 with z | z
    · rw [e] at x
      simp only [List.head?_cons, Option.some.injEq] at x
      rw [x] at z; simp at z
    · simp at y; omega
def signedRes (l : List UInt8) : Value :=
  if l.head? = some 45 then (match numberV (l.drop 1) with | none => .tuple #[.int .i64 0, .bool false] | some n => .tuple #[.int .i64 (-n), .bool (decide (0 < n))]) else numRes (numberV l)
end Go.Proofs.YtdmedealdhadcaaGreatDoor

namespace Go.Proofs.YtdmedealdhadcaaGreatDoor
open Go.RowKit
/-- Sign i is a sign of a ligature. -/
def kB (l : List Sg) (i : Nat) : Bool := (l.getD i zS).kind == 4
def laB (l : List Sg) (i : Nat) : Bool := (l.getD i zS).last
/-- Sign i is the first one of a ligature. -/
def fstB (l : List Sg) (i : Nat) : Bool := kB l i && (decide (i = 0) || (!(kB l (i - 1)) || laB l (i - 1)))
/-- Sign i has the neighbour that it needs. -/
def jnB (l : List Sg) (i : Nat) : Bool := if kB l i = false then true else if laB l i = true then !(fstB l i) else (decide (i + 1 < l.length) && kB l (i + 1))
def sgnE (l : List Sg) (i : Nat) : Int := if oneE (l.getD i zS) ≠ 0 then oneE (l.getD i zS) else if jnB l i = true then 0 else 3
def scan (f : Nat → Int) : Nat → Nat → Int × Nat
  | _, 0 => (0, 0)
  | i, n + 1 => if f i ≠ 0 then (f i, i) else scan f (i + 1) n
theorem scan_hit {f : Nat → Int} {j : Nat} (hj : f j ≠ 0) : ∀ (n i : Nat), i ≤ j → j < i + n → (∀ k, i ≤ k → k < j → f k = 0) → scan f i n = (f j, j)
  | 0, i, h1, h2, _ => by omega
  | n + 1, i, h1, h2, h3 => by
    by_cases e : i = j
    · subst e; exact if_pos hj
    · have := scan_hit hj n (i + 1) (by omega) (by omega) (fun k a b => h3 k (by omega) b)
      show (if f i ≠ 0 then _ else _) = _
      rw [if_neg (by rw [h3 i (Nat.le_refl _) (by omega)]; decide), this]
theorem scan_none {f : Nat → Int} : ∀ (n i : Nat), (∀ k, i ≤ k → k < i + n → f k = 0) → scan f i n = (0, 0)
  | 0, _, _ => rfl
  | n + 1, i, h => by
    show (if f i ≠ 0 then _ else _) = _
    rw [if_neg (by rw [h i (Nat.le_refl _) (by omega)]; decide), scan_none n (i + 1) (fun k a b => h k (by omega) (by omega))]
/-- The error of a part, and its number; b: its name is a name. -/
def chkV (b : Bool) (l : List Sg) : Int × Nat := if b = false then (7, 0) else if 400 < l.length then (11, 0) else scan (sgnE l) 0 l.length
theorem chk_name (l : List Sg) : chkV false l = (7, 0) := rfl
theorem chk_full {l : List Sg} (h : 400 < l.length) : chkV true l = (11, 0) := by unfold chkV; rw [if_neg (by decide), if_pos h]
theorem chk_hit {l : List Sg} (h : ¬ 400 < l.length) {j : Nat} (hj : j < l.length) (he : sgnE l j ≠ 0) (hb : ∀ k, k < j → sgnE l k = 0) : chkV true l = (sgnE l j, j) := by
  unfold chkV; rw [if_neg (by decide), if_neg h]; exact scan_hit he _ 0 (Nat.zero_le _) (by omega) (fun k _ hk => hb k hk)
theorem chk_ok {l : List Sg} (h : ¬ 400 < l.length) (hb : ∀ k, k < l.length → sgnE l k = 0) : chkV true l = (0, 0) := by
  unfold chkV; rw [if_neg (by decide), if_neg h]; exact scan_none _ 0 (fun k _ hk => hb k (by omega))
theorem sgn_one {l : List Sg} {i : Nat} (h : oneE (l.getD i zS) ≠ 0) : sgnE l i = oneE (l.getD i zS) := if_pos h
theorem sgn_ok {l : List Sg} {i : Nat} (h : oneE (l.getD i zS) = 0) (k : jnB l i = true) : sgnE l i = 0 := by unfold sgnE; rw [if_neg (by rw [h]; decide), if_pos k]
theorem sgn_no {l : List Sg} {i : Nat} (h : oneE (l.getD i zS) = 0) (k : jnB l i = false) : sgnE l i = 3 := by unfold sgnE; rw [if_neg (by rw [h]; decide), if_neg (by rw [k]; decide)]
theorem jn_free {l : List Sg} {i : Nat} (h : kB l i = false) : jnB l i = true := if_pos h
theorem jn_last {l : List Sg} {i : Nat} (h : kB l i = true) (k : laB l i = true) : jnB l i = !(fstB l i) := by unfold jnB; rw [if_neg (by rw [h]; decide), if_pos k]
theorem jn_mid {l : List Sg} {i : Nat} (h : kB l i = true) (k : laB l i = false) : jnB l i = (decide (i + 1 < l.length) && kB l (i + 1)) := by unfold jnB; rw [if_neg (by rw [h]; decide), if_neg (by rw [k]; decide)]
theorem fst_zero {l : List Sg} : fstB l 0 = kB l 0 := by unfold fstB; simp
theorem fst_succ {l : List Sg} {j : Nat} : fstB l (j + 1) = (kB l (j + 1) && (!(kB l j) || laB l j)) := by unfold fstB; simp
/-- A part, as a value. -/
abbrev ptv (nm : ByteArray) (p : Option Addr) (n cap : Nat) : Value := .agg #[.string nm, .slice p n cap]
abbrev ptO (nm : ByteArray) (p : Option Addr) (n cap : Nat) : Obj := .cells #[.string nm, .slice p n cap] 37
theorem pt_new (w : World) (nm : ByteArray) (p : Option Addr) (n cap : Nat) : HoldsB (w.alloc (ptO nm p n cap)) w.heap.size 37 #[.string nm, .slice p n cap] := HoldsB.new w _ _
end Go.Proofs.YtdmedealdhadcaaGreatDoor

namespace Go.Proofs.YtdmedealdhadcaaGreatDoor
open Go.RowKit
end Go.Proofs.YtdmedealdhadcaaGreatDoor
