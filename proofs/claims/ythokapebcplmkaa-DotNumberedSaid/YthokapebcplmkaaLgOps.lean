/- Whole signs: loaded, stored, boxed, built, handed back, without being opened. -/
import Derived.Test.YthokapebcplmkaaLgMem
import Derived.BigRegion
import Derived.BigQuiet
import Derived.WalkSmall
namespace Go.Proofs.Ythokapebcplmkaa
open Go.RowKit

theorem HoldsB.sg {w : World} {b : Nat} {s : Sg} (h : HoldsB w b 51 (sgA s)) : SgAt w b 0 s :=
  ⟨h.cell (j := 0) rfl, h.cell (j := 1) rfl, h.cell (j := 2) rfl, h.cell (j := 3) rfl, h.cell (j := 4) rfl, h.cell (j := 5) rfl, h.cell (j := 6) rfl, h.cell (j := 7) rfl, h.cell (j := 8) rfl, h.cell (j := 9) rfl, h.cell (j := 10) rfl, h.cell (j := 11) rfl, h.cell (j := 12) rfl, h.cell (j := 13) rfl, h.cell (j := 14) rfl, h.cell (j := 15) rfl, h.cell (j := 16) rfl⟩
theorem sg_new (w : World) (s : Sg) : HoldsB (w.alloc (sgO s)) w.heap.size 51 (sgA s) := HoldsB.new w _ _
/-- The zero sign, as an alloc lays it. -/
abbrev zO : Obj := .cells #[.int .i64 0, .int .i64 0, .int .i64 0, .int .i64 0, .bool false, .int .i64 0, .bool false, .bool false, .int .i64 0, .int .i64 0, .int .i64 0, .int .i64 0, .bool false, .int .i64 0, .int .i64 0, .int .i64 0, .int .i64 0] 51
theorem sg_loadVar {w : World} {b o : Nat} {s : Sg} (h : SgAt w b o s) : (loadVar 51 ⟨b, o, none⟩).run Try.prog w = .ok (sgv s) w :=
  run_loadVar_mid w b o 51 (sgL s) _ h.range Try.underlying51 rfl sg_size
theorem sg_loadAt {w : World} {b o : Nat} {s : Sg} (h : SgAt w b o s) : (Instr.loadAt 51 (.pointer (some ⟨b, o, none⟩))).run Try.prog w = .ok (sgv s) w :=
  run_loadAt_mid w b o 51 (sgL s) _ h.range Try.underlying51 rfl sg_size
theorem sgA_g0 (s : Sg) (h : 0 < (sgA s).size) : (sgA s)[0]'h = .int .i64 s.kind := rfl
theorem sgA_g1 (s : Sg) (h : 1 < (sgA s).size) : (sgA s)[1]'h = .int .i64 s.val := rfl
theorem sgA_g2 (s : Sg) (h : 2 < (sgA s).size) : (sgA s)[2]'h = .int .i64 s.place := rfl
theorem sgA_g3 (s : Sg) (h : 3 < (sgA s).size) : (sgA s)[3]'h = .int .i64 s.acc := rfl
theorem sgA_g4 (s : Sg) (h : 4 < (sgA s).size) : (sgA s)[4]'h = .bool s.col := rfl
theorem sgA_g5 (s : Sg) (h : 5 < (sgA s).size) : (sgA s)[5]'h = .int .i64 s.stem := rfl
theorem sgA_g6 (s : Sg) (h : 6 < (sgA s).size) : (sgA s)[6]'h = .bool s.obl := rfl
theorem sgA_g7 (s : Sg) (h : 7 < (sgA s).size) : (sgA s)[7]'h = .bool s.last := rfl
theorem sgA_g8 (s : Sg) (h : 8 < (sgA s).size) : (sgA s)[8]'h = .int .i64 s.m0 := rfl
theorem sgA_g9 (s : Sg) (h : 9 < (sgA s).size) : (sgA s)[9]'h = .int .i64 s.m1 := rfl
theorem sgA_g10 (s : Sg) (h : 10 < (sgA s).size) : (sgA s)[10]'h = .int .i64 s.m2 := rfl
theorem sgA_g11 (s : Sg) (h : 11 < (sgA s).size) : (sgA s)[11]'h = .int .i64 s.m3 := rfl
theorem sgA_g12 (s : Sg) (h : 12 < (sgA s).size) : (sgA s)[12]'h = .bool s.stk := rfl
theorem sgA_g13 (s : Sg) (h : 13 < (sgA s).size) : (sgA s)[13]'h = .int .i64 s.n := rfl
theorem sgA_g14 (s : Sg) (h : 14 < (sgA s).size) : (sgA s)[14]'h = .int .i64 s.d := rfl
theorem sgA_g15 (s : Sg) (h : 15 < (sgA s).size) : (sgA s)[15]'h = .int .i64 s.c0 := rfl
theorem sgA_g16 (s : Sg) (h : 16 < (sgA s).size) : (sgA s)[16]'h = .int .i64 s.c1 := rfl
theorem sg_all (s : Sg) : (sgA s).all (·.oneCell') = true := by
  have := all_oneCell_toArray (sgL_one s)
  rwa [show (sgL s).toArray = sgA s from rfl] at this
section
variable {ops : Array Oper} {rest : List Oper} {dd : Option Tmp} {x y : Operand} {t : TypeId} {ps : String} {af : Array Edge} {a : Act} {Q : Exit → Act → World → Prop}
theorem wl_load {w : World} (b o : Nat) (s : Sg) (hx : a.eval x = .pointer (some ⟨b, o, none⟩)) (hs : SgAt w b o s) (h : wpList Try.prog ops Q rest (a.put dd (sgv s)) w) :
    wpList Try.prog ops Q ({ dst := dd, op := .load 51 x, type := t, pos := ps, after := af, guard := none } :: rest) a w :=
  wpList_load_mid rfl 51 x rfl b o hx (sgL s) _ hs.range Try.underlying51 rfl sg_size h
/-- A load of a whole sign that is guarded. -/
theorem wl_loadG {w : World} {g : Option (Nat × Bool)} (b o : Nat) (s : Sg) (hw : Region.wanted { dst := dd, op := .load 51 x, type := t, pos := ps, after := af, guard := g } (yielded ops a.tmps) = true)
    (hx : a.eval x = .pointer (some ⟨b, o, none⟩)) (hs : SgAt w b o s) (h : wpList Try.prog ops Q rest (a.put dd (sgv s)) w) :
    wpList Try.prog ops Q ({ dst := dd, op := .load 51 x, type := t, pos := ps, after := af, guard := g } :: rest) a w := by
  unfold wpList
  rw [if_pos hw]
  exact .inl (wp_load_mid 51 x rfl b o hx (sgL s) _ hs.range Try.underlying51 rfl sg_size h)
theorem wl_store {W : World} (B : Nat) (c : Array Value) (s : Sg) (hB : B = W.heap.size) (hx : a.eval x = .pointer (some ⟨B, 0, none⟩)) (hy : a.eval y = sgv s) (hc : c.size = 17)
    (h : wpList Try.prog ops Q rest (a.put dd undef) (W.alloc (sgO s))) :
    wpList Try.prog ops Q ({ dst := dd, op := .store 51 x y, type := t, pos := ps, after := af, guard := none } :: rest) a (W.alloc (.cells c 51)) := by
  subst hB
  refine wpList_plain rfl fun _ hK => ?_
  unfold Oper.wp execOp
  simp only [hx, hy, Instr.storeAt, Instr.sureAddr, Sem.run_bind, Sem.run_pure, Result.andThen_ok]
  unfold sgv
  simp only [run_storeVar_new (P := Try.prog) W 51 c (sgA s) sg_size (by rw [hc]; rfl) (sg_all s)]
  exact hK _ _ h
theorem wl_box {w : World} (s : Sg) (hx : a.eval x = sgv s) (h : wpList Try.prog ops Q rest (a.put dd (.pointer (some ⟨w.heap.size, 0, none⟩))) (w.alloc (sgO s))) :
    wpList Try.prog ops Q ({ dst := dd, op := .box 51 x, type := t, pos := ps, after := af, guard := none } :: rest) a w := by
  refine wpList_plain rfl fun _ hK => ?_
  unfold Oper.wp execOp
  have e : (Instr.box 51 (sgv s)).run Try.prog w = .ok (.pointer (some ⟨w.heap.size, 0, none⟩)) (w.alloc (sgO s)) := by
    unfold sgv sgO
    simp [Instr.box, newVar, go_sem]
  simp only [hx, Sem.run_bind, e, Result.andThen_ok, Sem.run_pure]
  exact hK _ _ h
end
theorem sg_yields {ops : Array Oper} {S : World → Prop} {op : Oper} {a : Act} (x : Operand) (b o : Nat) (s : Sg) (hw : Region.wanted op (yielded ops a.tmps) = true) (ho : op.op = .load 51 x)
    (hx : a.eval x = .pointer (some ⟨b, o, none⟩)) (hS : ∀ w, S w → SgAt w b o s) : YieldsIf Try.prog ops S op (sgv s) a :=
  yieldsIf_load_mid hw 51 x ho b o hx (sgL s) _ (fun w h => (hS w h).range) Try.underlying51 rfl sg_size
theorem res_sg {fn : Func} {t : Tmp} (h : fn.results = #[.cell t 51]) {tmps : Array Value} {w : World} {b o : Nat} {s : Sg} (ht : tmps.getD t undef = .pointer (some ⟨b, o, none⟩)) (hs : SgAt w b o s) :
    (results fn tmps).run Try.prog w = .ok (sgv s) w := by
  have e := sg_loadVar hs
  simp only [Array.getD_eq_getD_getElem?] at ht
  have e2 : (asAddr (Value.pointer (some { block := b, off := o }))).run Try.prog w = .ok ⟨b, o, none⟩ w := by simp [asAddr]
  simp [results, h, ht, Sem.run_bind, e2, e]

end Go.Proofs.Ythokapebcplmkaa
