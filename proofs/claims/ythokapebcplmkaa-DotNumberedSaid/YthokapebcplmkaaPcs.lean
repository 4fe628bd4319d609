/- Pieces of a list of signs in memory, an append at a step of a drawn region, and steps whose operands the kernel reckons (out of stage 8's texts). -/
import Derived.Test.YthokapebcplmkaaLgLit
import Derived.Test.YthokapebcplmkaaLgLate
import Derived.Laws.Tables
import Derived.Laws.CopyOwn
namespace Go.Proofs.Ythokapebcplmkaa
open Go.RowKit

theorem flatG_take : ∀ (l : List Sg) (i : Nat), flatG (l.take i) = (flatG l).take (i * 17)
  | [], i => by simp [flatG]
  | s :: t, 0 => by simp [flatG]
  | s :: t, i + 1 => by
    show sgL s ++ flatG (t.take i) = (sgL s ++ flatG t).take ((i + 1) * 17)
    rw [flatG_take t i, show (i + 1) * 17 = (sgL s).length + i * 17 by rw [sgL_len]; omega, List.take_length_add_append]
theorem flatG_drop : ∀ (l : List Sg) (i : Nat), flatG (l.drop i) = (flatG l).drop (i * 17)
  | [], i => by simp [flatG]
  | s :: t, 0 => by simp
  | s :: t, i + 1 => by
    show flatG (t.drop i) = (sgL s ++ flatG t).drop ((i + 1) * 17)
    rw [flatG_drop t i, show (i + 1) * 17 = (sgL s).length + i * 17 by rw [sgL_len]; omega, List.drop_length_add_append]
theorem SlP.takeG {W : World} {q : Option Addr} {c : Nat} {l : List Sg} (h : SlP W 17 q l.length c (flatG l)) {i : Nat} (hi : i ≤ l.length) : SlP W 17 q i c (flatG (l.take i)) := by
  have f := h.fit
  refine ⟨by rw [flatG_len, List.length_take, Nat.min_eq_left hi], by omega, h.max, h.nil, flatG_one _, fun h0 => ?_⟩
  obtain ⟨b, off, e, hb, hc⟩ := h.at_ (by omega)
  refine ⟨b, off, e, hb, fun j u hj => hc j u ?_⟩
  rw [flatG_take] at hj
  have hlt := (List.getElem?_eq_some_iff.1 hj).1
  rw [List.length_take] at hlt
  rwa [List.getElem?_take, if_pos (by omega)] at hj
/-- Where a piece from i on lies. -/
def dropQ (q : Option Addr) (c i : Nat) : Option Addr := if c = i then q else q.map (·.add (i * 17))
theorem SlP.dropG {W : World} {q : Option Addr} {c : Nat} {l : List Sg} (h : SlP W 17 q l.length c (flatG l)) {i : Nat} (hi : i ≤ l.length) : SlP W 17 (dropQ q c i) (l.length - i) (c - i) (flatG (l.drop i)) := by
  have f := h.fit
  have m := h.max
  refine ⟨by rw [flatG_len, List.length_drop], by omega, by omega, fun e => ?_, flatG_one _, fun h0 => ?_⟩
  · unfold dropQ at e
    split at e
    · omega
    · cases q with
      | none => have := h.nil rfl; omega
      | some a => cases e
  · obtain ⟨b, off, rfl, hb, hc⟩ := h.at_ (by omega)
    refine ⟨b, off + i * 17, ?_, hb, fun j u hj => ?_⟩
    · unfold dropQ
      rw [if_neg (by omega), Option.map_some, add_none]
    · rw [flatG_drop, List.getElem?_drop] at hj
      rw [Nat.add_assoc]
      exact hc _ u hj
theorem own_val {w : World} {base : Nat} {e : TypeId} {k : Nat} {v : Value} {n : Nat} {cs : List Value} (h : w.ownsRow base e k v n cs) : ∃ q c, v = .slice q n c := by
  rcases h.2 with ⟨rfl, rfl⟩ | ⟨g, c, _, rfl, _⟩
  · exact ⟨none, 0, rfl⟩
  · exact ⟨_, c, rfl⟩
theorem own_sl {w : World} {base : Nat} {q : Option Addr} {n c : Nat} {l : List Sg} (h : w.ownsRow base 51 17 (.slice q n c) n (flatG l)) (hn : l.length = n) : SlP w 17 q n c (flatG l) := by
  obtain ⟨q', c', e, hs⟩ := SlP.of_own h (by rw [flatG_len, hn]) (flatG_one l)
  injection e with e1 e2 e3
  subst e1 e3
  exact hs
theorem step_append_sl {w : World} {ops : Array Oper} {o : Oper} {a : Act} {K : Act → World → Prop} {Q : Exit → Act → World → Prop} {E : Prop} (hgd : o.guard = none) (s x : Operand) (t : TypeId)
    (ho : o.op = .call { callee := .builtin .append, args := #[s, x], argTypes := #[t, t] })
    (base : Nat) (e : TypeId) (i : TypeInfo) (z : Value) (size bytes : Nat) (ht : Try.prog.underlying t = some (.slice e)) (hi : Try.prog.info? e = some i) (hz : i.zero = some z)
    (hsize : i.size = size) (hby : i.bytes = bytes) (hzs : z.cells.size = size) (hsz : 0 < size)
    (v : Value) (n : Nat) (xs : List Value) (hs : a.eval s = v) (hown : w.ownsRow base e size v n xs)
    (q : Option Addr) (m c : Nat) (cs : List Value) (hx : a.eval x = .slice q m c) (hsl : SlP w size q m c cs)
    (h63 : n + m ≤ maxLen) (hbytes : (n + m) * bytes ≤ 140737488355328) (hbase : base ≤ w.heap.size)
    (h : ∀ v' w', w'.ownsRow base e size v' (n + m) (xs ++ cs) → w.grownBy w' v.ownBlock → K (a.put o.dst v') w') :
    if Region.wanted o (yielded ops a.tmps) = true then Oper.wp Try.prog o a w K Q else E := by
  have hw : Region.wanted o (yielded ops a.tmps) = true := by simp [Region.wanted, hgd]
  rw [if_pos hw]
  cases q with
  | none =>
    obtain rfl := hsl.nil rfl
    obtain rfl : m = 0 := by have := hsl.fit; omega
    obtain rfl : cs = [] := List.eq_nil_of_length_eq_zero (by have := hsl.len; omega)
    have hrun := run_append_owned_none (P := Try.prog) (w := w) base t o.type e i size ht hi v n xs hown
    unfold Oper.wp
    simp [execOp, ho, resolve, invoke, builtin, hs, hx, hrun, Result.andThen]
    exact h v w (by simpa using hown) ⟨rfl, rfl, rfl, Nat.le_refl _, fun _ _ _ => rfl⟩
  | some ad =>
    refine wp_append_own w s x t ho base e i z size bytes ht hi hz hsize hby hzs hsz v n xs hs hown ad m c cs hx hsl.len ?_ hsl.one h63 hbytes hbase (fun v' w' h2 h3 _ => h v' w' h2 h3)
    intro j u hj
    by_cases h0 : 0 < m
    · obtain ⟨b, off, e2, _, hu⟩ := hsl.at_ h0
      cases e2
      rw [add_none]
      exact hu j u hj
    · obtain rfl : cs = [] := List.eq_nil_of_length_eq_zero (by have := hsl.len; rw [show m = 0 by omega] at this; omega)
      simp at hj
end Go.Proofs.Ythokapebcplmkaa

/- A part in memory, the ends of runs, Check of a list of the call's own: what the laws of moved and first signs share. -/
namespace Go.Proofs.Ythokapebcplmkaa
open Go.RowKit

end Go.Proofs.Ythokapebcplmkaa

/- Steps of a drawn region whose operands the kernel reckons: calls, allocations, loads, slices, stores of parts; no walk opens the frame. -/
namespace Go.Proofs.Ythokapebcplmkaa
open Go.RowKit

section
variable {ops : Array Oper} {o : Oper} {a : Act} {w : World} {K : Act → World → Prop} {Q : Exit → Act → World → Prop} {E : Prop} {S : World → Prop}
theorem wanted_plain (hgd : o.guard = none) : Region.wanted o (yielded ops a.tmps) = true := by simp [Region.wanted, hgd]
theorem step_callTo (hgd : o.guard = none) (f : FuncId) (args : Array Value) (hrun : (execOp a.eval o).run Try.prog w = .ok (.enter f args) w) (h : Calls Try.prog f args w fun e w' => ∃ r, e = .returned r ∧ K (a.put o.dst r) w') :
    if Region.wanted o (yielded ops a.tmps) = true then Oper.wp Try.prog o a w K Q else E := by
  rw [if_pos (wanted_plain hgd)]
  unfold Oper.wp
  rw [hrun, Oper.upon_enter]
  refine h.mono fun e w' hh => ?_
  obtain ⟨r, rfl, hk⟩ := hh
  exact hk
theorem step_runTo (hgd : o.guard = none) (v : Value) (w' : World) (hrun : (execOp a.eval o).run Try.prog w = .ok (.value v) w') (h : K (a.put o.dst v) w') :
    if Region.wanted o (yielded ops a.tmps) = true then Oper.wp Try.prog o a w K Q else E := by
  rw [if_pos (wanted_plain hgd)]
  unfold Oper.wp
  rw [hrun, Oper.upon_value]
  exact h
theorem step_storeTo (hgd : o.guard = none) (ty : TypeId) (x y : Operand) (ho : o.op = .store ty x y) (g : Nat) (cells : Array Value) (hx : a.eval x = .pointer (some ⟨g, 0, none⟩)) (hy : a.eval y = .agg cells)
    (t : TypeId) (old : Array Value) (hg : HoldsB w g t old) (hi : (Try.prog.info? ty).map (·.size) = some cells.size) (hold : old.size = cells.size) (h1 : cells.all (·.oneCell') = true)
    (h : ∀ W', HoldsB W' g t cells → (∀ B w0, Below B w0 w → B ≤ g → Below B w0 W') → (∀ c, c ≠ g → W'.heap[c]? = w.heap[c]?) → K (a.put o.dst undef) W') :
    if Region.wanted o (yielded ops a.tmps) = true then Oper.wp Try.prog o a w K Q else E := by
  rw [if_pos (wanted_plain hgd)]
  refine wp_store_row ty x y ho g cells hx hy t old hg hi hold h1 ?_
  exact h _ (setRow_heap w g old cells t (0, 0) hg) (fun B w0 hb hB => below_setRow hb hB cells) (fun c hc => setRow_other w g c cells hc)
theorem run_yields (v : Value) (hw : Region.wanted o (yielded ops a.tmps) = true) (hrun : ∀ W, S W → (execOp a.eval o).run Try.prog W = .ok (.value v) W) : YieldsIf Try.prog ops S o v a := .inl ⟨hw, hrun⟩
theorem ld_yields (ty : TypeId) (x : Operand) (p : Addr) (v : Value) (hw : Region.wanted o (yielded ops a.tmps) = true) (ho : o.op = .load ty x) (hx : a.eval x = .pointer (some p))
    (h1 : ∀ W : World, W.cell? p = some v → (Instr.loadAt ty (.pointer (some p))).run Try.prog W = .ok v W) (hS : ∀ W, S W → W.cell? p = some v) : YieldsIf Try.prog ops S o v a :=
  .inl ⟨hw, fun W hW => by
    unfold execOp
    simp only [ho, hx, Sem.run_bind, h1 W (hS W hW), Result.andThen_ok]
    rfl⟩
theorem sl_yields (t : TypeId) (x : Operand) (lo hi : Option Operand) (u : Value) (lo' hi' : Option Value) (v : Value) (hw : Region.wanted o (yielded ops a.tmps) = true) (ho : o.op = .slice t x lo hi none) (hx : a.eval x = u) (hl : lo.map a.eval = lo') (hh : hi.map a.eval = hi')
    (h1 : ∀ W : World, (Instr.sliceAt t u lo' hi' none).run Try.prog W = .ok v W) : YieldsIf Try.prog ops S o v a :=
  .inl ⟨hw, fun W _ => by
    unfold execOp
    simp only [ho, hx, hl, hh, Option.map_none, Sem.run_bind, h1 W, Result.andThen_ok]
    rfl⟩
theorem ix_yields (t : TypeId) (x y : Operand) (u : Value) (z : Int) (v : Value) (hw : Region.wanted o (yielded ops a.tmps) = true) (ho : o.op = .indexAddr t x y) (hx : a.eval x = u) (hy : a.eval y = .int .i64 z)
    (h1 : ∀ W : World, (Instr.indexAt t u (.int .i64 z)).run Try.prog W = .ok v W) : YieldsIf Try.prog ops S o v a :=
  .inl ⟨hw, fun W _ => by
    unfold execOp
    simp only [ho, hx, hy, Sem.run_bind, h1 W, Result.andThen_ok]
    rfl⟩
end
theorem ix_int (b o n c k : Nat) (z : Int) (hz : z = (k : Int)) (hk : k < n) (W : World) : (Instr.indexAt 32 (.slice (some ⟨b, o, none⟩) n c) (.int .i64 z)).run Try.prog W = .ok (.pointer (some ⟨b, o + k, none⟩)) W := by
  subst hz
  have h0 : (0 : Int) ≤ k := by omega
  have h1 : (k : Int) < n := by omega
  go_simp
theorem ix_sgn (b o n c k : Nat) (z : Int) (hz : z = (k : Int)) (hk : k < n) (W : World) : (Instr.indexAt 24 (.slice (some ⟨b, o, none⟩) n c) (.int .i64 z)).run Try.prog W = .ok (.pointer (some ⟨b, o + k * 17, none⟩)) W := by
  subst hz
  have h0 : (0 : Int) ≤ k := by omega
  have h1 : (k : Int) < n := by omega
  go_simp
theorem ld_str (p : Addr) (s : ByteArray) (W : World) (h : W.cell? p = some (.string s)) : (Instr.loadAt 9 (.pointer (some p))).run Try.prog W = .ok (.string s) W := by go_simp
theorem ld_int (p : Addr) (z : Int) (W : World) (h : W.cell? p = some (.int .i64 z)) : (Instr.loadAt 3 (.pointer (some p))).run Try.prog W = .ok (.int .i64 z) W := by go_simp
theorem ld_sgs (p : Addr) (q : Option Addr) (n c : Nat) (W : World) (h : W.cell? p = some (.slice q n c)) : (Instr.loadAt 24 (.pointer (some p))).run Try.prog W = .ok (.slice q n c) W := by go_simp
theorem sl_to (bq oq n c i : Nat) (hi : i ≤ c) (W : World) : (Instr.sliceAt 24 (.slice (some ⟨bq, oq, none⟩) n c) none (some (.int .i64 (i : Int))) none).run Try.prog W = .ok (.slice (some ⟨bq, oq, none⟩) i c) W := by
  have h1 : (i : Int) ≤ (c : Int) := by omega
  have h0 : (0 : Int) ≤ i := by omega
  go_simp
theorem sl_from (bq oq n c i : Nat) (z : Int) (hz : z = (i : Int)) (hi : i ≤ n) (W : World) : (Instr.sliceAt 24 (.slice (some ⟨bq, oq, none⟩) n c) (some (.int .i64 z)) none none).run Try.prog W = .ok (.slice (dropQ (some ⟨bq, oq, none⟩) c i) (n - i) (c - i)) W := by
  subst hz
  have h1 : (i : Int) ≤ (n : Int) := by omega
  have h0 : (0 : Int) ≤ i := by omega
  have hdq : (if c = i then (some ⟨bq, oq, none⟩ : Option Addr) else some ⟨bq, oq + i * 17, none⟩) = dropQ (some ⟨bq, oq, none⟩) c i := by unfold dropQ; split <;> simp [add_none]
  generalize dropQ (some ⟨bq, oq, none⟩) c i = pd at *
  go_simp
/-- A list of the call's own over a store elsewhere. -/
theorem own_rest {A A' : World} {base c : Nat} {e : TypeId} {k : Nat} {v : Value} {n : Nat} {cs : List Value} (h : A.ownsRow base e k v n cs) (hne : some c ≠ v.ownBlock) (h3 : ∀ x, x ≠ c → A'.heap[x]? = A.heap[x]?) : A'.ownsRow base e k v n cs := by
  refine ⟨h.1, ?_⟩
  rcases h.2 with h2 | ⟨g, cap, cur, rfl, hb, hh, r⟩
  · exact .inl h2
  · exact .inr ⟨g, cap, cur, rfl, hb, (h3 g (fun e => hne (by rw [e]; rfl))).trans hh, r⟩
end Go.Proofs.Ythokapebcplmkaa
