/- DotLocal: a dot behind its note alone; steps of a drawn region by facts about values. -/
import Derived.Test.YthokapebcplmkaaDMade
import Derived.Test.YthokapebcplmkaaDKnown
import Derived.Test.YthokapebcplmkaaDTwo
namespace Go.Proofs.Ythokapebcplmkaa
open Go.RowKit

theorem two_ok {q : Q4} {s : Sg} (hq : okM q) (hk : s.kind = 1 ∨ s.kind = 2) (hv : 1 ≤ s.val ∧ s.val ≤ 8) (hm : (mns q s).length ≠ 0) : chkD q [s, pS] = 0 ∧ mnD q [s, pS] = [mns q s] := by
  have h3 : s.kind ≠ 3 := by omega
  have hb : bef [s, pS] 1 = s := if_neg h3
  have hc : chkD q [s, pS] = 0 := chkD_ok hq (fun k hk' => by
    match k, hk' with
    | 0, _ =>
      show sgnE q zS s = 0
      unfold sgnE
      rw [if_pos hk, if_pos hv]
    | 1, _ =>
      unfold errD
      rw [hb]
      show sgnE q s pS = 0
      unfold sgnE
      rw [if_neg (by decide), if_pos (show pS.kind = 3 from rfl), if_neg hm]
    | k + 2, h => simp at h; omega)
  refine ⟨hc, ?_⟩
  rw [mnD_ok hc]
  show mnP q [s, pS] (1 + 1) = _
  rw [mnP_dot (show (([s, pS] : List Sg).getD 1 zS).kind = 3 from rfl), hb]
  show mnP q [s, pS] (0 + 1) ++ _ = _
  rw [mnP_not (show (([s, pS] : List Sg).getD 0 zS).kind ≠ 3 from h3)]
  rfl
theorem mnP_pre (q : Q4) (l : List Sg) (k : Nat) : ∀ n, ∃ t, mnP q l (k + n) = mnP q l k ++ t
  | 0 => ⟨[], by simp⟩
  | n + 1 => by
    obtain ⟨t, e⟩ := mnP_pre q l k n
    by_cases hd : (l.getD (k + n) zS).kind = 3
    · exact ⟨t ++ [mns q (bef l (k + n))], by rw [← Nat.add_assoc, mnP_dot hd, e, List.append_assoc]⟩
    · exact ⟨t, by rw [← Nat.add_assoc, mnP_not hd, e]⟩
theorem mnP_at {q : Q4} {l : List Sg} {k n : Nat} (hk : k < n) (hd : (l.getD k zS).kind = 3) : (mnP q l n)[(mnP q l k).length]? = some (mns q (bef l k)) := by
  obtain ⟨t, e⟩ := mnP_pre q l (k + 1) (n - (k + 1))
  rw [show k + 1 + (n - (k + 1)) = n by omega, mnP_dot hd] at e
  rw [e, List.append_assoc, List.getElem?_append_right (Nat.le_refl _), Nat.sub_self]
  rfl
theorem own_five (q : Q4) : ownM q 5 = 0 := by
  unfold ownM
  rw [if_neg]
  unfold parV
  split
  · simp [pI]
  · decide
theorem mns_five (q : Q4) : mns q (nS 5) = if aboV q 5 = 0 then [0] else [0, aboV q 5] := by
  unfold mns
  rw [if_pos (show (nS 5).kind = 1 from rfl), if_neg (show ¬ (nS 5).col = true by decide)]
  show (if aboV q 5 = 0 then [ownM q 5] else if ownM q 5 = 0 then [0, aboV q 5] else [aboV q 5, ownM q 5]) = _
  rw [own_five, if_pos rfl]
theorem five_len (q : Q4) : (mns q (nS 5)).length ≠ 0 := note_mns q (nS 5) rfl
theorem mn_two {q : Q4} {s : Sg} (hq : okM q) (hk : s.kind = 1 ∨ s.kind = 2) (hv : 1 ≤ s.val ∧ s.val ≤ 8) (hm : (mns q s).length ≠ 0) (p : Option Addr) (cap : Nat) (w : World) (h : SlP w 17 p 2 cap (flatG [s, pS])) :
    Calls Try.prog 12 #[mv q, .slice p 2 cap] w fun e w' => ∃ v, e = .returned (.tuple #[v, .int .i64 0]) ∧ LstV w' v [mns q s] ∧ Below w.heap.size w w' := by
  have := pmns_any q [s, pS] (by show 2 ≤ 1000; decide) p cap w h
  unfold MnPost at this
  rw [(two_ok hq hk hv hm).1, (two_ok hq hk hv hm).2] at this
  exact this

theorem wrap_nat (j : Nat) (hj : j < 1000) : IntKind.i64.wrap (j : Int) = (j : Int) := by
  simp [IntKind.wrap, IntKind.bits, IntKind.signed]; omega
inductive Fl
  | k (f : Fk)
  | tup (L : List (List Int))
def Fl.holds : Fl → Value → World → Prop
  | .k f, v, w => f.holds v w
  | .tup L, v, w => ∃ u, v = .tuple #[u, .int .i64 0] ∧ LstV w u L
theorem Fl.later (k : Fl) {v : Value} {w w' : World} (h : k.holds v w) (b : Below w.heap.size w w') : k.holds v w' := by
  cases k with
  | k f => exact Fk.later f h b
  | tup L => obtain ⟨u, e, hs⟩ := h; exact ⟨u, e, hs.later b⟩
def tabL (T : List Fl) (i : Nat) : Value → World → Prop := (T.getD i (.k (.val undef))).holds
theorem mens_loadAt {w : World} {b : Nat} {q : Q4} (h : Cell4 w b q) : (Instr.loadAt 23 (.pointer (some ⟨b, 0, none⟩))).run Try.prog w = .ok (mv q) w := by
  obtain ⟨q1, q2, q3, q4⟩ := q
  obtain ⟨-, k0, k1, k2, k3, -⟩ := h
  simp only at k0 k1 k2 k3
  go_simp
section
variable {ops : Array Oper} {Q : Exit → Act → World → Prop} {a0 : Act} {w0 : World} {o : Oper} {a : Act} {w : World} {G : Value → World → Prop}
theorem st_mens (x : Operand) (b : Nat) (q : Q4) (hx : a.eval x = .pointer (some ⟨b, 0, none⟩)) (hs : Cell4 w b q) (ho : o.op = .load 23 x) : o.wp Try.prog a w (fun a' w' => ∃ v, a' = a.put o.dst v ∧ (Fk.val (mv q)).holds v w' ∧ Below w.heap.size w w') Q :=
  st_value (mv q) w (by unfold execOp; simp only [ho, hx, Sem.run_bind, mens_loadAt hs, Result.andThen_ok]; rfl) rfl (w_refl w)
theorem st_loadO (x : Operand) (b f : Nat) (s : Sg) (hx : a.eval x = .pointer (some ⟨b, f, none⟩)) (hs : SgAt w b f s) (ho : o.op = .load 51 x) : o.wp Try.prog a w (fun a' w' => ∃ v, a' = a.put o.dst v ∧ (Fk.val (sgv s)).holds v w' ∧ Below w.heap.size w w') Q :=
  st_value (sgv s) w (by unfold execOp; simp only [ho, hx, Sem.run_bind, sg_loadAt hs, Result.andThen_ok]; rfl) rfl (w_refl w)
theorem st_ixs (x y : Operand) (b f n c k : Nat) (hx : a.eval x = .slice (some ⟨b, f, none⟩) n c) (hy : a.eval y = .int .i64 (k : Int)) (hk : k < n) (ho : o.op = .indexAddr 24 x y) : o.wp Try.prog a w (fun a' w' => ∃ v, a' = a.put o.dst v ∧ (Fk.val (.pointer (some ⟨b, f + k * 17, none⟩))).holds v w' ∧ Below w.heap.size w w') Q :=
  st_value _ w (by unfold execOp; simp only [ho, hx, hy, Sem.run_bind, ix_sgn b f n c k _ rfl hk w, Result.andThen_ok]; rfl) rfl (w_refl w)
theorem st_sub1 (x : Operand) (j k : Nat) (hj : j < 1000) (hkj : k = j + 1) (hx : a.eval x = .int .i64 (k : Int)) (ho : o.op = .binOp .sub 3 x (.const (.int .i64 1)) 3) : o.wp Try.prog a w (fun a' w' => ∃ v, a' = a.put o.dst v ∧ (Fk.val (.int .i64 (j : Int))).holds v w' ∧ Below w.heap.size w w') Q :=
  st_value (.int .i64 (j : Int)) w (by
    have h1 : ((k : Int) - 1) = (j : Int) := by omega
    have hr : ∀ W : World, (binOp (.sub) 3 (.int .i64 (k : Int)) (.int .i64 1)).run Try.prog W = .ok (.int .i64 (j : Int)) W := fun W => by
      rw [← wrap_nat j hj, ← h1]
      go_simp
    have hc : a.eval (.const (.int .i64 1)) = .int .i64 1 := rfl
    unfold execOp
    simp only [ho, hx, hc, Sem.run_bind, hr]
    go_simp) rfl (w_refl w)
theorem st_ext0 (x : Operand) (L : List (List Int)) (hx : (Fl.tup L).holds (a.eval x) w) (ho : o.op = .extract x 0) : o.wp Try.prog a w (fun a' w' => ∃ v, a' = a.put o.dst v ∧ (Fk.ll L).holds v w' ∧ Below w.heap.size w w') Q := by
  obtain ⟨u, e, hs⟩ := hx
  exact st_value u w (by unfold execOp; simp only [ho, e]; rfl) hs (w_refl w)
theorem st_ext1 (x : Operand) (L : List (List Int)) (hx : (Fl.tup L).holds (a.eval x) w) (ho : o.op = .extract x 1) : o.wp Try.prog a w (fun a' w' => ∃ v, a' = a.put o.dst v ∧ (Fk.val (.int .i64 0)).holds v w' ∧ Below w.heap.size w w') Q := by
  obtain ⟨u, e, hs⟩ := hx
  exact st_value (.int .i64 0) w (by unfold execOp; simp only [ho, e]; rfl) rfl (w_refl w)
theorem st_moveF (x : Operand) (f : Fl) (hx : f.holds (a.eval x) w) (ho : o.op = .move x) : o.wp Try.prog a w (fun a' w' => ∃ v, a' = a.put o.dst v ∧ f.holds v w' ∧ Below w.heap.size w w') Q :=
  st_value (a.eval x) w (by unfold execOp; simp only [ho]; rfl) hx (w_refl w)
theorem st_assignF (x : Operand) (f : Fl) (hx : f.holds (a.eval x) w) (ho : o.op = .assign x) : o.wp Try.prog a w (fun a' w' => ∃ v, a' = a.put o.dst v ∧ f.holds v w' ∧ Below w.heap.size w w') Q :=
  st_value (a.eval x) w (by unfold execOp; simp only [ho]; rfl) hx (w_refl w)
theorem st_mnT (q : Q4) (s : Sg) (X : List Int) (MN : ∀ p cap W, SlP W 17 p 2 cap (flatG [s, pS]) → Calls Try.prog 12 #[mv q, .slice p 2 cap] W fun e w' => ∃ v, e = .returned (.tuple #[v, .int .i64 0]) ∧ LstV w' v [X] ∧ Below W.heap.size W w')
    (x y : Operand) (ats : Array TypeId) (hx : a.eval x = mv q) (hy : (Fk.sg [s, pS]).holds (a.eval y) w) (ho : o.op = .call { callee := .value (.func 12), args := #[x, y], argTypes := ats }) : o.wp Try.prog a w (fun a' w' => ∃ v, a' = a.put o.dst v ∧ (Fl.tup [X]).holds v w' ∧ Below w.heap.size w w') Q := by
  obtain ⟨p, e1, hs⟩ := hy
  exact st_call _ _ _ ho #[mv q, .slice p 2 2] (by simp [hx, e1]) (fun _ _ => by rfl) ((MN p 2 w hs).mono fun _ _ ⟨v, h1, h2, h3⟩ => ⟨_, h1, ⟨v, rfl, h2⟩, h3⟩)
end

end Go.Proofs.Ythokapebcplmkaa
