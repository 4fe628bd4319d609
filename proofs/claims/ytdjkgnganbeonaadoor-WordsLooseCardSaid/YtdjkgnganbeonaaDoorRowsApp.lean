/- Rows of the call's own, and other rows behind them. -/
import Derived.Test.YtdjkgnganbeonaaDoorOwn
namespace Go.Proofs.YtdjkgnganbeonaaDoor
open Go.RowKit

theorem AllR.both {w : World} {o : Option Nat} : ∀ {vs us rs qs}, AllR w o vs rs → AllR w o us qs → AllR w o (vs ++ us) (rs ++ qs)
  | [], _, [], _, _, k => k
  | _ :: _, _, _ :: _, _, h, k => ⟨h.1, AllR.both h.2 k⟩
  | [], _, _ :: _, _, h, _ => h.elim
  | _ :: _, _, [], _, h, _ => h.elim
theorem flatR_one (vs : List (Int × Value)) (h : ∀ x ∈ vs, x.2.oneCell' = true) : ∀ u ∈ flatR vs, u.oneCell' = true := by
  intro u hu
  induction vs with
  | nil => simp [flatR] at hu
  | cons x t ih =>
    simp only [flatR, List.mem_cons] at hu
    rcases hu with rfl | rfl | hu
    · rfl
    · exact h x (by simp)
    · exact ih (fun y hy => h y (by simp [hy])) hu
theorem AllR.one {w : World} {o : Option Nat} : ∀ {vs rs}, AllR w o vs rs → ∀ x ∈ vs, x.2.oneCell' = true
  | [], [], _, x, hx => by simp at hx
  | y :: t, r :: rs, h, x, hx => by
    rcases List.mem_cons.1 hx with rfl | hx
    · obtain ⟨p, c, e, _⟩ := h.1.2.1
      rw [e]; rfl
    · exact AllR.one h.2 x hx
  | [], _ :: _, h, _, _ => h.elim
  | _ :: _, [], h, _, _ => h.elim

theorem wpList_append_rows {ops : Array Oper} {rest : List Oper} {o : Oper} {a : Act} {w w0 : World} {Q : Exit → Act → World → Prop} (hgd : Region.wanted o (yielded ops a.tmps) = true) (s x : Operand)
    (ho : o.op = .call { callee := .builtin .append, args := #[s, x], argTypes := #[23, 23] })
    (v : Value) (l : List Rw) (hs : a.eval s = v) (hown : RowsI w w0.heap.size v l) (q : Option Addr) (c n : Nat) (m : List Rw) (hn : m.length = n) (hx : a.eval x = .slice q n c) (hm : RowsV w0 (.slice q n c) m) (hb : Below w0.heap.size w0 w)
    (h1 : l.length ≤ 100000) (h2 : m.length ≤ 100000) (h : ∀ v' w', RowsV w' v' (l ++ m) → Below w0.heap.size w w' → wpList Tryd.prog ops Q rest (a.put o.dst v') w') :
    wpList Tryd.prog ops Q (o :: rest) a w := by
  refine wpList_step fun K hK => ?_
  rw [if_pos hgd]
  subst hn
  obtain ⟨i0, hi0, hz0, hz1, hz2⟩ := info_parts info_row
  obtain ⟨vs, hor, hal⟩ := hown
  obtain ⟨q', c', us, oo, e, hsl, ham⟩ := hm
  simp only [Value.slice.injEq, true_and] at e
  obtain ⟨rfl, rfl⟩ := e
  have hbase := hb.size
  have ham2 : AllR w v.ownBlock us m := ham.mono fun vv ww y z => ⟨y.later hb, fun h0 e => by
    obtain ⟨b, e1, e2⟩ := y.block h0
    rw [e1] at e
    have := (hor.lt b e.symm).1
    omega⟩
  have hsl2 := hsl.later hb
  have each : ∀ (ad : Addr), q = some ad → (∀ j u, (flatR us)[j]? = some u → w.cell? (ad.add j) = some u) → o.wp Tryd.prog a w K Q := by
    intro ad had hc
    subst had
    refine wp_append_own w s x 23 ho w0.heap.size 44 i0 (.agg #[.int .i64 0, .slice none 0 0]) 2 32 Tryd.underlying23 hi0 hz0 hz1 hz2 rfl (by decide) v l.length (flatR vs) hs hor ad m.length c (flatR us) hx (by rw [flatR_len, ham.len]) hc (flatR_one us ham.one) (by unfold maxLen; omega) (by omega) hbase ?_
    intro v' w' hown' hgrow _
    refine hK _ _ (h v' w' ?_ ((Below.refl w0.heap.size w).grown hgrow hbase (fun g hg => (hor.lt g hg).1)))
    have hown2 : w'.ownsRow w0.heap.size 44 2 v' (l ++ m).length (flatR (vs ++ us)) := by rw [List.length_append, flatR_app]; exact hown'
    obtain ⟨p2, c2, e2, hs2⟩ := slice_of_own hown2
    exact ⟨p2, c2, vs ++ us, v.ownBlock, e2, hs2, (hal.both ham2).grown hgrow⟩
  by_cases h0 : 0 < m.length
  · obtain ⟨b, off, e, _, ht⟩ := hsl2.at_ h0
    exact each _ e (fun j u hu => by rw [w_addr]; exact ht j u hu)
  · obtain rfl : m = [] := List.length_eq_zero_iff.1 (by omega)
    have hus : us = [] := List.length_eq_zero_iff.1 (by rw [ham.len]; rfl)
    subst hus
    cases q with
    | none =>
      obtain rfl := hsl2.nil rfl
      have hr := run_append_owned_none (P := Tryd.prog) w w0.heap.size 23 o.type 44 i0 2 Tryd.underlying23 hi0 v l.length (flatR vs) hor
      have hx' : a.eval x = .slice none 0 0 := hx
      unfold Oper.wp execOp
      simp only [ho, resolve, invoke, builtin, Sem.run_bind, Sem.run_pure, Result.andThen_ok, List.map_toArray, List.map_cons, List.map_nil, hs, hx', hr]
      refine hK _ _ (h v w ?_ (Below.refl _ _))
      rw [List.append_nil]
      exact RowsI.val ⟨vs, hor, hal⟩
    | some ad => exact each ad rfl (fun j u hu => by simp [flatR] at hu)

end Go.Proofs.YtdjkgnganbeonaaDoor
