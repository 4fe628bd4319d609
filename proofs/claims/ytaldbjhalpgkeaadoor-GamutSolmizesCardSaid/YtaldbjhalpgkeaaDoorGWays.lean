/- The program's Ways: a list collected from the iterator; checkSung, isIn, isSmooth. -/
import Derived.Test.YtaldbjhalpgkeaaDoorGIterB
import Derived.Maps.AppendAt
namespace Go.Proofs.YtaldbjhalpgkeaaDoor
open Go.RowKit Go.Shelf
attribute [local go_sem] Oper.semAt_some

theorem ownsRow_kept {A A' : World} {base : Nat} {e : TypeId} {k : Nat} {v : Value} {n : Nat} {cs : List Value} {row : Option Nat} (h : A.ownsRow base e k v n cs) (hg : A.grownBy A' row)
    (hr : ∀ r, row = some r → ∃ o : Obj, A.heap[r]? = some o ∧ o.isCells = false) : A'.ownsRow base e k v n cs := by
  refine ⟨h.1, ?_⟩
  rcases h.2 with h2 | ⟨g, cap, cur, hv, hb, hh, r⟩
  · exact .inl h2
  · refine .inr ⟨g, cap, cur, hv, hb, (hg.block g (Array.getElem?_eq_some_iff.1 hh).1 (fun e' => ?_)).trans hh, r⟩
    obtain ⟨o, ho, hc⟩ := hr g e'.symm
    rw [hh] at ho; cases ho; cases hc
theorem ownL_from {β : Type} {w : World} {B : Nat} (hB : w.heap.size ≤ B) (k0 : Nat) (t e : TypeId) (k : Nat) (n : β → Nat) (cs : β → List Value) :
    OwnFrom B (fun (s : β) A => ∃ v, HoldsB A k0 t #[v] ∧ OwnL w A e k v (n s) (cs s)) := by
  rintro s A A' row ⟨v, h1, h2⟩ hg hr
  refine ⟨v, holds_own k0 t (fun (_ : Unit) => #[v]) () A A' row h1 hg (fun r e => (hr r e).2), ⟨h2.bel.grown hg h2.bel.size (fun j e => by have := (hr j e).1; omega), ownsRow_kept h2.row hg (fun r e => (hr r e).2)⟩⟩

theorem own_ne {A : World} {base : Nat} {e t : TypeId} {k : Nat} {v : Value} {n b : Nat} {cs : List Value} {cs' : Array Value} (h : A.ownsRow base e k v n cs) (h1 : HoldsB A b t cs') (hte : t ≠ e) : some b ≠ v.ownBlock := by
  intro e'
  rcases h.2 with ⟨rfl, _⟩ | ⟨g, cap, cur, rfl, _, hh, _⟩
  · cases e'
  · simp only [Value.ownBlock, Option.some.injEq] at e'
    subst e'
    rw [show A.heap[b]? = _ from h1] at hh
    cases hh
    exact hte rfl
theorem own_put {A : World} {base : Nat} {e : TypeId} {k : Nat} {v : Value} {n c : Nat} {cs : List Value} (h : A.ownsRow base e k v n cs) (hne : some c ≠ v.ownBlock) (j : Nat) (u : Value) : (A.setCell ⟨c, j, none⟩ u).ownsRow base e k v n cs := by
  refine ⟨h.1, ?_⟩
  rcases h.2 with h2 | ⟨g, cap, cur, rfl, hb, hh, r⟩
  · exact .inl h2
  · exact .inr ⟨g, cap, cur, rfl, hb, (Below.heap_setCell _ _ _ _ (fun e => hne (by rw [e]; rfl))).trans hh, r⟩
theorem own_row {A : World} {base : Nat} {e : TypeId} {k : Nat} {v : Value} {n : Nat} {cs : List Value} (h : A.ownsRow base e k v n cs) (he : e = 25 ∨ e = 9) : ∀ r, v.ownBlock = some r → ∃ o : Obj, A.heap[r]? = some o ∧ plainO o = false := by
  intro r hr
  rcases h.2 with ⟨rfl, _⟩ | ⟨g, cap, cur, rfl, _, hh, _⟩
  · cases hr
  · simp only [Value.ownBlock, Option.some.injEq] at hr
    subst hr
    exact ⟨_, hh, by rcases he with rfl | rfl <;> rfl⟩
theorem ways_len (p : Pi3) : (waysL p).length ≤ 42 := by
  have := List.length_filter_le (fun s => decide (madeS s = p)) pairsL
  exact this
theorem PitC.later {b : Nat} {p : Pi3} {W W' : World} (h : PitC b p W) (k : Below W.heap.size W W') : PitC b p W' :=
  ⟨h.1.later k, cell_later k h.2.1, cell_later k h.2.2.1, cell_later k h.2.2.2⟩

set_option maxRecDepth 100000 in
set_option maxHeartbeats 4000000 in
theorem wappseq_any (p : Pi3) (hp : okP p) (b : Nat) (w : World) (hc : PitC b p w) :
    Calls Tryd.prog 62 #[.slice none 0 0, .func (.func 63) #[] #[.pointer (some ⟨b, 0, none⟩)]] w
      fun e w' => ∃ v, e = .returned v ∧ SylV w' v (waysL p) ∧ Below w.heap.size w w' := by
  refine (callsIn_wide (n := 1)).1 ?_
  have G := Lib.hid (ways_gives p hp b)
  have HC := Lib.hid hc
  clear hc hp
  obtain ⟨i0, hi0, hz0, hz1, hz2⟩ := info_parts info_syl
  refine callsIn_of_wp_marks Tryd.func62 rfl trivial ?_ rfl
  simp only [Tryd.ntmps62, List.size_toArray, List.length_cons, List.length_nil, Nat.reduceAdd, Nat.reduceSub, Array.replicate_succ, Array.replicate_zero, List.push_toArray, List.append_toArray, List.nil_append, List.cons_append]
  gi_wp2_with fail
  have hs1 : (w.alloc (.cells #[.slice none 0 0] 29)).heap.size = w.heap.size + 1 := by simp
  have B0 := Lib.hid (HoldsB.new w 29 #[.slice none 0 0])
  have L0 := Lib.hid (show OwnL w (w.alloc (.cells #[.slice none 0 0] 29)) 25 2 (.slice none 0 0) 0 [] from ⟨w_alloc (w_refl w) _, World.ownsRow_nil _ _ _ _⟩)
  generalize w.alloc (.cells #[.slice none 0 0] 29) = w1 at *
  refine wpIn_gives G.out rfl (enters_of Tryd.func63 (by kernel_rfl) rfl) rfl
    (fun pre A => ∃ v, HoldsB A w.heap.size 29 #[v] ∧ OwnL w A 25 2 v pre.length (flatS pre))
    (fun _ => False) ?hC ?hI ?hIx ?h0
    (fun x a' A => ∃ Bx, HoldsB A Bx 25 #[.int .i64 x.1, .int .i64 x.2] ∧ a' = { tmps := #[.slice none 0 0, .func (.func 63) #[] #[.pointer (some ⟨b, 0, none⟩)], .pointer (some ⟨w.heap.size, 0, none⟩), undef, .slice none 0 0, .pointer (some ⟨Bx, 0, none⟩), .func (.func 63) #[] #[.pointer (some ⟨b, 0, none⟩)], sv x, undef, undef, undef, undef, undef], defers := [] })
    ?hAx ?assign ?body ?done ?stop
  case hC =>
    rintro pre A ⟨v, _, h2⟩
    exact HC.out.later h2.bel
  case hI => exact ownL_from (by omega) _ _ _ _ _ _
  case hIx => exact fun _ _ _ _ h _ _ => h
  case h0 => exact ⟨_, B0.out, L0.out⟩
  case hAx =>
    rintro x a' s A A' row ⟨Bx, h, e⟩ hg hr
    exact ⟨Bx, holds_own Bx _ (fun (_ : Unit) => _) () A A' row h hg (fun r e => (hr r e).2), e⟩
  case assign =>
    rintro m2 l2 pre x A K hle ⟨v, h1, h2⟩ hK
    gi_wp2_with fail
    exact hK _ _ (Mid.bel _ (w_alloc (w_refl A) _)) ⟨v, h1.al _, h2.later (w_alloc (w_refl A) _)⟩ ⟨A.heap.size, HoldsB.new A _ _, rfl⟩
  case body =>
    rintro m2 l2 pre x post a' A hx hle ⟨v, h1, h2⟩ ⟨Bx, hB, rfl⟩
    obtain ⟨q, c, rfl⟩ := h2.val
    have hlen := ways_len p
    rw [hx] at hlen
    simp only [List.length_append, List.length_cons] at hlen
    obtain ⟨x1, x2⟩ := x
    have d0 := hB.cell (j := 0) rfl
    have d1 := hB.cell (j := 1) rfl
    have c0 := h1.cell (j := 0) rfl
    have HO := Lib.hid (h2.later (w_alloc (w_refl A) (sO (x1, x2))))
    have H1 := Lib.hid (h1.al (sO (x1, x2)))
    have H2 := Lib.hid h2
    have HL := Lib.hid hle
    clear h1 h2 hx hB hle
    gi_wp2_with (gi_at_builtin; refine wpListIn_append_own _ rfl _ _ 29 rfl w.heap.size 25 i0 (.agg #[.int .i64 0, .int .i64 0]) 2 16 Tryd.underlying29 hi0 hz0 hz1 hz2 rfl (by decide) _ pre.length (flatS pre) rfl HO.out.row ⟨A.heap.size, 0, none⟩ 1 1 (flatS [(x1, x2)]) rfl rfl (lit_new _ _ _) (flatS_one _) (by unfold maxLen; omega) (by omega) HO.out.bel.size ?_; intro v' w3 hown hgrow _; obtain ⟨g', cap', rfl⟩ := ownsRow_succ hown; have h3 := Lib.hid (H1.out.kept hgrow (own_ne HO.out.row H1.out (by decide))); have cc := h3.out.cell (j := 0) rfl; have ff := h3.out.frozen 0)
    have hlt := HL.out
    have hAl := w_alloc (w_refl A) (sO (x1, x2))
    have hne := own_ne hown h3.out (by decide)
    refine ⟨(Mid.bel _ hAl).trans ((Mid.row _ hgrow (own_row HO.out.row (.inl rfl))).trans (Mid.set _ _ (by omega) _ _)), _, h3.out.set 0 _, (H2.out.far hAl hgrow).setCell (p := ⟨w.heap.size, 0, none⟩) (Nat.le_refl _) _, ?_⟩
    rw [flatS_app, List.length_append]
    exact own_put hown hne _ _
  case done =>
    rintro D A hD ⟨v, h1, h2⟩ hd
    have c0 := h1.cell (j := 0) rfl
    have H2 := Lib.hid h2
    have HD := Lib.hid hD
    clear h1 h2 hD
    gi_wp2_with fail
    refine ⟨by simp, .inl ⟨_, _, rfl, run_takeDeferred hd, ?_⟩⟩
    exact ⟨_, results_tmp rfl _ _ _, v, rfl, SylV.of_own (ownsRow_kept H2.out.row (grownBy_putObj' _ D _) (fun r e => by cases e; exact ⟨_, hd, rfl⟩)), H2.out.bel.trans (belowK_b (w := w) (Nat.le_refl _) A D _ _ (by have := HD.out; omega) hd rfl rfl)⟩
  case stop =>
    rintro D A hD hx hd
    exact hx.elim

end Go.Proofs.YtaldbjhalpgkeaaDoor
