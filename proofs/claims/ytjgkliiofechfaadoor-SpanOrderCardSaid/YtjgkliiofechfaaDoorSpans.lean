/- Lists of small times made of numbers: what the kit's Spans gives, for every list of numbers; one own list behind another. -/
import Derived.Test.YtjgkliiofechfaaDoorRefS
import Derived.Test.YtjgkliiofechfaaDoorMathD
import Derived.Deep.AppendLies
namespace Go.Proofs.YtjgkliiofechfaaDoor
open Go.RowKit

/-- A slice of numbers, nil or not. -/
structure IntsP (w : World) (p : Option Addr) (cap : Nat) (zs : List Int) : Prop where
  fit : zs.length ≤ cap
  max : cap ≤ 9223372036854775807
  bds : ∀ k, k < zs.length → -9223372036854775808 ≤ zs.getD k 0 ∧ zs.getD k 0 ≤ 9223372036854775807
  at_ : 0 < zs.length → ∃ b off, p = some ⟨b, off, none⟩ ∧ b < w.heap.size ∧ ∀ k, k < zs.length → w.cell? ⟨b, off + k, none⟩ = some (.int .i64 (zs.getD k 0))

theorem own_below {w w1 : World} {base size B : Nat} {e : TypeId} {v : Value} {n : Nat} {xs : List Value} (h : w.ownsRow base e size v n xs) (k : Below B w w1) (hB : w.heap.size ≤ B) : w1.ownsRow base e size v n xs := by
  refine ⟨h.1, ?_⟩
  rcases h.2 with hn | ⟨g, cap, cur, hv, hb, hg, rest⟩
  · exact .inl hn
  · exact .inr ⟨g, cap, cur, hv, hb, by rw [k.block g (by have := (Array.getElem?_eq_some_iff.1 hg).1; omega)]; exact hg, rest⟩

theorem new_pair (w : World) (a b : Int) (t : TypeId) : ∀ j u, (flatT [(a, b)])[j]? = some u → (w.alloc (.cells #[.int .i64 a, .int .i64 b] t)).cell? ((⟨w.heap.size, 0, none⟩ : Addr).add j) = some u := by
  intro j u hu
  rw [add_none]
  match j, hu with
  | 0, hu => simp [flatT] at hu; subst hu; simp [go_sem]
  | 1, hu => simp [flatT] at hu; subst hu; simp [go_sem]
  | j + 2, hu => simp [flatT] at hu

theorem small_more {l : List (Int × Int)} {n d : Int} (h : ∀ p ∈ l, SmallP p) (k : Small n d) : ∀ p ∈ l ++ [(n, d)], SmallP p := by
  intro p hp
  rcases List.mem_append.1 hp with x | x
  · exact h p x
  · simp only [List.mem_singleton] at x; subst x; exact k

set_option maxHeartbeats 4000000 in
theorem spans_any (p : Option Addr) (cap : Nat) (zs : List Int) (w : World) (h : IntsP w p cap zs) :
    Calls Tryd.prog 42 #[.slice p zs.length cap, .int .i64 40] w fun e w' => ∃ v l, e = .returned v ∧ l.length ≤ 40 ∧ (∀ p ∈ l, SmallP p) ∧ w'.ownsRow w.heap.size 23 2 v l.length (flatT l) ∧ Below w.heap.size w w' := by
  have f1 := h.fit
  have m1 := h.max
  have HP := Lib.hid h
  clear h
  obtain ⟨i0, hi0, hz0, hz1, hz2⟩ := info_parts info_time
  go_enter Tryd.func42, Tryd.ntmps42
  go_wp2_with fail
  go_loopw [5, 6] (fun v i wr => ∃ (k : Nat) (l : List (Int × Int)), k ≤ zs.length ∧ k ≤ 40 ∧ i = .int .i64 k ∧ l.length = k ∧ Hid (∀ p ∈ l, SmallP p) ∧ Hid (wr.ownsRow w.heap.size 23 2 v l.length (flatT l)) ∧ Hid (Below w.heap.size w wr)) (fun _ i _ => 40 - (intOf i).toNat)
  case atStart => exact ⟨0, [], by omega, by omega, rfl, rfl, Lib.hid (fun p hp => by simp at hp), Lib.hid (World.ownsRow_nil _ _ _ _), Lib.hid (br w)⟩
  case round =>
    obtain ⟨k, l, hk, hk2, rfl, hl, hsm, hown, hb⟩ := hrel
    by_cases hgo : k < zs.length ∧ k < 40
    · obtain ⟨h1, h2⟩ := hgo
      obtain ⟨b, off, rfl, hin, hc⟩ := HP.out.at_ (by omega)
      obtain ⟨b0, b1⟩ := HP.out.bds k h1
      have c1 : wr.cell? ⟨b, off + k, none⟩ = some (.int .i64 (zs.getD k 0)) := by
        rw [hb.out.cell (p := ⟨b, off + k, none⟩) hin]; exact hc k h1
      clear hc
      generalize zs.getD k 0 = z at *
      go_wp2_with fail
      refine (span_any z _ b0 b1).mono ?_
      rintro e w1 ⟨hb1, n, d, hs, rfl⟩
      have hown1 := Lib.hid ((own_below hown.out hb1 (Nat.le_refl _)).alloc (.cells #[.int .i64 n, .int .i64 d] 23))
      have hlt := Lib.hid (hown.out.lt)
      have hb2 := Lib.hid (ba (bl hb.out hb1) (.cells #[.int .i64 n, .int .i64 d] 23))
      have hsz1 := Lib.hid (hb2.out.size)
      have hsm2 := Lib.hid (small_more hsm.out hs)
      clear c1 hs hb1
      go_wp2_with (at_builtin; refine wpList_append_own _ rfl _ _ 34 rfl w.heap.size 23 i0 (.agg #[.int .i64 0, .int .i64 0]) 2 16 Tryd.underlying34 hi0 hz0 hz1 hz2 rfl (by decide) _ l.length (flatT l) rfl hown1.out ⟨w1.heap.size, 0, none⟩ 1 1 (flatT [(n, d)]) rfl rfl (new_pair _ n d _) (flat_one _) (by unfold maxLen; omega) (by omega) hsz1.out ?_)
      intro v' w2 hown2 hgrow _
      have hown3 := Lib.hid (show w2.ownsRow w.heap.size 23 2 v' (l ++ [(n, d)]).length (flatT (l ++ [(n, d)])) by
        rw [flat_app, List.length_append, hl]; exact hown2)
      have hb3 := Lib.hid (hb2.out.grown hgrow hsz1.out (fun g hg => (hlt.out g hg).1))
      clear hown1 hown2 hgrow
      go_wp2_with fail
      go_roundw
      case rel => exact ⟨k + 1, l ++ [(n, d)], by omega, by omega, by go_num, by rw [List.length_append, hl]; rfl, hsm2, hown3, hb3⟩
      case measure => simp [intOf]; omega
    · have hl40 : l.length ≤ 40 := by omega
      by_cases h1 : k < zs.length
      · have h2 : ¬ k < 40 := fun x => hgo ⟨h1, x⟩
        clear hgo
        go_wp2_with fail
        go_ret
        exact ⟨_, l, rfl, hl40, hsm.out, hown.out, hb.out⟩
      · clear hgo
        go_wp2_with fail
        go_ret
        exact ⟨_, l, rfl, hl40, hsm.out, hown.out, hb.out⟩

/-- One own list and another list behind it: at a step of a region. -/
theorem step_append_times {ops : Array Oper} {o : Oper} {a : Act} {w : World} {K : Act → World → Prop} {Q : Exit → Act → World → Prop} {E : Prop} (hgd : o.guard = none) (s x : Operand)
    (ho : o.op = .call { callee := .builtin .append, args := #[s, x], argTypes := #[34, 34] })
    (base : Nat) (v : Value) (l : List (Int × Int)) (hs : a.eval s = v) (hown : w.ownsRow base 23 2 v l.length (flatT l))
    (p : Option Addr) (c n : Nat) (m : List (Int × Int)) (hn : m.length = n) (hx : a.eval x = .slice p n c) (hP : TimesP w p c m) (h1 : l.length ≤ 1000) (h2 : m.length ≤ 1000) (hbase : base ≤ w.heap.size)
    (h : ∀ v' w', w'.ownsRow base 23 2 v' (l ++ m).length (flatT (l ++ m)) → Below base w w' → K (a.put o.dst v') w') :
    if Region.wanted o (yielded ops a.tmps) = true then Oper.wp Tryd.prog o a w K Q else E := by
  subst hn
  have hw : Region.wanted o (yielded ops a.tmps) = true := by simp [Region.wanted, hgd]
  rw [if_pos hw]
  obtain ⟨i0, hi0, hz0, hz1, hz2⟩ := info_parts info_time
  have each : ∀ (ad : Addr), p = some ad → (∀ j u, (flatT m)[j]? = some u → w.cell? (ad.add j) = some u) → o.wp Tryd.prog a w K Q := by
    intro ad had hc
    subst had
    refine wp_append_own w s x 34 ho base 23 i0 (.agg #[.int .i64 0, .int .i64 0]) 2 16 Tryd.underlying34 hi0 hz0 hz1 hz2 rfl (by decide) v l.length (flatT l) hs hown ad m.length c (flatT m) hx (flat_len m) hc (flat_one m) (by unfold maxLen; omega) (by omega) hbase ?_
    intro v' w' hown' hgrow _
    refine h v' w' ?_ ((Below.refl base w).grown hgrow hbase (fun g hg => (hown.lt g hg).1))
    rw [flat_app, List.length_append]; exact hown'
  by_cases h0 : 0 < m.length
  · obtain ⟨b, off, e, ht⟩ := hP.at_ h0
    exact each _ e (flat_cells ht)
  · obtain rfl : m = [] := List.length_eq_zero_iff.1 (by omega)
    cases p with
    | none =>
      obtain rfl := hP.nil rfl
      have hr := run_append_owned_none (P := Tryd.prog) w base 34 o.type 23 i0 2 Tryd.underlying34 hi0 v l.length (flatT l) hown
      have hx' : a.eval x = .slice none 0 0 := hx
      unfold Oper.wp execOp
      simp only [ho, resolve, invoke, builtin, Sem.run_bind, Sem.run_pure, Result.andThen_ok, List.map_toArray, List.map_cons, List.map_nil, hs, hx', hr]
      exact h v w (by rw [List.append_nil]; exact hown) (Below.refl _ _)
    | some ad => exact each ad rfl (fun j u hu => by simp [flatT] at hu)

end Go.Proofs.YtjgkliiofechfaaDoor
