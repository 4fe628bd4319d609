/- The ways of a pitch, as an iterator over the ways of its place. -/
import Derived.Test.YtaldbjhalpgkeaaDoorGIter
namespace Go.Proofs.YtaldbjhalpgkeaaDoor
open Go.RowKit Go.Shelf
attribute [local go_sem] Oper.semAt_some

theorem wwaysat_any (n : Int) (w : World) : Calls Tryd.prog 50 #[.int .i64 n] w fun e w' => e = .returned (.func (.func 65) #[] #[.pointer (some ⟨w.heap.size, 0, none⟩)]) ∧ w' = w.alloc (.cells #[.int .i64 n] 3) := by
  go_enter Tryd.func50, Tryd.ntmps50
  go_wp2_with fail
  go_ret
  exact ⟨rfl, rfl⟩
theorem wwaysf_any (p : Pi3) (w : World) : Calls Tryd.prog 43 #[pv p] w fun e w' => e = .returned (.func (.func 63) #[] #[.pointer (some ⟨w.heap.size, 0, none⟩)]) ∧ w' = w.alloc (pO p) := by
  go_enter Tryd.func43, Tryd.ntmps43
  go_wp2_with fail
  go_ret
  exact ⟨rfl, rfl⟩

/-- What the iterator over a pitch's ways reads. -/
def PitC (b : Nat) (p : Pi3) (W : World) : Prop := TabG W ∧ W.cell? ⟨b, 0, none⟩ = some (.int .i64 p.1) ∧ W.cell? ⟨b, 1, none⟩ = some (.int .i64 p.2.1) ∧ W.cell? ⟨b, 2, none⟩ = some (.int .i64 p.2.2)
theorem PitC.of {W : World} {b : Nat} {p : Pi3} (T : TabG W) (h : HoldsB W b 23 #[.int .i64 p.1, .int .i64 p.2.1, .int .i64 p.2.2]) : PitC b p W :=
  ⟨T, h.cell rfl, h.cell rfl, h.cell rfl⟩

set_option maxRecDepth 100000 in
set_option maxHeartbeats 4000000 in
theorem ways_gives (p : Pi3) (hp : okP p) (b : Nat) : Gives 63 #[.pointer (some ⟨b, 0, none⟩)] (fun s : Sy => sv s) (waysL p) (PitC b p) := by
  intro m l J Jx W hC hJ hJx hY h0
  show CallsIn Fence.wide m Tryd.prog 63 #[.func (.yield l) #[] #[], .pointer (some ⟨b, 0, none⟩)] W _
  have HC := Lib.hid hC
  have HJ := Lib.hid hJ
  have HX := Lib.hid hJx
  have HY := Lib.hid hY
  have HP := Lib.hid hp
  have hnb := num_bd hp
  have NU := Lib.hid (fun W => callsIn_wide (n := m - 1) |>.2 (wnumber_any p W))
  rw [numV_ok hp] at NU
  have WA := Lib.hid (fun W => callsIn_wide (n := m - 1) |>.2 (wwaysat_any (numI p - 18) W))
  have HE := Lib.hid (ways_eq hp)
  obtain ⟨_, c0, c1, c2⟩ := hC _ _ h0
  have H0 := Lib.hid h0
  clear hC hJ hJx hY hp h0
  generalize numI p = n at *
  have x1 : IntKind.i64.wrap (n - 18) = n - 18 := IntWalk.i64_in _ (by omega)
  have G := Lib.hid (fun B => waysat_gives (n - 18) (by omega) (by omega) B)
  clear hnb
  refine callsIn_of_wp_marks Tryd.func63 rfl trivial ?_ rfl
  simp only [Tryd.ntmps63, List.size_toArray, List.length_cons, List.length_nil, Nat.reduceAdd, Nat.reduceSub, Array.replicate_succ, Array.replicate_zero, List.push_toArray, List.append_toArray, List.nil_append, List.cons_append]
  replace c0 := ka c0 (.cells #[.func (.yield l) #[] #[]] 88)
  replace c1 := ka c1 (.cells #[.func (.yield l) #[] #[]] 88)
  replace c2 := ka c2 (.cells #[.func (.yield l) #[] #[]] 88)
  have Y0 := Lib.hid (HoldsB.new W 88 #[.func (.yield l) #[] #[]])
  have J0 := Lib.hid (OwnFrom.bel HJ.out H0.out (w_alloc (w_refl W) (.cells #[.func (.yield l) #[] #[]] 88)))
  gi_wp2_with fail
  refine ⟨trivial, (fun h => by cases h), (NU.out _).mono ?_⟩
  rintro e w1 ⟨rfl, hb⟩
  replace Y0 := Lib.hid (Y0.out.later hb)
  replace J0 := Lib.hid (OwnFrom.bel HJ.out J0.out hb)
  have hs1 := hb.size
  clear c0 c1 c2 hb NU
  gi_wp2_with fail
  refine ⟨trivial, (fun h => by cases h), (WA.out _).mono ?_⟩
  rintro e w2 ⟨rfl, rfl⟩
  gi_wp2_with fail
  have BN := Lib.hid (HoldsB.new w1 3 #[.int .i64 (n - 18)])
  replace Y0 := Lib.hid (Y0.out.al (.cells #[.int .i64 (n - 18)] 3))
  replace J0 := Lib.hid (OwnFrom.bel HJ.out J0.out (w_alloc (w_refl w1) (.cells #[.int .i64 (n - 18)] 3)))
  have hs2 : (w1.alloc (.cells #[.int .i64 (n - 18)] 3)).heap.size = w1.heap.size + 1 := by simp
  have hs3 : W.heap.size + 1 ≤ w1.heap.size := by simpa using hs1
  clear hs1 WA H0
  generalize w1.alloc (.cells #[.int .i64 (n - 18)] 3) = w2 at *
  generalize w1.heap.size = k1 at *
  refine wpIn_gives (G.out k1) rfl (enters_of Tryd.func65 (by kernel_rfl) rfl) rfl
    (fun pre A => (J (pre.filter (fun s => decide (madeS s = p))) A ∧ HoldsB A W.heap.size 88 #[.func (.yield l) #[] #[]]) ∧ HoldsB A k1 3 #[.int .i64 (n - 18)])
    Jx ?hC ?hI ?hIx ?h0
    (fun x a' A => ∃ Bx, HoldsB A Bx 25 #[.int .i64 x.1, .int .i64 x.2] ∧ a' = { tmps := #[.func (.yield l) #[] #[], .pointer (some ⟨b, 0, none⟩), .pointer (some ⟨W.heap.size, 0, none⟩), .int .i64 n, .int .i64 0, .pointer (some ⟨Bx, 0, none⟩), undef, undef, .tuple #[.int .i64 n, .int .i64 0], pv p, .tuple #[.int .i64 n, .int .i64 0], .int .i64 n, .int .i64 0, .int .i64 n, .int .i64 (n - 18), .func (.func 65) #[] #[.pointer (some ⟨k1, 0, none⟩)], sv x, undef, undef, undef, undef, undef, undef, undef, undef, undef, undef, undef, undef, undef, undef], defers := [] })
    ?hAx ?assign ?body ?done ?stop
  case hC =>
    rintro pre A ⟨⟨hj, _⟩, hn⟩
    exact ⟨(HC.out _ _ hj).1, hn.cell rfl⟩
  case hI =>
    exact OwnFrom.and (OwnFrom.and (fun s A A' row hs hg hr => HJ.out _ A A' row hs hg (fun r e => ⟨by have := (hr r e).1; omega, (hr r e).2⟩)) (Own.from (holds_own _ _ (fun _ => _)) _)) (Own.from (holds_own _ _ (fun _ => _)) _)
  case hIx => exact OwnFrom.up HX.out (by omega)
  case h0 => exact ⟨⟨J0.out, Y0.out⟩, BN.out⟩
  case hAx =>
    rintro x a' s A A' row ⟨Bx, h, e⟩ hg hr
    exact ⟨Bx, holds_own Bx _ (fun (_ : Unit) => _) () A A' row h hg (fun r e => (hr r e).2), e⟩
  case assign =>
    rintro m2 l2 pre x A K hle ⟨⟨hj, hy⟩, hn⟩ hK
    gi_wp2_with fail
    exact hK _ _ (Mid.bel _ (w_alloc (w_refl A) _)) ⟨⟨OwnFrom.bel HJ.out hj (w_alloc (w_refl A) _), hy.al _⟩, hn.al _⟩ ⟨A.heap.size, HoldsB.new A _ _, rfl⟩
  case body =>
    rintro m2 l2 pre x post a' A hx hle ⟨⟨hj, hy⟩, hn⟩ ⟨Bx, hB, rfl⟩
    have hok := waysAt_ok (n := n - 18) (s := x) (by rw [hx]; simp)
    have PI := Lib.hid (fun W T => CallsIn.inRound l2 (callsIn_wide (n := m2 - 1) |>.2 (wpitch_any x W T)))
    unfold PitPost pitV at PI
    rw [if_pos hok] at PI
    have T := Lib.hid (HC.out _ _ hj).1
    have fe : (pre ++ [x]).filter (fun s => decide (madeS s = p)) = pre.filter (fun s => decide (madeS s = p)) ++ if madeS x = p then [x] else [] := by
      rw [List.filter_append]
      by_cases e : madeS x = p <;> simp [e]
    have FE := Lib.hid fe
    have hxf := HE.out
    rw [hx, List.filter_append, List.filter_cons] at hxf
    obtain ⟨x1', x2'⟩ := x
    have d0 := hB.cell (j := 0) rfl
    have d1 := hB.cell (j := 1) rfl
    simp only at d0 d1
    have HB := Lib.hid hB
    have HYB := Lib.hid hy
    have HNB := Lib.hid hn
    have HJA := Lib.hid hj
    have HL := Lib.hid hle
    clear hB hy hn hj hx fe hle hok HE
    by_cases e : madeS (x1', x2') = p
    · rw [if_pos (decide_eq_true e)] at hxf
      have HXF := Lib.hid hxf.symm
      replace FE := Lib.hid (FE.out.trans (by rw [if_pos e]))
      rw [e] at PI
      clear e hxf
      gi_wp2_with fail
      refine ⟨trivial, (fun h => by cases h), (PI.out _ T.out).mono ?_⟩
      rintro e w3 ⟨rfl, hb⟩
      have hB4 := Lib.hid (w_alloc hb (pO p))
      obtain ⟨_, q0, q1, q2⟩ := HC.out _ _ (OwnFrom.bel HJ.out HJA.out hB4.out)
      have r0 := (HYB.out.later hB4.out).cell (j := 0) rfl
      have s0 := (HB.out.later hB4.out).cell (j := 0) rfl
      have s1 := (HB.out.later hB4.out).cell (j := 1) rfl
      obtain ⟨fn, tmps, assign, body, hy, hR⟩ := HY.out (m2 - 1) _ _ _ _ HXF.out (OwnFrom.bel HJ.out HJA.out hB4.out)
      have HR := Lib.hid hR
      clear hR hb d0 d1
      gi_wp2_with fail
      refine ⟨(fun h => by cases h), HR.out.mono ?_⟩
      rintro e w5 (⟨rfl, hj2, hm⟩ | ⟨rfl, hx2, hm⟩)
      · have HJ2 := Lib.hid hj2
        have HM := Lib.hid hm
        clear hj2 hm hy q0 q1 q2 r0 s0 s1
        gi_wp2_with fail
        exact ⟨(Mid.bel _ hB4.out).trans (HM.out.mono (by have := HL.out; omega)), ⟨by rw [FE.out]; exact HJ2.out, HM.out.at_ (Nat.le_refl _) (HYB.out.later hB4.out) rfl⟩, HM.out.at_ (by omega) (HNB.out.later hB4.out) rfl⟩
      · have HJ2 := Lib.hid hx2
        have HM := Lib.hid hm
        clear hx2 hm hy q0 q1 q2 r0 s0 s1
        gi_wp2_with fail
        exact ⟨(Mid.bel _ hB4.out).trans (HM.out.mono (by have := HL.out; omega)), HJ2.out⟩
    · replace FE := Lib.hid (FE.out.trans (by rw [if_neg e, List.append_nil]))
      have hd := ne3 e
      clear e hxf
      generalize madeS (x1', x2') = r at *
      obtain ⟨r1, r2, r3⟩ := r
      obtain ⟨p1, p2, p3⟩ := p
      simp only at hd d0 d1
      rcases hd with ⟨e1, e2⟩ | ⟨e0, e1, e2⟩ | ⟨e0, e3, e1, e2⟩
      · gi_wp2_with fail
        refine ⟨trivial, (fun h => by cases h), (PI.out _ T.out).mono ?_⟩
        rintro e w3 ⟨rfl, hb⟩
        have hB4 := Lib.hid (w_alloc hb (pO (r1, r2, r3)))
        obtain ⟨_, q0, q1, q2⟩ := HC.out _ _ (OwnFrom.bel HJ.out HJA.out hB4.out)
        clear hb d0 d1
        gi_wp2_with fail
        refine ⟨(fun _ h => (by cases h)), ?_⟩
        gi_wp2_with fail
        exact ⟨Mid.bel _ hB4.out, ⟨by rw [FE.out]; exact OwnFrom.bel HJ.out HJA.out hB4.out, HYB.out.later hB4.out⟩, HNB.out.later hB4.out⟩
      · subst e0
        gi_wp2_with fail
        refine ⟨trivial, (fun h => by cases h), (PI.out _ T.out).mono ?_⟩
        rintro e w3 ⟨rfl, hb⟩
        have hB4 := Lib.hid (w_alloc hb (pO (r1, r2, r3)))
        obtain ⟨_, q0, q1, q2⟩ := HC.out _ _ (OwnFrom.bel HJ.out HJA.out hB4.out)
        clear hb d0 d1
        gi_wp2_with fail
        refine ⟨(fun _ h => (by cases h)), ?_⟩
        gi_wp2_with fail
        exact ⟨Mid.bel _ hB4.out, ⟨by rw [FE.out]; exact OwnFrom.bel HJ.out HJA.out hB4.out, HYB.out.later hB4.out⟩, HNB.out.later hB4.out⟩
      · subst e0
        subst e3
        gi_wp2_with fail
        refine ⟨trivial, (fun h => by cases h), (PI.out _ T.out).mono ?_⟩
        rintro e w3 ⟨rfl, hb⟩
        have hB4 := Lib.hid (w_alloc hb (pO (r1, r2, r3)))
        obtain ⟨_, q0, q1, q2⟩ := HC.out _ _ (OwnFrom.bel HJ.out HJA.out hB4.out)
        clear hb d0 d1
        gi_wp2_with fail
        refine ⟨(fun _ h => (by cases h)), ?_⟩
        gi_wp2_with fail
        exact ⟨Mid.bel _ hB4.out, ⟨by rw [FE.out]; exact OwnFrom.bel HJ.out HJA.out hB4.out, HYB.out.later hB4.out⟩, HNB.out.later hB4.out⟩
  case done =>
    rintro D A hD ⟨⟨hj, _⟩, _⟩ hd
    gi_wp2_with fail
    refine ⟨by simp, .inl ⟨_, _, rfl, run_takeDeferred hd, ?_⟩⟩
    exact ⟨_, results_none rfl _ _ _, ⟨_, rfl⟩, .inl (by rw [← HE.out]; exact OwnFrom.putObj HJ.out _ hj (by omega) hd rfl)⟩
  case stop =>
    rintro D A hD hx hd
    gi_wp2_with fail
    refine ⟨by simp, .inl ⟨_, _, rfl, run_takeDeferred hd, ?_⟩⟩
    exact ⟨_, results_none rfl _ _ _, ⟨_, rfl⟩, .inr (OwnFrom.putObj (s := ()) HX.out _ hx (by omega) hd rfl)⟩

end Go.Proofs.YtaldbjhalpgkeaaDoor
