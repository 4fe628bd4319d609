/- The program's isIn and isSmooth. -/
import Derived.Test.YtaldbjhalpgkeaaDoorGWaysB
namespace Go.Proofs.YtaldbjhalpgkeaaDoor
open Go.RowKit Go.Shelf
attribute [local go_sem] Oper.semAt_some

/-- No way of the list, and some way of it, is in the hexachord. -/
def NoneH (l : List Sy) (h : Int) : Prop := ∀ t ∈ l, t.1 ≠ h
def SomeH (l : List Sy) (h : Int) : Prop := ∃ t ∈ l, t.1 = h
/-- What stands in isIn's loop: the pitch, the hexachord, the result's cell. -/
def InI (w : World) (kb : Nat) (p : Pi3) (h : Int) (r : Bool) (A : World) : Prop :=
  ((Below w.heap.size w A ∧ HoldsB A kb 23 #[.int .i64 p.1, .int .i64 p.2.1, .int .i64 p.2.2]) ∧ HoldsB A (w.heap.size + 1) 3 #[.int .i64 h]) ∧ HoldsB A (w.heap.size + 1 + 1) 4 #[.bool r]
theorem InI.later {w : World} {kb : Nat} {p : Pi3} {h : Int} {r : Bool} {A A' : World} (H : InI w kb p h r A) (k : Below A.heap.size A A') : InI w kb p h r A' :=
  ⟨⟨⟨w_below H.1.1.1 k, H.1.1.2.later k⟩, H.1.2.later k⟩, H.2.later k⟩
theorem inI_from {β : Type} {w : World} {B : Nat} (hB : w.heap.size ≤ B) (kb : Nat) (p : Pi3) (h : Int) (r : Bool) : OwnFrom B (fun (_ : β) A => InI w kb p h r A) :=
  OwnFrom.and (OwnFrom.and (OwnFrom.and (ownFrom_below (Nat.le_refl _) hB) (Own.from (holds_own _ _ (fun _ => _)) _)) (Own.from (holds_own _ _ (fun _ => _)) _)) (Own.from (holds_own _ _ (fun _ => _)) _)

set_option maxRecDepth 100000 in
set_option maxHeartbeats 4000000 in
theorem wisin_any (s : Sy) (hs : okS s) (h : Int) (hh : 1 ≤ h ∧ h ≤ 7) (w : World) (T : TabG w) : Calls Tryd.prog 73 #[sv s, .int .i64 h] w fun e w' => e = .returned (.bool (inH (madeS s) h)) ∧ Below w.heap.size w w' := by
  refine (callsIn_wide (n := 1)).1 ?_
  have hp := made_okP hs
  have PI := Lib.hid (fun W (b : Below w.heap.size w W) => callsIn_wide (n := 0) |>.2 (wpitch_any s W (T.later b)))
  unfold PitPost pitV at PI
  rw [if_pos hs] at PI
  have HT := Lib.hid (fun W (b : Below w.heap.size w W) => T.later b)
  have HI := Lib.hid (inH_iff (p := madeS s) hh)
  clear hs hh T
  generalize madeS s = p at *
  have WF := Lib.hid (fun W => callsIn_wide (n := 0) |>.2 (wwaysf_any p W))
  have G := Lib.hid (fun b => ways_gives p hp b)
  clear hp
  obtain ⟨s1, s2⟩ := s
  have K0 := Lib.hid (show HoldsB (((w.alloc (sO (s1, s2))).alloc (.cells #[.int .i64 h] 3)).alloc (.cells #[.bool false] 4)) (w.heap.size + 1) 3 #[.int .i64 h] by
    have := (HoldsB.new (w.alloc (sO (s1, s2))) 3 #[.int .i64 h]).al (.cells #[.bool false] 4)
    rwa [World.size_alloc] at this)
  have R0 := Lib.hid (show HoldsB (((w.alloc (sO (s1, s2))).alloc (.cells #[.int .i64 h] 3)).alloc (.cells #[.bool false] 4)) (w.heap.size + 1 + 1) 4 #[.bool false] by
    have := HoldsB.new ((w.alloc (sO (s1, s2))).alloc (.cells #[.int .i64 h] 3)) 4 #[.bool false]
    rwa [World.size_alloc, World.size_alloc] at this)
  have B0 := Lib.hid (w_alloc (w_alloc (w_alloc (w_refl w) (sO (s1, s2))) (.cells #[.int .i64 h] 3)) (.cells #[.bool false] 4))
  refine callsIn_of_wp_marks Tryd.func73 rfl trivial ?_ rfl
  simp only [Tryd.ntmps73, List.size_toArray, List.length_cons, List.length_nil, Nat.reduceAdd, Nat.reduceSub, Array.replicate_succ, Array.replicate_zero, List.push_toArray, List.append_toArray, List.nil_append, List.cons_append]
  gi_wp2_with fail
  refine ⟨trivial, (PI.out _ B0.out).mono ?_⟩
  rintro e w1 ⟨rfl, hb⟩
  have B1 := Lib.hid (w_alloc (w_below B0.out hb) (pO p))
  replace K0 := Lib.hid ((K0.out.later hb).al (pO p))
  replace R0 := Lib.hid ((R0.out.later hb).al (pO p))
  clear hb PI
  gi_wp2_with fail
  refine ⟨trivial, (WF.out _).mono ?_⟩
  rintro e w2 ⟨rfl, rfl⟩
  gi_wp2_with fail
  have KB := Lib.hid (show HoldsB ((w1.alloc (pO p)).alloc (pO p)) (w1.heap.size + 1) 23 #[.int .i64 p.1, .int .i64 p.2.1, .int .i64 p.2.2] by
    have := HoldsB.new (w1.alloc (pO p)) 23 #[.int .i64 p.1, .int .i64 p.2.1, .int .i64 p.2.2]
    rwa [World.size_alloc] at this)
  have I0 := Lib.hid (show InI w (w1.heap.size + 1) p h false ((w1.alloc (pO p)).alloc (pO p)) from ⟨⟨⟨w_alloc B1.out (pO p), KB.out⟩, K0.out.al (pO p)⟩, R0.out.al (pO p)⟩)
  have hsz : w.heap.size + 3 ≤ ((w1.alloc (pO p)).alloc (pO p)).heap.size := by
    have := R0.out.lt
    simp only [World.size_alloc] at this ⊢
    omega
  clear KB K0 R0 B1 B0 WF
  generalize (w1.alloc (pO p)).alloc (pO p) = w2 at *
  generalize w1.heap.size = k1 at *
  refine wpIn_gives (G.out (k1 + 1)) rfl (enters_of Tryd.func63 (by kernel_rfl) rfl) rfl
    (fun pre A => InI w (k1 + 1) p h false A ∧ NoneH pre h)
    (fun A => InI w (k1 + 1) p h true A ∧ SomeH (waysL p) h) ?hC ?hI ?hIx ?h0
    (fun x a' A => ∃ Bx, HoldsB A Bx 25 #[.int .i64 x.1, .int .i64 x.2] ∧ a' = { tmps := #[sv (s1, s2), .int .i64 h, .pointer (some ⟨w.heap.size, 0, none⟩), .pointer (some ⟨w.heap.size + 1, 0, none⟩), .pointer (some ⟨w.heap.size + 1 + 1, 0, none⟩), .pointer (some ⟨k1, 0, none⟩), .int .i64 0, .pointer (some ⟨Bx, 0, none⟩), .tuple #[pv p, .int .i64 0], .agg #[.int .i64 s1, .int .i64 s2], .tuple #[pv p, .int .i64 0], pv p, .int .i64 0, .agg #[.int .i64 p.1, .int .i64 p.2.1, .int .i64 p.2.2], .func (.func 63) #[] #[.pointer (some ⟨k1 + 1, 0, none⟩)], sv x, undef, undef, undef, undef], defers := [] })
    ?hAx ?assign ?body ?done ?stop
  case hC =>
    rintro pre A ⟨hi, _⟩
    exact PitC.of (HT.out _ hi.1.1.1) hi.1.1.2
  case hI => exact OwnFrom.and (inI_from (by omega) _ _ _ _) (Own.from (fun _ _ _ _ h _ _ => h) _)
  case hIx => exact OwnFrom.and (inI_from (by omega) _ _ _ _) (Own.from (fun _ _ _ _ h _ _ => h) _)
  case h0 => exact ⟨I0.out, fun t ht => by cases ht⟩
  case hAx =>
    rintro x a' s A A' row ⟨Bx, h, e⟩ hg hr
    exact ⟨Bx, holds_own Bx _ (fun (_ : Unit) => _) () A A' row h hg (fun r e => (hr r e).2), e⟩
  case assign =>
    rintro m2 l2 pre x A K hle ⟨h1, h2⟩ hK
    gi_wp2_with fail
    exact hK _ _ (Mid.bel _ (w_alloc (w_refl A) _)) ⟨h1.later (w_alloc (w_refl A) _), h2⟩ ⟨A.heap.size, HoldsB.new A _ _, rfl⟩
  case body =>
    rintro m2 l2 pre x post a' A hx hle ⟨h1, h2⟩ ⟨Bx, hB, rfl⟩
    obtain ⟨x1, x2⟩ := x
    have hm : (x1, x2) ∈ waysL p := by rw [hx]; simp
    have HM := Lib.hid hm
    have d0 := hB.cell (j := 0) rfl
    have c0 := h1.1.2.cell (j := 0) rfl
    have r0 := h1.2.cell (j := 0) rfl
    have f0 := h1.2.frozen 0
    have H1 := Lib.hid h1
    have H2 := Lib.hid h2
    have HL := Lib.hid hle
    clear h1 h2 hx hB hle hm
    by_cases e : x1 = h
    · subst e
      gi_wp2_with fail
      have hl := HL.out
      refine ⟨Mid.set _ _ (by omega) _ _, ⟨⟨⟨H1.out.1.1.1.setCell (p := ⟨w.heap.size + 1 + 1, 0, none⟩) (by show _ ≤ _ + 1 + 1; omega) _, H1.out.1.1.2.other ?_ _ _⟩, H1.out.1.2.other (by omega) _ _⟩, H1.out.2.set 0 _⟩, ⟨_, HM.out, rfl⟩⟩
      intro e
      have a := H1.out.2
      have b := H1.out.1.1.2
      rw [e] at b
      have := a.symm.trans b
      cases this
    · have e2 : (x1 == h) = false := by simp [e]
      gi_wp2_with fail
      refine ⟨Mid.refl _ _, H1.out, fun t ht => ?_⟩
      rcases List.mem_append.1 ht with ht | ht
      · exact H2.out t ht
      · rw [List.mem_singleton] at ht; subst ht; exact e
  case done =>
    rintro D A hD ⟨h1, h2⟩ hd
    have r0 := h1.2.cell (j := 0) rfl
    have f0 := h1.2.frozen 0
    have H1 := Lib.hid h1
    have H2 := Lib.hid h2
    have HD := Lib.hid hD
    clear h1 h2 hD
    gi_wp2_with fail
    have hs := H1.out.2.set 0 (.bool false)
    have hd2 := (Below.heap_setCell A ⟨w.heap.size + 1 + 1, 0, none⟩ (.bool false) D (by have := HD.out; show D ≠ _ + 1 + 1; omega)).trans hd
    refine ⟨by simp, .inl ⟨_, _, rfl, run_takeDeferred hd2, ?_⟩⟩
    have hc := holds_own (w.heap.size + 1 + 1) _ (fun (_ : Unit) => _) () _ _ _ hs (grownBy_putObj' _ D (.deferred none)) (fun r e => by cases e; exact ⟨_, hd2, rfl⟩)
    have hc0 := hc.cell (j := 0) (v := .bool false) rfl
    refine ⟨.bool false, by simp [results, Tryd.results73, go_sem, hc0], ?_, ?_⟩
    · have : inH p h = false := by
        cases hq : inH p h with
        | false => rfl
        | true =>
          obtain ⟨t, ht, e⟩ := HI.out.1 hq
          exact absurd e (H2.out t ht)
      rw [this]
    · exact (H1.out.1.1.1.setCell (p := ⟨w.heap.size + 1 + 1, 0, none⟩) (by show _ ≤ _ + 1 + 1; omega) _).trans (belowK_b (w := w) (Nat.le_refl _) _ D _ _ (by have := HD.out; omega) hd2 rfl rfl)
  case stop =>
    rintro D A hD ⟨h1, h2⟩ hd
    have H1 := Lib.hid h1
    have H2 := Lib.hid h2
    have HD := Lib.hid hD
    clear h1 h2 hD
    gi_wp2_with fail
    refine ⟨by simp, .inl ⟨_, _, rfl, run_takeDeferred hd, ?_⟩⟩
    have hc := holds_own (w.heap.size + 1 + 1) _ (fun (_ : Unit) => _) () _ _ _ H1.out.2 (grownBy_putObj' _ D (.deferred none)) (fun r e => by cases e; exact ⟨_, hd, rfl⟩)
    have hc0 := hc.cell (j := 0) (v := .bool true) rfl
    refine ⟨.bool true, by simp [results, Tryd.results73, go_sem, hc0], ?_, ?_⟩
    · rw [HI.out.2 H2.out]
    · exact H1.out.1.1.1.trans (belowK_b (w := w) (Nat.le_refl _) _ D _ _ (by have := HD.out; omega) hd rfl rfl)

set_option maxHeartbeats 2000000 in
theorem wissmooth_any (a b : Sy) (ha : okS a) (hb : okS b) (w : World) (T : TabG w) : Calls Tryd.prog 59 #[sv a, sv b] w fun e w' => e = .returned (.bool (smoothB a b)) ∧ Below w.heap.size w w' := by
  have I1 := Lib.hid (fun W (k : Below w.heap.size w W) => wisin_any b hb a.1 ha.1 W (T.later k))
  have I2 := Lib.hid (fun W (k : Below w.heap.size w W) => wisin_any a ha b.1 hb.1 W (T.later k))
  clear T ha hb
  unfold smoothB
  generalize inH (madeS b) a.1 = r at *
  generalize inH (madeS a) b.1 = q at *
  have B0 := Lib.hid (w_alloc (w_alloc (w_refl w) (sO a)) (sO b))
  have FX := Lib.hid (show Cell2 ((w.alloc (sO a)).alloc (sO b)) w.heap.size a ∧ Cell2 ((w.alloc (sO a)).alloc (sO b)) (w.heap.size + 1) b from ⟨boxesC w a (sO b) _, boxesD w a b _⟩)
  cases r with
  | true =>
    go_enter Tryd.func59, Tryd.ntmps59
    go_wp2_with fail
    refine (I1.out _ B0.out).mono ?_
    rintro e w1 ⟨rfl, hb⟩
    have B1 := Lib.hid (w_below B0.out hb)
    clear hb I1 B0
    go_wp2_with fail
    go_ret
    exact ⟨rfl, B1.out⟩
  | false =>
    go_enter Tryd.func59, Tryd.ntmps59
    go_wp2_with fail
    refine (I1.out _ B0.out).mono ?_
    rintro e w1 ⟨rfl, hb⟩
    have B1 := Lib.hid (w_below B0.out hb)
    obtain ⟨_, c0, c1, _, _⟩ := FX.out.1.later hb
    obtain ⟨_, d0, d1, _, _⟩ := FX.out.2.later hb
    clear hb I1 B0 FX
    go_wp2_with fail
    refine (I2.out _ B1.out).mono ?_
    rintro e w2 ⟨rfl, hb⟩
    have B2 := Lib.hid (w_below B1.out hb)
    clear hb I2 B1 c0 c1 d0 d1
    go_wp2_with fail
    go_ret
    exact ⟨rfl, B2.out⟩

end Go.Proofs.YtaldbjhalpgkeaaDoor
