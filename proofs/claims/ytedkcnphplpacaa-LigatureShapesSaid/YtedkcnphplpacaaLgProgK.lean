/- The program's can and Can, and Count with its errors. -/
import Derived.Test.YtedkcnphplpacaaLgProgJ
namespace Go.Proofs.Ytedkcnphplpacaa
open Go.RowKit Go.Shelf
attribute [local go_sem] Oper.semAt_some

set_option maxRecDepth 100000 in
set_option maxHeartbeats 4000000 in
theorem pcan0_any (ps vs : List Int) (n : Nat) (hn : ps.length = n) (hn2 : 2 ≤ n) (hn12 : n ≤ 12) (p q : Option Addr) (cp cq : Nat) (w : World) (hp : SlP w 1 p n cp (ints ps)) (hq : SlP w 1 q n cq (ints vs)) :
    Calls Try.prog 54 #[.slice p n cp, .slice q n cq] w fun e w' => e = .returned (.bool (decide (0 < (pAll ps vs n []).length))) ∧ Below w.heap.size w w' := by
  refine (callsIn_wide (n := 1)).1 ?_
  have f1 := hp.fit
  have f2 := hp.max
  have SH := Lib.hid (fun m W => callsIn_wide (n := m) |>.2 (pshapes_any (.slice p n cp) (.slice q n cq) n n cp cq p q rfl rfl W))
  have GV := Lib.hid (fun bp bv => shapes_gives n bp bv hn2 hn12 ps vs hn p cp q cq)
  have HP := Lib.hid hp
  have HQ := Lib.hid hq
  clear hp hq hn
  generalize pAll ps vs n [] = xs at *
  have DT := Lib.hid (show 0 < xs.length → decide (0 < xs.length) = true from fun h => decide_eq_true h)
  have DF := Lib.hid (show [] = xs → decide (0 < xs.length) = false from fun h => by subst h; rfl)
  generalize decide (0 < xs.length) = DB at *
  refine callsIn_of_wp_marks Try.func54 rfl trivial ?_ rfl
  simp only [Try.ntmps54, List.size_toArray, List.length_cons, List.length_nil, Nat.reduceAdd, Nat.reduceSub, Array.replicate_succ, Array.replicate_zero, List.push_toArray, List.append_toArray, List.nil_append, List.cons_append]
  gi_wp2_with fail
  refine ⟨trivial, (SH.out _ _).mono ?_⟩
  rintro e w3 ⟨rfl, rfl⟩
  clear SH
  gi_wp2_with fail
  have HK := Lib.hid (show HoldsB (((w.alloc (.cells #[.bool false] 4)).alloc (.cells #[.slice p n cp] 22)).alloc (.cells #[.slice q n cq] 22)) w.heap.size 4 #[.bool false] from ((HoldsB.new w _ _).al _).al _)
  have HB := Lib.hid (show BxL w (w.heap.size + 1) (w.heap.size + 1 + 1) (.slice p n cp) (.slice q n cq) (((w.alloc (.cells #[.bool false] 4)).alloc (.cells #[.slice p n cp] 22)).alloc (.cells #[.slice q n cq] 22)) from by
    have h1 := (HoldsB.new (w.alloc (.cells #[.bool false] 4)) 22 #[.slice p n cp]).al (.cells #[.slice q n cq] 22)
    have h2 := HoldsB.new ((w.alloc (.cells #[.bool false] 4)).alloc (.cells #[.slice p n cp] 22)) 22 #[.slice q n cq]
    simp only [World.size_alloc] at h1 h2
    exact ⟨w_alloc (w_alloc (w_alloc (w_refl w) _) _) _, h1, h2⟩)
  have hsz : (((w.alloc (.cells #[.bool false] 4)).alloc (.cells #[.slice p n cp] 22)).alloc (.cells #[.slice q n cq] 22)).heap.size = w.heap.size + 3 := by simp only [World.size_alloc]
  generalize ((w.alloc (.cells #[.bool false] 4)).alloc (.cells #[.slice p n cp] 22)).alloc (.cells #[.slice q n cq] 22) = w3 at *
  refine wpIn_givesS (GV.out _ _) rfl (enters_of Try.func62 (by kernel_rfl) rfl) rfl
    (fun pre A => pre = [] ∧ HoldsB A w.heap.size 4 #[.bool false] ∧ BxL w (w.heap.size + 1) (w.heap.size + 1 + 1) (.slice p n cp) (.slice q n cq) A)
    (fun A => 0 < xs.length ∧ HoldsB A w.heap.size 4 #[.bool true] ∧ BxL w (w.heap.size + 1) (w.heap.size + 1 + 1) (.slice p n cp) (.slice q n cq) A) ?hC ?hI ?hIo ?hIxo ?hIx ?h0
    (fun v _ a' _ => a' = { tmps := #[.slice p n cp, .slice q n cq, undef, undef, .pointer (some ⟨w.heap.size, 0, none⟩), .slice p n cp, .slice q n cq, (.func (.func 62) #[] #[.pointer (some ⟨w.heap.size + 1, 0, none⟩), .pointer (some ⟨w.heap.size + 1 + 1, 0, none⟩)]), v], defers := [] })
    ?hAx ?assign ?body ?done ?stop
  case hC =>
    rintro pre A ⟨_, _, h2⟩
    exact h2.plc HP.out HQ.out
  case hI =>
    rintro pre A A' row ⟨h0, h1, h2⟩ hg hr
    exact ⟨h0, holds_own _ _ (fun (_ : Unit) => _) () A A' row h1 hg (fun r e => (hr r e).2), BxL.from_ (by omega) () A A' row h2 hg hr⟩
  case hIo =>
    rintro pre A B ⟨h0, h1, h2⟩ o
    exact ⟨h0, o.keepB (.inl (by omega)) h1, h2.off (by omega) (by omega) (by omega) o⟩
  case hIxo =>
    rintro A B ⟨h0, h1, h2⟩ o
    exact ⟨h0, o.keepB (.inl (by omega)) h1, h2.off (by omega) (by omega) (by omega) o⟩
  case hIx =>
    rintro pre A A' row ⟨h0, h1, h2⟩ hg hr
    exact ⟨h0, holds_own _ _ (fun (_ : Unit) => _) () A A' row h1 hg (fun r e => (hr r e).2), BxL.from_ (by omega) () A A' row h2 hg hr⟩
  case h0 => exact ⟨rfl, HK.out, HB.out⟩
  case hAx =>
    rintro v x a' s A A' row e hg hr
    exact e
  case assign =>
    rintro m2 l2 pre v x A K hle hs ⟨h0, h1, h2⟩ hK
    gi_wp2_with fail
    exact hK _ _ (Mid.refl _ _) ⟨h0, h1, h2⟩ (by kernel_rfl)
  case body =>
    rintro m2 l2 pre v x post a' A hx hle hs ⟨h0, h1, h2⟩ rfl
    have hpl : 0 < xs.length := by rw [hx, List.length_append, List.length_cons]; omega
    have e1 := h1.cell (j := 0) rfl
    have ef := h1.frozen 0
    have H1 := Lib.hid (h1.set 0 (.bool true))
    have H2 := Lib.hid (h2.put (Nat.le_refl _) (by omega) (by omega) 0 (.bool true))
    have HM := Lib.hid (Mid.set w3.heap.size A (c := w.heap.size) (by omega) 0 (.bool true))
    have HPL := Lib.hid hpl
    clear h1 h2 hx hpl hs h0
    gi_wp2_with fail
    exact ⟨HM.out, HPL.out, H1.out, H2.out⟩
  case done =>
    rintro D A hD ⟨h0, h1, h2⟩ hd
    have hdec := Lib.hid (DF.out h0.symm)
    have e1 := h1.cell (j := 0) rfl
    have ef := h1.frozen 0
    have H1 := Lib.hid (h1.set 0 (.bool false))
    have hB5 := Lib.hid (h2.put (Nat.le_refl _) (by omega) (by omega) 0 (.bool false)).bel
    have hdd := Lib.hid (show (A.setCell ⟨w.heap.size, 0, none⟩ (.bool false)).heap[D]? = some (.deferred (some [])) from (Below.heap_setCell _ _ _ _ (by simp only; omega)).trans hd)
    clear h1 h2 hd h0
    gi_wp2_with fail
    generalize A.setCell ⟨w.heap.size, 0, none⟩ (.bool false) = A2 at *
    have d1 : ∀ o, (A2.putObj D o).cell? ⟨w.heap.size, 0, none⟩ = some (.bool false) := fun o => HoldsB.cell (t := 4) (cs := #[.bool false]) ((World.putObj_heap_other (by omega)).trans H1.out) rfl
    refine ⟨by simp, .inl ⟨_, _, rfl, run_takeDeferred hdd.out, ?_⟩⟩
    refine ⟨.bool false, (by simp [results, Try.results54, go_sem, d1]), by rw [hdec.out], ?_⟩
    exact hB5.out.trans (belowK_b (w := w) (Nat.le_refl _) A2 D _ _ (by omega) hdd.out rfl rfl)
  case stop =>
    rintro D A hD ⟨h0, h1, h2⟩ hd
    have hdec := Lib.hid (DT.out h0)
    have hdd := Lib.hid hd
    have H1 := Lib.hid h1
    have hB5 := Lib.hid h2.bel
    clear h1 h2 hd h0
    gi_wp2_with fail
    have d1 : ∀ o, (A.putObj D o).cell? ⟨w.heap.size, 0, none⟩ = some (.bool true) := fun o => HoldsB.cell (t := 4) (cs := #[.bool true]) ((World.putObj_heap_other (by omega)).trans H1.out) rfl
    refine ⟨by simp, .inl ⟨_, _, rfl, run_takeDeferred hdd.out, ?_⟩⟩
    refine ⟨.bool true, (by simp [results, Try.results54, go_sem, d1]), by rw [hdec.out], ?_⟩
    exact hB5.out.trans (belowK_b (w := w) (Nat.le_refl _) A D _ _ (by omega) hdd.out rfl rfl)

theorem ask_len {ps vs : List Int} (h : askE ps vs = 0) : (2 ≤ ps.length ∧ ps.length ≤ 12) ∧ vs.length = ps.length := by
  by_cases k : 2 ≤ ps.length ∧ ps.length ≤ 12
  · by_cases k2 : vs.length = ps.length
    · exact ⟨k, k2⟩
    · rw [ask_form k k2] at h; cases h
  · rw [ask_full k] at h; cases h
/-- How many shapes the iterator gives. -/
def cntP (ps vs : List Int) : Int := if askE ps vs = 0 then ((pAll ps vs ps.length []).length : Int) else 0
theorem pcount_any (ps vs : List Int) (p q : Option Addr) (cp cq : Nat) (w : World) (hp : SlP w 1 p ps.length cp (ints ps)) (hq : SlP w 1 q vs.length cq (ints vs)) :
    Calls Try.prog 28 #[.slice p ps.length cp, .slice q vs.length cq] w fun e w' => e = .returned (.tuple #[.int .i64 (cntP ps vs), .int .i64 (askE ps vs)]) ∧ Below w.heap.size w w' := by
  by_cases h : askE ps vs = 0
  · obtain ⟨hl, hv⟩ := ask_len h
    have hq' := hq
    rw [hv] at hq' ⊢
    have := pcnt_any ps vs ps.length rfl hl.1 hl.2 p q cp cq w hp hq' h hv
    rw [show cntP ps vs = ((pAll ps vs ps.length []).length : Int) from if_pos h, h]
    exact this
  · rw [show cntP ps vs = 0 from if_neg h]
    have CK := Lib.hid (pask_any ps vs p q cp cq w hp hq)
    have e1 : (askE ps vs == 0) = false := beq_eq_false_iff_ne.2 h
    have e2 : (askE ps vs != 0) = true := by simp [h]
    clear hp hq h
    generalize askE ps vs = E at *
    go_enter Try.func28, Try.ntmps28
    go_wp2_with fail
    refine CK.out.mono ?_
    rintro e w1 ⟨rfl, rfl⟩
    clear CK
    go_wp2_with fail
    go_ret2
    exact ⟨rfl, w_refl _⟩
theorem pcan_any (ps vs : List Int) (p q : Option Addr) (cp cq : Nat) (w : World) (hp : SlP w 1 p ps.length cp (ints ps)) (hq : SlP w 1 q vs.length cq (ints vs)) :
    Calls Try.prog 26 #[.slice p ps.length cp, .slice q vs.length cq] w fun e w' => e = .returned (.tuple #[.bool (decide (0 < cntP ps vs)), .int .i64 (askE ps vs)]) ∧ Below w.heap.size w w' := by
  have CK := Lib.hid (pask_any ps vs p q cp cq w hp hq)
  by_cases h : askE ps vs = 0
  · obtain ⟨hl, hv⟩ := ask_len h
    have hq' := hq
    rw [hv] at hq' ⊢
    have CA := Lib.hid (pcan0_any ps vs ps.length rfl hl.1 hl.2 p q cp cq w hp hq')
    rw [show cntP ps vs = ((pAll ps vs ps.length []).length : Int) from if_pos h, h]
    rw [hv, h] at CK
    have e3 : decide ((0 : Int) < ((pAll ps vs ps.length []).length : Int)) = decide (0 < (pAll ps vs ps.length []).length) := by
      by_cases g : 0 < (pAll ps vs ps.length []).length
      · rw [decide_eq_true g, decide_eq_true (by omega)]
      · rw [decide_eq_false g, decide_eq_false (by omega)]
    rw [e3]
    clear hp hq hq' h hl hv e3
    generalize decide (0 < (pAll ps vs ps.length []).length) = B at *
    generalize ps.length = n at *
    go_enter Try.func26, Try.ntmps26
    go_wp2_with fail
    refine CK.out.mono ?_
    rintro e w1 ⟨rfl, rfl⟩
    clear CK
    go_wp2_with fail
    refine CA.out.mono ?_
    rintro e w2 ⟨rfl, hb⟩
    have HB := Lib.hid hb
    clear CA hb
    go_wp2_with fail
    go_ret2
    exact ⟨rfl, HB.out⟩
  · rw [show cntP ps vs = 0 from if_neg h]
    have e1 : (askE ps vs == 0) = false := beq_eq_false_iff_ne.2 h
    have e2 : (askE ps vs != 0) = true := by simp [h]
    clear hp hq h
    generalize askE ps vs = E at *
    go_enter Try.func26, Try.ntmps26
    go_wp2_with fail
    refine CK.out.mono ?_
    rintro e w1 ⟨rfl, rfl⟩
    clear CK
    go_wp2_with fail
    go_ret2
    exact ⟨rfl, w_refl _⟩

end Go.Proofs.Ytedkcnphplpacaa
