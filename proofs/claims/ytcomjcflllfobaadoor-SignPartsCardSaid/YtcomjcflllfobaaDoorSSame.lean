/- Equality of lists of signs and of parts, copies of parts, parts that are small. -/
import Derived.Test.YtcomjcflllfobaaDoorSPart
import Derived.Test.YtcomjcflllfobaaDoorLgKit
namespace Go.Proofs.YtcomjcflllfobaaDoor
open Go.RowKit

/-- Two lists are equal. -/
def eqG (l m : List Sg) : Bool := decide (l = m)
theorem eqG_len {l m : List Sg} (h : l.length ≠ m.length) : eqG l m = false := decide_eq_false (fun e => h (by rw [e]))
theorem eqG_no {l m : List Sg} {k : Nat} (h : sgE (l.getD k zS) (m.getD k zS) = false) : eqG l m = false := decide_eq_false (fun e => by
  subst e
  rw [(sgE_iff _ _).2 rfl] at h; cases h)
theorem eqG_yes {l m : List Sg} (hl : l.length = m.length) (h : ∀ k, k < l.length → sgE (l.getD k zS) (m.getD k zS) = true) : eqG l m = true := decide_eq_true (by
  apply List.ext_getElem?
  intro k
  by_cases hk : k < l.length
  · rw [sg_some hk, sg_some (by omega), (sgE_iff _ _).1 (h k hk)]
  · rw [List.getElem?_eq_none (by omega), List.getElem?_eq_none (by omega)])
def samP (a b : ByteArray) (l m : List Sg) : Bool := (a.toList == b.toList) && eqG l m
theorem sam_refl (a : ByteArray) (l : List Sg) : samP a a l l = true := by unfold samP eqG; simp

set_option maxRecDepth 100000 in
set_option maxHeartbeats 4000000 in
theorem pslq_any (p q : Option Addr) (cp cq : Nat) (l m : List Sg) (w : World) (hp : SlP w 17 p l.length cp (flatG l)) (hq : SlP w 17 q m.length cq (flatG m)) :
    Calls Tryd.prog 54 #[.slice p l.length cp, .slice q m.length cq] w fun e w' => e = .returned (.bool (eqG l m)) ∧ Below w.heap.size w w' := by
  have f1 := hp.fit
  have f2 := hq.fit
  have m1 := hp.max
  have m2 := hq.max
  by_cases hl : l.length = m.length
  case neg =>
    rw [eqG_len hl]
    have hne : ((l.length : Int) != m.length) = true := by simp; omega
    clear hp hq hl
    go_enter Tryd.func54, Tryd.ntmps54
    go_wp2_with fail
    go_ret
    exact ⟨rfl, w_refl w⟩
  have HP := Lib.hid hp
  have HQ := Lib.hid hq
  have EN := Lib.hid (fun k h => eqG_no (l := l) (m := m) (k := k) h)
  have EY := Lib.hid (fun h => eqG_yes hl h)
  have HM := Lib.hid (show ∀ k, k < l.length → k < m.length from fun k h => by omega)
  rw [← hl] at f2 ⊢
  clear hp hq hl
  generalize eqG l m = B at *
  go_enter Tryd.func54, Tryd.ntmps54
  go_wp2_with fail
  go_loopw [13] (fun i wr => ∃ k : Nat, k ≤ l.length ∧ i = .int .i64 k ∧ Hid (∀ j, j < k → sgE (l.getD j zS) (m.getD j zS) = true) ∧ Hid (Below w.heap.size w wr)) (fun i _ => l.length - (intOf i).toNat)
  case atStart => exact ⟨0, by omega, rfl, Lib.hid (fun j hj => by omega), Lib.hid (w_refl w)⟩
  case round =>
    obtain ⟨k, hk, rfl, hall, hb⟩ := hrel
    rename World => wr
    by_cases hlt : k < l.length
    · have hlt' : (k : Int) < l.length := by omega
      have hk0 : (0 : Int) ≤ k := by omega
      obtain ⟨b, off, rfl, _, hc⟩ := (HP.out.later hb.out).sg (sg_some hlt)
      obtain ⟨b', off', rfl, _, hd⟩ := (HQ.out.later hb.out).sg (sg_some (HM.out k hlt))
      have c0 := Lib.hid hc
      have d0 := Lib.hid hd
      have ENk := Lib.hid (EN.out k)
      obtain ⟨s, hs⟩ : ∃ s, l.getD k zS = s := ⟨_, rfl⟩
      obtain ⟨t, ht⟩ : ∃ t, m.getD k zS = t := ⟨_, rfl⟩
      rw [hs] at c0 ENk
      rw [ht] at d0 ENk
      have HST := Lib.hid (show sgE s t = true → ∀ j, j < k + 1 → sgE (l.getD j zS) (m.getD j zS) = true from fun h j hj => by
        by_cases e : j = k
        · rw [e, hs, ht]; exact h
        · exact hall.out j (by omega))
      have hneq := fun W => sg_neq s t W
      have hgrd := fun x y W => sg_guard BinOp.neq x y s t W
      clear hc hd hs ht EN hall
      go_wp2_with fail
      go_cut [24] (fun s24 wx => s24 = .bool (!(sgE s t)) ∧ Hid (Below wr.heap.size wr wx))
      case first =>
        clear ENk EY HM HST
        refine wp_region_grown (by kernel_rfl) (by kernel_rfl) ?_
        go_big_quiet_step (fail)
        go_big_quiet_step (fail)
        go_big_quiet_step (fail)
        refine quiet_load (v := sgv s) (sg_yields (.tmp 18) b (off + k * 17) s (by kernel_rfl) rfl (by kernel_rfl) (fun _ ⟨n, e⟩ => e ▸ (c0.out.later n.b))) (by simp only [Act.put, List.setIfInBounds_toArray, List.set_cons_succ, List.set_cons_zero]; rfl) ?_
        go_big_quiet_step (fail)
        go_big_quiet_step (fail)
        go_big_quiet_step (fail)
        refine quiet_load (v := sgv t) (sg_yields (.tmp 22) b' (off' + k * 17) t (by kernel_rfl) rfl (by kernel_rfl) (fun _ ⟨n, e⟩ => e ▸ (d0.out.later n.b))) (by simp only [Act.put, List.setIfInBounds_toArray, List.set_cons_succ, List.set_cons_zero]; rfl) ?_
        go_big_quiet_step (fail)
        refine wpQuiet_nil ?_
        intro n
        go_wp2_with fail
        go_meet
        exact ⟨rfl, Lib.hid n.b⟩
      case rest =>
        obtain ⟨rfl, hb2⟩ := hcut
        have hB := Lib.hid (w_below hb.out hb2.out)
        clear hneq hgrd c0 d0 hb2
        cases hx : sgE s t with
        | false =>
          have hE := Lib.hid (ENk.out hx)
          clear ENk EY HM HST
          go_wp2_with fail
          go_ret
          exact ⟨by rw [hE.out]; first | done | rfl, hB.out⟩
        | true =>
          have hall2 := Lib.hid (HST.out hx)
          clear ENk EY HM HST hx
          go_wp2_with fail
          go_roundw
          case rel => exact ⟨k + 1, by omega, by go_num, hall2, hB⟩
          case measure => simp [intOf]; omega
    · obtain rfl : k = l.length := by omega
      have hE := Lib.hid (EY.out hall.out)
      clear EN EY HM hall
      go_wp2_with fail
      go_ret
      exact ⟨by rw [hE.out]; first | done | rfl, hb.out⟩


set_option maxRecDepth 100000 in
set_option maxHeartbeats 4000000 in
theorem rsms_any (p q : Option Addr) (cp cq : Nat) (l m : List Sg) (w : World) (hp : SlP w 17 p l.length cp (flatG l)) (hq : SlP w 17 q m.length cq (flatG m)) :
    Calls Tryd.prog 53 #[.slice p l.length cp, .slice q m.length cq] w fun e w' => e = .returned (.bool (eqG l m)) ∧ Below w.heap.size w w' := by
  have f1 := hp.fit
  have f2 := hq.fit
  have m1 := hp.max
  have m2 := hq.max
  by_cases hl : l.length = m.length
  case neg =>
    rw [eqG_len hl]
    have hne : ((l.length : Int) != m.length) = true := by simp; omega
    clear hp hq hl
    go_enter Tryd.func53, Tryd.ntmps53
    go_wp2_with fail
    go_ret
    exact ⟨rfl, w_refl w⟩
  have HP := Lib.hid hp
  have HQ := Lib.hid hq
  have EN := Lib.hid (fun k h => eqG_no (l := l) (m := m) (k := k) h)
  have EY := Lib.hid (fun h => eqG_yes hl h)
  have HM := Lib.hid (show ∀ k, k < l.length → k < m.length from fun k h => by omega)
  rw [← hl] at f2 ⊢
  clear hp hq hl
  generalize eqG l m = B at *
  go_enter Tryd.func53, Tryd.ntmps53
  go_wp2_with fail
  go_loopw [5] (fun i wr => ∃ k : Nat, k ≤ l.length ∧ i = .int .i64 k ∧ Hid (∀ j, j < k → sgE (l.getD j zS) (m.getD j zS) = true) ∧ Hid (Below w.heap.size w wr)) (fun i _ => l.length - (intOf i).toNat)
  case atStart => exact ⟨0, by omega, rfl, Lib.hid (fun j hj => by omega), Lib.hid (w_refl w)⟩
  case round =>
    obtain ⟨k, hk, rfl, hall, hb⟩ := hrel
    rename World => wr
    by_cases hlt : k < l.length
    · have hlt' : (k : Int) < l.length := by omega
      have hk0 : (0 : Int) ≤ k := by omega
      obtain ⟨b, off, rfl, _, hc⟩ := (HP.out.later hb.out).sg (sg_some hlt)
      obtain ⟨b', off', rfl, _, hd⟩ := (HQ.out.later hb.out).sg (sg_some (HM.out k hlt))
      have c0 := Lib.hid hc
      have d0 := Lib.hid hd
      have ENk := Lib.hid (EN.out k)
      obtain ⟨s, hs⟩ : ∃ s, l.getD k zS = s := ⟨_, rfl⟩
      obtain ⟨t, ht⟩ : ∃ t, m.getD k zS = t := ⟨_, rfl⟩
      rw [hs] at c0 ENk
      rw [ht] at d0 ENk
      have HST := Lib.hid (show sgE s t = true → ∀ j, j < k + 1 → sgE (l.getD j zS) (m.getD j zS) = true from fun h j hj => by
        by_cases e : j = k
        · rw [e, hs, ht]; exact h
        · exact hall.out j (by omega))
      have hneq := fun W => sg_neq s t W
      have hgrd := fun x y W => sg_guard BinOp.neq x y s t W
      clear hc hd hs ht EN hall
      go_wp2_with fail
      go_cut [25] (fun s24 wx => s24 = .bool (!(sgE s t)) ∧ Hid (Below wr.heap.size wr wx))
      case first =>
        clear ENk EY HM HST
        refine wp_region_grown (by kernel_rfl) (by kernel_rfl) ?_
        go_big_quiet_step (fail)
        go_big_quiet_step (fail)
        go_big_quiet_step (fail)
        refine quiet_load (v := sgv s) (sg_yields (.tmp 19) b (off + k * 17) s (by kernel_rfl) rfl (by kernel_rfl) (fun _ ⟨n, e⟩ => e ▸ (c0.out.later n.b))) (by simp only [Act.put, List.setIfInBounds_toArray, List.set_cons_succ, List.set_cons_zero]; rfl) ?_
        go_big_quiet_step (fail)
        go_big_quiet_step (fail)
        go_big_quiet_step (fail)
        refine quiet_load (v := sgv t) (sg_yields (.tmp 23) b' (off' + k * 17) t (by kernel_rfl) rfl (by kernel_rfl) (fun _ ⟨n, e⟩ => e ▸ (d0.out.later n.b))) (by simp only [Act.put, List.setIfInBounds_toArray, List.set_cons_succ, List.set_cons_zero]; rfl) ?_
        go_big_quiet_step (fail)
        refine wpQuiet_nil ?_
        intro n
        go_wp2_with fail
        go_meet
        exact ⟨rfl, Lib.hid n.b⟩
      case rest =>
        obtain ⟨rfl, hb2⟩ := hcut
        have hB := Lib.hid (w_below hb.out hb2.out)
        clear hneq hgrd c0 d0 hb2
        cases hx : sgE s t with
        | false =>
          have hE := Lib.hid (ENk.out hx)
          clear ENk EY HM HST
          go_wp2_with fail
          go_ret
          exact ⟨by rw [hE.out]; first | done | rfl, hB.out⟩
        | true =>
          have hall2 := Lib.hid (HST.out hx)
          clear ENk EY HM HST hx
          go_wp2_with fail
          go_roundw
          case rel => exact ⟨k + 1, by omega, by go_num, hall2, hB⟩
          case measure => simp [intOf]; omega
    · obtain rfl : k = l.length := by omega
      have hE := Lib.hid (EY.out hall.out)
      clear EN EY HM hall
      go_wp2_with fail
      go_ret
      exact ⟨by rw [hE.out]; first | done | rfl, hb.out⟩


set_option maxRecDepth 100000 in
set_option maxHeartbeats 4000000 in
theorem psam_any (a b : ByteArray) (p q : Option Addr) (cp cq : Nat) (l m : List Sg) (w : World) (hp : SlP w 17 p l.length cp (flatG l)) (hq : SlP w 17 q m.length cq (flatG m)) :
    Calls Tryd.prog 29 #[ptv a p l.length cp, ptv b q m.length cq] w fun e w' => e = .returned (.bool (samP a b l m)) ∧ Below w.heap.size w w' := by
  have H1 := Lib.hid ((pt_new w a p l.length cp).al (ptO b q m.length cq))
  have H2 := Lib.hid (pt_new (w.alloc (ptO a p l.length cp)) b q m.length cq)
  rw [World.size_alloc] at H2
  have B2 := Lib.hid (w_alloc (w_alloc (w_refl w) (ptO a p l.length cp)) (ptO b q m.length cq))
  have CE := Lib.hid (pslq_any p q cp cq l m _ (hp.later B2.out) (hq.later B2.out))
  have HS := Lib.hid (show samP a b l m = ((a.toList == b.toList) && eqG l m) from rfl)
  have k0 := H1.out.cell (j := 0) rfl
  have k1 := H1.out.cell (j := 1) rfl
  have j0 := H2.out.cell (j := 0) rfl
  have j1 := H2.out.cell (j := 1) rfl
  generalize samP a b l m = S at *
  generalize eqG l m = G at *
  cases hab : (a.toList == b.toList) with
  | true =>
    rw [hab, Bool.true_and] at HS
    clear hp hq H1 H2
    go_enter Tryd.func29, Tryd.ntmps29
    go_wp2_with fail
    refine CE.out.mono ?_
    rintro e w1 ⟨rfl, hb⟩
    have hB := Lib.hid (w_below B2.out hb)
    clear hb CE
    go_wp2_with fail
    go_ret
    exact ⟨by rw [HS.out]; first | done | rfl, hB.out⟩
  | false =>
    rw [hab, Bool.false_and] at HS
    clear hp hq H1 H2 CE
    go_enter Tryd.func29, Tryd.ntmps29
    go_wp2_with fail
    go_ret
    exact ⟨by rw [HS.out]; first | done | rfl, B2.out⟩


set_option maxRecDepth 100000 in
set_option maxHeartbeats 4000000 in
theorem rsam_any (a b : ByteArray) (p q : Option Addr) (cp cq : Nat) (l m : List Sg) (w : World) (hp : SlP w 17 p l.length cp (flatG l)) (hq : SlP w 17 q m.length cq (flatG m)) :
    Calls Tryd.prog 28 #[ptv a p l.length cp, ptv b q m.length cq] w fun e w' => e = .returned (.bool (samP a b l m)) ∧ Below w.heap.size w w' := by
  have H1 := Lib.hid ((pt_new w a p l.length cp).al (ptO b q m.length cq))
  have H2 := Lib.hid (pt_new (w.alloc (ptO a p l.length cp)) b q m.length cq)
  rw [World.size_alloc] at H2
  have B2 := Lib.hid (w_alloc (w_alloc (w_refl w) (ptO a p l.length cp)) (ptO b q m.length cq))
  have CE := Lib.hid (rsms_any p q cp cq l m _ (hp.later B2.out) (hq.later B2.out))
  have HS := Lib.hid (show samP a b l m = ((a.toList == b.toList) && eqG l m) from rfl)
  have k0 := H1.out.cell (j := 0) rfl
  have k1 := H1.out.cell (j := 1) rfl
  have j0 := H2.out.cell (j := 0) rfl
  have j1 := H2.out.cell (j := 1) rfl
  generalize samP a b l m = S at *
  generalize eqG l m = G at *
  cases hab : (a.toList == b.toList) with
  | true =>
    rw [hab, Bool.true_and] at HS
    clear hp hq H1 H2
    go_enter Tryd.func28, Tryd.ntmps28
    go_wp2_with fail
    refine CE.out.mono ?_
    rintro e w1 ⟨rfl, hb⟩
    have hB := Lib.hid (w_below B2.out hb)
    clear hb CE
    go_wp2_with fail
    go_ret
    exact ⟨by rw [HS.out]; first | done | rfl, hB.out⟩
  | false =>
    rw [hab, Bool.false_and] at HS
    clear hp hq H1 H2 CE
    go_enter Tryd.func28, Tryd.ntmps28
    go_wp2_with fail
    go_ret
    exact ⟨by rw [HS.out]; first | done | rfl, B2.out⟩


/-- A part that is small, or refused at once. -/
def litB (nm : ByteArray) (n most : Nat) : Bool := decide (nm.size ≤ 100) && (decide (n ≤ most) || (decide (400 < n) && decide (n ≤ 420)))
theorem lit_le {nm : ByteArray} {n : Nat} (h : litB nm n 80 = true) : n ≤ 420 := by
  unfold litB at h
  simp only [Bool.and_eq_true, Bool.or_eq_true, decide_eq_true_eq] at h
  omega
set_option maxHeartbeats 2000000 in
theorem light_any (nm : ByteArray) (p : Option Addr) (n cap most : Nat) (w : World) :
    Calls Tryd.prog 17 #[ptv nm p n cap, .int .i64 most] w fun e w' => e = .returned (.bool (litB nm n most)) ∧ Below w.heap.size w w' := by
  have B1 := Lib.hid (w_alloc (w_refl w) (ptO nm p n cap))
  have k0 := (pt_new w nm p n cap).cell (j := 0) rfl
  have k1 := (pt_new w nm p n cap).cell (j := 1) rfl
  have HS := Lib.hid (show litB nm n most = (decide (nm.size ≤ 100) && (decide (n ≤ most) || (decide (400 < n) && decide (n ≤ 420)))) from rfl)
  generalize litB nm n most = R at *
  by_cases h1 : nm.size ≤ 100
  case neg =>
    have h1' : ¬ (nm.size : Int) ≤ 100 := by omega
    have hR := Lib.hid (show R = false by rw [HS.out, decide_eq_false h1]; rfl)
    clear HS h1
    go_enter Tryd.func17, Tryd.ntmps17
    go_wp2_with fail
    go_ret
    exact ⟨by rw [hR.out]; first | done | rfl, B1.out⟩
  have h1' : (nm.size : Int) ≤ 100 := by omega
  by_cases h2 : n ≤ most
  case pos =>
    have h2' : (n : Int) ≤ most := by omega
    have hR := Lib.hid (show R = true by rw [HS.out, decide_eq_true h1, decide_eq_true h2]; rfl)
    clear HS h1 h2
    go_enter Tryd.func17, Tryd.ntmps17
    go_wp2_with fail
    go_ret
    exact ⟨by rw [hR.out]; first | done | rfl, B1.out⟩
  have h2' : ¬ (n : Int) ≤ most := by omega
  by_cases h3 : 400 < n
  case neg =>
    have h3' : ¬ (400 : Int) < n := by omega
    have hR := Lib.hid (show R = false by rw [HS.out, decide_eq_true h1, decide_eq_false h2, decide_eq_false h3]; rfl)
    clear HS h1 h2 h3
    go_enter Tryd.func17, Tryd.ntmps17
    go_wp2_with fail
    go_ret
    exact ⟨by rw [hR.out]; first | done | rfl, B1.out⟩
  have h3' : (400 : Int) < n := by omega
  by_cases h4 : n ≤ 420
  · have h4' : (n : Int) ≤ 420 := by omega
    have hR := Lib.hid (show R = true by rw [HS.out, decide_eq_true h1, decide_eq_false h2, decide_eq_true h3, decide_eq_true h4]; rfl)
    clear HS h1 h2 h3 h4
    go_enter Tryd.func17, Tryd.ntmps17
    go_wp2_with fail
    go_ret
    exact ⟨by rw [hR.out]; first | done | rfl, B1.out⟩
  · have h4' : ¬ (n : Int) ≤ 420 := by omega
    have hR := Lib.hid (show R = false by rw [HS.out, decide_eq_true h1, decide_eq_false h2, decide_eq_true h3, decide_eq_false h4]; rfl)
    clear HS h1 h2 h3 h4
    go_enter Tryd.func17, Tryd.ntmps17
    go_wp2_with fail
    go_ret
    exact ⟨by rw [hR.out]; first | done | rfl, B1.out⟩

end Go.Proofs.YtcomjcflllfobaaDoor
