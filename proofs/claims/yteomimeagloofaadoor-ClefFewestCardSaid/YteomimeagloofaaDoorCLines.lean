/- How many ledger lines pitches need under a clef, as the program says. -/
import Derived.Test.YteomimeagloofaaDoorCBest
namespace Go.Proofs.YteomimeagloofaaDoor
open Go.RowKit

def linB (c : Cl) (k : Int) (l : List Pi3) : Bool := decide (∀ q ∈ l, plaE c k q = 0)
def linV (c : Cl) (k : Int) (l : List Pi3) : Int := if linB c k l = true then nedS c l else 0
def LinPost (c : Cl) (k : Int) (l : List Pi3) (w : World) (e : Ending) (w' : World) : Prop := e = .returned (.tuple #[.int .i64 (linV c k l), .bool (linB c k l)]) ∧ Below w.heap.size w w'
theorem lin_no {c : Cl} {k : Int} {l : List Pi3} {j : Nat} {q : Pi3} (hq : l[j]? = some q) (h : ¬ plaE c k q = 0) : linB c k l = false ∧ linV c k l = 0 := by
  have e : linB c k l = false := decide_eq_false (fun hall => h (hall q (List.mem_of_getElem? hq)))
  exact ⟨e, if_neg (by rw [e]; decide)⟩
theorem lin_yes {c : Cl} {k : Int} {l : List Pi3} (h : ∀ i q, i < l.length → l[i]? = some q → plaE c k q = 0) : linB c k l = true ∧ linV c k l = nedS c l := by
  have e : linB c k l = true := decide_eq_true (fun q hq => by
    obtain ⟨i, hi, e⟩ := List.getElem_of_mem hq
    exact h i q hi (by rw [List.getElem?_eq_getElem hi, e]))
  exact ⟨e, if_pos e⟩
theorem pla_zero {c : Cl} {k : Int} {q : Pi3} (h : plaE c k q = 0) : onP (atI c q) := by
  unfold plaE at h
  split at h
  · split at h
    · split at h
      · assumption
      · cases h
    · exact absurd h ‹_›
  · exact absurd h ‹_›

set_option maxRecDepth 100000 in
set_option maxHeartbeats 4000000 in
theorem lines_any (c : Cl) (k0 : Int) (p : Option Addr) (cap : Nat) (l : List Pi3) (hl : l.length ≤ 1000) (hok : ∀ q ∈ l, okP q) (w : World) (T : TabC w) (h : SlP w 3 p l.length cap (flatP l)) :
    Calls Tryd.prog 28 #[cv c, .int .i64 k0, .slice p l.length cap] w (LinPost c k0 l w) := by
  unfold LinPost
  have f1 := h.fit
  have f2 := h.max
  have HS := Lib.hid h
  have PL := Lib.hid (fun q W (b : Below w.heap.size w W) => cpla_any c k0 q W (T.later b))
  have LE := Lib.hid (fun x W => cled_any x W)
  have WC := Lib.hid (fun q W => wcheck_any q W)
  have K := Lib.hid (Two2.made w c 23)
  have hB := Lib.hid (w_alloc (w_refl w) (cO c))
  have hOK := Lib.hid (fun k q (hq : l[k]? = some q) => hok q (List.mem_of_getElem? hq))
  have hS := Lib.hid (fun k q (hq : l[k]? = some q) => (nedK_snoc c l k q hq).1)
  have hN := Lib.hid (fun j q (hq : l[j]? = some q) (hz : ¬ plaE c k0 q = 0) => lin_no hq hz)
  have hY := Lib.hid (fun hz => lin_yes (c := c) (k := k0) (l := l) hz)
  have hT := Lib.hid (show nedK c l l.length = nedS c l by unfold nedK; rw [List.take_length])
  have h0 : nedK c l 0 = 0 := rfl
  unfold PlaPost at PL
  generalize nedK c l = nk at *
  generalize linV c k0 l = V at *
  generalize linB c k0 l = B at *
  generalize nedS c l = NS at *
  have PLA : ∀ q, okP q → (plaE c k0 q = 0 ∧ onP (atI c q) ∧ plaV c k0 q = (atI c q, accI k0 q, 0)) ∨ (plaE c k0 q ≠ 0 ∧ plaV c k0 q = (0, 0, plaE c k0 q)) := fun q hq => by
    by_cases hz : plaE c k0 q = 0
    · exact .inl ⟨hz, pla_zero hz, if_pos hz⟩
    · exact .inr ⟨hz, if_neg hz⟩
  have HP := Lib.hid PLA
  clear h hok PLA T
  generalize plaE c k0 = pe at *
  generalize plaV c k0 = pv0 at *
  generalize atI c = at_ at *
  obtain ⟨s0, l0⟩ := c
  go_enter Tryd.func28, Tryd.ntmps28
  go_wp2_with fail
  go_loopw [8, 9] (fun s8 s9 wr => ∃ j : Nat, j ≤ l.length ∧ s9 = .int .i64 j ∧ s8 = .int .i64 (nk j) ∧ 0 ≤ nk j ∧ nk j ≤ 2 * j ∧ Hid (∀ i q, i < j → l[i]? = some q → pe q = 0) ∧ Hid (Two2 wr w.heap.size (s0, l0)) ∧ Hid (Below w.heap.size w wr)) (fun _ s9 _ => l.length - (intOf s9).toNat)
  case atStart => exact ⟨0, Nat.zero_le _, rfl, by rw [h0], by omega, by omega, Lib.hid (fun i q hi => by omega), K, hB⟩
  case round =>
    clear K hB h0
    obtain ⟨k, hk, rfl, rfl, hn0, hn1, hall, K, hbr⟩ := hrel
    by_cases hlt : k < l.length
    · have hlt' : (k : Int) < l.length := by omega
      have hk0 : (0 : Int) ≤ k := by omega
      obtain ⟨q, hq⟩ : ∃ q, l[k]? = some q := ⟨l[k], List.getElem?_eq_getElem hlt⟩
      have hokq := hOK.out k q hq
      have hsn := hS.out k q hq
      have hno := Lib.hid (hN.out k q hq)
      have hal := Lib.hid (show pe q = 0 → ∀ i q', i < k + 1 → l[i]? = some q' → pe q' = 0 from fun hz i q' hi hq' => by
        by_cases e : i = k
        · subst e; rw [hq] at hq'; injection hq' with hq'; rw [← hq']; exact hz
        · exact hall.out i q' (by omega) hq')
      have hp := HP.out q hokq
      have W1 := Lib.hid (fun W => WC.out q W)
      rw [chkV_ok hokq] at W1
      have P1 := Lib.hid (fun W b => PL.out q W b)
      obtain ⟨bl, off, rfl, hbl, _, _, _⟩ := HS.out.pit hq
      have FX := Lib.hid (show _ ∧ _ ∧ _ from ⟨hbr.out.drew, K.out.later (w_refl _).drew, (HS.out.later hbr.out).later (w_refl _).drew⟩)
      obtain ⟨_, _, e9, _, q0, q1, q2⟩ := FX.out.2.2.pit hq
      obtain ⟨s, o, a⟩ := q
      injection e9 with e9
      injection e9 with e9 e10 _
      subst e9 e10
      simp only at q0 q1 q2
      clear hN hall HP PL WC hS K hbr hokq hOK hY hT
      generalize at_ (s, o, a) = x at *
      generalize accI k0 (s, o, a) = ac at *
      generalize pe (s, o, a) = ee at *
      generalize pv0 (s, o, a) = pq at *
      obtain ⟨y1, y2, y3⟩ := pq
      go_wp2_with fail
      go_cut [10, 12] (fun s10 s12 wx => s10 = .int .i64 y1 ∧ s12 = .int .i64 y3 ∧ Hid (Below w.heap.size w wx ∧ Two2 wx w.heap.size (s0, l0) ∧ SlP wx 3 (some ⟨bl, off, none⟩) l.length cap (flatP l)))
      case first =>
        go_region_held3 (fun W => W.cell? ⟨w.heap.size, 0, none⟩ = some (.int .i64 s0) ∧ W.cell? ⟨w.heap.size, 1, none⟩ = some (.int .i64 l0) ∧ W.cell? ⟨bl, off + k * 3, none⟩ = some (.int .i64 s) ∧ W.cell? ⟨bl, off + k * 3 + 1, none⟩ = some (.int .i64 o) ∧ W.cell? ⟨bl, off + k * 3 + 2, none⟩ = some (.int .i64 a))
          (first
            | exact ⟨FX.out.2.1.c0, FX.out.2.1.c1, q0, q1, q2⟩
            | exact ⟨FX.out.2.1.c0, FX.out.2.1.c1, cell_later ‹_› q0, cell_later ‹_› q1, cell_later ‹_› q2⟩
            | fail)
          (first
            | (go_at_call 19; refine (P1.out _ FX.out.1).mono ?_; rintro e wn ⟨rfl, hb⟩; replace FX := Lib.hid (show _ ∧ _ ∧ _ from ⟨w_below FX.out.1 hb, FX.out.2.1.later hb, FX.out.2.2.later hb⟩); replace q0 := cell_later hb q0; replace q1 := cell_later hb q1; replace q2 := cell_later hb q2; clear hb P1)
            | fail)
        all_goals
          go_wp2_with fail
          go_meet
          exact ⟨rfl, rfl, Lib.hid ⟨FX.out.1, FX.out.2.1, FX.out.2.2⟩⟩
      case rest =>
        obtain ⟨rfl, rfl, FY⟩ := hcut
        clear FX q0 q1 q2 P1
        rcases hp with ⟨hz, ho, hpv⟩ | ⟨hz, hpv⟩
        · injection hpv with e1 e2
          injection e2 with e2 e3
          subst e1 e2 e3
          have L1 := Lib.hid (fun W => LE.out y1 W)
          rw [show ledV y1 = ledI y1 from if_pos ho, show ledE y1 = 0 from if_pos ho] at L1
          have hl2 := led_le ho
          have hl0 := led_nonneg (x := y1)
          have hall2 := Lib.hid (hal.out hz)
          clear LE hal hno hz ho
          generalize ledI y1 = le at *
          have hx1 : IntKind.i64.wrap (nk k + le) = nk (k + 1) := by rw [hsn]; exact IntWalk.i64_in _ (by omega)
          have hm0 : 0 ≤ nk (k + 1) := by omega
          have hm1 : nk (k + 1) ≤ 2 * (k + 1 : Nat) := by omega
          generalize nk k = n at *
          generalize hnk : nk (k + 1) = n1 at *
          clear hsn hn0 hn1 hl2 hl0
          go_wp2_with fail
          refine (L1.out _).mono ?_
          rintro e w3 ⟨rfl, hb⟩
          have FZ := Lib.hid (show _ ∧ _ ∧ _ from ⟨w_below FY.out.1 hb, FY.out.2.1.later hb, FY.out.2.2.later hb⟩)
          obtain ⟨_, _, e9, _, q0, q1, q2⟩ := FZ.out.2.2.pit hq
          injection e9 with e9
          injection e9 with e9 e10 _
          subst e9 e10
          simp only at q0 q1 q2
          clear hb L1 FY
          go_wp2_with fail
          refine (W1.out _).mono ?_
          rintro e w4 ⟨rfl, hb⟩
          have FU := Lib.hid (show _ ∧ _ from ⟨w_below FZ.out.1 hb, FZ.out.2.1.later hb⟩)
          clear hb W1 FZ q0 q1 q2
          go_wp2_with fail
          go_roundw
          case rel => exact ⟨k + 1, by omega, by go_num, by rw [hnk], by rw [hnk]; exact hm0, by rw [hnk]; exact hm1, hall2, Lib.hid FU.out.2, Lib.hid FU.out.1⟩
          case measure => simp [intOf]; omega
        · injection hpv with e1 e2
          injection e2 with e2 e3
          subst e1 e2
          rw [← e3] at hz
          obtain ⟨h1, h2⟩ := hno.out (by rw [← e3]; exact hz)
          have hfin := Lib.hid (show Ending.returned (Value.tuple #[.int .i64 V, .bool B]) = .returned (.tuple #[.int .i64 0, .bool false]) by rw [h1, h2])
          have L1 := Lib.hid (fun W => LE.out 0 W)
          clear LE hal hno hsn h1 h2 e3
          go_wp2_with fail
          refine (L1.out _).mono ?_
          rintro e w3 ⟨rfl, hb⟩
          have FZ := Lib.hid (w_below FY.out.1 hb)
          clear hb L1 FY
          go_wp2_with fail
          go_ret2
          exact ⟨hfin.out.symm, FZ.out⟩
    · obtain rfl : k = l.length := by omega
      obtain ⟨h1, h2⟩ := hY.out hall.out
      have hfin := Lib.hid (show Ending.returned (Value.tuple #[.int .i64 V, .bool B]) = .returned (.tuple #[.int .i64 (nk l.length), .bool true]) by rw [h1, h2, hT.out])
      have hlt' : ¬ ((l.length : Int) < l.length) := by omega
      clear h1 h2 hT hN hY hS hOK PL LE WC
      go_wp2_with fail
      go_ret2
      exact ⟨hfin.out.symm, hbr.out⟩

end Go.Proofs.YteomimeagloofaaDoor
