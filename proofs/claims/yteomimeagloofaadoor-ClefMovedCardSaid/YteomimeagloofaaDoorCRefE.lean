/- The reference's needs: the ledger lines of pitches under a clef. -/
import Derived.Test.YteomimeagloofaaDoorCRefD
namespace Go.Proofs.YteomimeagloofaaDoor
open Go.RowKit

/-- The ledger lines of the first k pitches. -/
def nedK (c : Cl) (l : List Pi3) (k : Nat) : Int := nedS c (l.take k)
theorem nedK_snoc (c : Cl) (l : List Pi3) (k : Nat) (p : Pi3) (h : l[k]? = some p) : nedK c l (k + 1) = nedK c l k + ledI (atI c p) ∧ nedB c (l.take (k + 1)) = (nedB c (l.take k) && decide (onP (atI c p))) := by
  have e : l.take (k + 1) = l.take k ++ [p] := by rw [List.take_add_one, h]; rfl
  unfold nedK
  rw [e, (ned_app c _ _).1, (ned_app c _ _).2]
  refine ⟨?_, ?_⟩
  · show nedS c (l.take k) + (ledI (atI c p) + 0) = _; omega
  · show (_ && (decide (onP (atI c p)) && true)) = _; rw [Bool.and_true]
theorem nedB_part (c : Cl) : ∀ (l : List Pi3) (k : Nat), nedB c l = true → nedB c (l.take k) = true
  | [], k, _ => by rw [List.take_nil]; rfl
  | p :: t, 0, _ => rfl
  | p :: t, k + 1, h => by
    have h' : (decide (onP (atI c p)) && nedB c t) = true := h
    rw [Bool.and_eq_true] at h'
    show (decide (onP (atI c p)) && nedB c (t.take k)) = true
    rw [h'.1, nedB_part c t k h'.2]; rfl
theorem nedB_at (c : Cl) : ∀ (l : List Pi3) (k : Nat) (p : Pi3), l[k]? = some p → ¬ onP (atI c p) → nedB c l = false
  | [], k, p, h, _ => by simp at h
  | q :: t, 0, p, h, hn => by
    simp at h; subst h
    show (decide _ && _) = false
    rw [decide_eq_false hn]; rfl
  | q :: t, k + 1, p, h, hn => by
    show (decide _ && nedB c t) = false
    rw [nedB_at c t k p (by simpa using h) hn, Bool.and_false]
theorem nedK_le (c : Cl) (l : List Pi3) : ∀ k, nedB c (l.take k) = true → k ≤ l.length → nedK c l k ≤ 2 * k
  | 0, _, _ => by show nedS c (l.take 0) ≤ _; rw [List.take_zero]; exact Int.le_refl _
  | k + 1, h, hk => by
    have hp : l[k]? = some l[k] := List.getElem?_eq_getElem (by omega)
    have e := nedK_snoc c l k _ hp
    rw [e.2, Bool.and_eq_true] at h
    have ih := nedK_le c l k h.1 (by omega)
    have := led_le (of_decide_eq_true h.2)
    rw [e.1]; omega
def nedV (c : Cl) (l : List Pi3) : Int := if nedB c l = true then nedS c l else 0
def NedPost (c : Cl) (l : List Pi3) (w : World) (e : Ending) (w' : World) : Prop := e = .returned (.tuple #[.int .i64 (nedV c l), .bool (nedB c l)]) ∧ Below w.heap.size w w'

set_option maxHeartbeats 4000000 in
theorem rned_any (c : Cl) (hc : okC c) (p : Option Addr) (cap : Nat) (l : List Pi3) (hl : l.length ≤ 1000) (hok : ∀ q ∈ l, okP q) (w : World) (h : SlP w 3 p l.length cap (flatP l)) :
    Calls Tryd.prog 47 #[cv c, .slice p l.length cap] w (NedPost c l w) := by
  unfold NedPost
  have f1 := h.fit
  have f2 := h.max
  have HS := Lib.hid h
  have LO := Lib.hid (fun W => rlow_any c hc W)
  have hlb := low_bd hc
  have ON := Lib.hid (fun x W => ron_any x W)
  have LE := Lib.hid (fun x hx W => rled_any x hx W)
  have K := Lib.hid (Two2.made w c 23)
  have hB := Lib.hid (w_alloc (w_refl w) (cO c))
  have hOK := Lib.hid (fun k q (hq : l[k]? = some q) => hok q (List.mem_of_getElem? hq))
  have hS := Lib.hid (fun k q hq => nedK_snoc c l k q hq)
  have hA := Lib.hid (fun k q hq hn => nedB_at c l k q hq hn)
  have hL := Lib.hid (fun k hk => nedK_le c l k hk)
  have hT := Lib.hid (show ∀ k, k = l.length → nedB c (l.take k) = true → nedB c l = true ∧ nedV c l = nedK c l k from fun k hk hb => by
    subst hk
    rw [List.take_length] at hb
    exact ⟨hb, by unfold nedV nedK; rw [if_pos hb, List.take_length]⟩)
  have hF := Lib.hid (show nedB c l = false → nedV c l = 0 from fun hb => by unfold nedV; rw [if_neg (by rw [hb]; decide)])
  have hA0 := Lib.hid (show ∀ q, atI c q = 7 * q.2.1 + q.1 - lowC c from fun q => rfl)
  have hnn := Lib.hid (fun k => show 0 ≤ nedK c l k from ned_nonneg c _)
  generalize lowC c = lo at *
  generalize atI c = at_ at *
  generalize nedK c l = nk at *
  generalize nedV c l = V at *
  generalize hBl : nedB c l = Bl at *
  have hS2 := Lib.hid (show ∀ k q, l[k]? = some q → onP (at_ q) → nedB c (l.take k) = true → nedB c (l.take (k + 1)) = true ∧ nk (k + 1) = nk k + ledI (at_ q) from fun k q hq ho hb => by
    have e := hS.out k q hq
    exact ⟨by rw [e.2, hb, decide_eq_true ho]; rfl, e.1⟩)
  have h0 : nk 0 = 0 := by
    have := hL.out 0 rfl (Nat.zero_le _)
    have := hnn.out 0
    omega
  have hb0 : nedB c (l.take 0) = true := rfl
  clear hS hBl hc h
  generalize hbt : (fun k => nedB c (l.take k)) = bt at *
  have hbe : ∀ k, nedB c (l.take k) = bt k := fun k => congrFun hbt k
  simp only [hbe] at hS2 hL hT hb0
  clear hbt hbe
  obtain ⟨s0, l0⟩ := c
  go_enter Tryd.func47, Tryd.ntmps47
  go_wp2_with fail
  go_loopw [6, 7] (fun s6 s7 wr => ∃ k : Nat, k ≤ l.length ∧ s7 = .int .i64 k ∧ s6 = .int .i64 (nk k) ∧ Hid (bt k = true) ∧ Hid (Two2 wr w.heap.size (s0, l0)) ∧ Hid (Below w.heap.size w wr)) (fun _ s7 _ => l.length - (intOf s7).toNat)
  case atStart => exact ⟨0, Nat.zero_le _, rfl, by rw [h0], Lib.hid hb0, K, hB⟩
  case round =>
    clear K hB h0 hb0
    obtain ⟨k, hk, rfl, rfl, hbk, K, hbr⟩ := hrel
    by_cases hlt : k < l.length
    · have hlt' : (k : Int) < l.length := by omega
      have hk0 : (0 : Int) ≤ k := by omega
      obtain ⟨q, hq⟩ : ∃ q, l[k]? = some q := ⟨l[k], List.getElem?_eq_getElem hlt⟩
      have hokq := hOK.out k q hq
      have hs2 := Lib.hid (hS2.out k q hq)
      have ha := Lib.hid (hA.out k q hq)
      have hat := hA0.out q
      obtain ⟨bl, off, rfl, hbl, _, _, _⟩ := HS.out.pit hq
      have FX := Lib.hid (show _ ∧ _ ∧ _ from ⟨hbr.out.drew, K.out.later (w_refl _).drew, (HS.out.later hbr.out).later (w_refl _).drew⟩)
      obtain ⟨_, _, e9, _, q0, q1, _⟩ := FX.out.2.2.pit hq
      have hlk := hL.out k hbk.out hk
      have hn0 := hnn.out k
      obtain ⟨s, o, a⟩ := q
      injection e9 with e9
      injection e9 with e9 e10 _
      subst e9 e10
      obtain ⟨⟨p1, p2⟩, ⟨p3, p4⟩, _⟩ := hokq
      simp only at p1 p2 p3 p4 hat q0 q1
      obtain ⟨at0, ha0⟩ : ∃ x, at_ (s, o, a) = x := ⟨_, rfl⟩
      rw [ha0] at hat hs2 ha
      obtain ⟨m, hm⟩ : ∃ m, 7 * o + s = m := ⟨_, rfl⟩
      rw [hm] at hat
      have x1 : IntKind.i64.wrap (7 * o) = 7 * o := IntWalk.i64_in _ (by omega)
      have x2 : IntKind.i64.wrap (7 * o + s) = m := by rw [IntWalk.i64_in _ (by omega)]; exact hm
      have x3 : IntKind.i64.wrap (m - lo) = at0 := by rw [IntWalk.i64_in _ (by omega)]; exact hat.symm
      clear hq hS2 hA hA0 hOK hL hnn hm ha0 hat p1 p2 p3 p4 K hbr hT
      go_wp2_with fail
      go_cut [8] (fun s8 wx => s8 = .int .i64 at0 ∧ Hid (Below w.heap.size w wx ∧ Two2 wx w.heap.size (s0, l0)))
      case first =>
        go_region_held3 (fun W => W.cell? ⟨w.heap.size, 0, none⟩ = some (.int .i64 s0) ∧ W.cell? ⟨w.heap.size, 1, none⟩ = some (.int .i64 l0) ∧ W.cell? ⟨bl, off + k * 3, none⟩ = some (.int .i64 s) ∧ W.cell? ⟨bl, off + k * 3 + 1, none⟩ = some (.int .i64 o))
          (first
            | exact ⟨FX.out.2.1.c0, FX.out.2.1.c1, q0, q1⟩
            | exact ⟨FX.out.2.1.c0, FX.out.2.1.c1, cell_later ‹_› q0, cell_later ‹_› q1⟩
            | fail)
          (first
            | (go_at_call 35; refine (LO.out _).mono ?_; rintro e wn ⟨rfl, hb⟩; replace FX := Lib.hid (show _ ∧ _ ∧ _ from ⟨w_below FX.out.1 hb, FX.out.2.1.later hb, FX.out.2.2.later hb⟩); replace q0 := cell_later hb q0; replace q1 := cell_later hb q1; clear hb LO)
            | fail)
        all_goals
          go_wp2_with fail
          go_meet
          exact ⟨rfl, Lib.hid ⟨FX.out.1, FX.out.2.1⟩⟩
      case rest =>
        obtain ⟨rfl, FY⟩ := hcut
        clear FX x1 x2 x3 q0 q1 LO
        have O1 := Lib.hid (fun W => ON.out at0 W)
        clear ON
        by_cases ho : onP at0
        · rw [decide_eq_true ho] at O1
          have L1 := Lib.hid (fun W => LE.out at0 ho W)
          have hl2 := led_le ho
          have hl0 := led_nonneg (x := at0)
          obtain ⟨hb2, hn2⟩ := hs2.out ho hbk.out
          have HB2 := Lib.hid hb2
          have HN2 := Lib.hid hn2
          clear LE ha hs2 hb2 hn2 ho
          generalize ledI at0 = le at *
          generalize nk k = n at *
          go_wp2_with fail
          refine (O1.out _).mono ?_
          rintro e w3 ⟨rfl, rfl⟩
          clear O1
          go_wp2_with fail
          refine (L1.out _).mono ?_
          rintro e w3 ⟨rfl, rfl⟩
          clear L1
          go_wp2_with fail
          go_roundw
          case rel => exact ⟨k + 1, by omega, by go_num, by rw [HN2.out], HB2, Lib.hid FY.out.2, Lib.hid FY.out.1⟩
          case measure => simp [intOf]; omega
        · rw [decide_eq_false ho] at O1
          have hB2 := ha.out ho
          have hfin := Lib.hid (show Ending.returned (Value.tuple #[.int .i64 V, .bool Bl]) = .returned (.tuple #[.int .i64 0, .bool false]) by rw [hF.out hB2, hB2])
          clear hB2 ha hs2 LE hF ho
          go_wp2_with fail
          refine (O1.out _).mono ?_
          rintro e w3 ⟨rfl, rfl⟩
          clear O1
          go_wp2_with fail
          go_ret2
          exact ⟨hfin.out.symm, FY.out.1⟩
    · obtain ⟨h1, h2⟩ := hT.out k (by omega) hbk.out
      have hfin := Lib.hid (show Ending.returned (Value.tuple #[.int .i64 V, .bool Bl]) = .returned (.tuple #[.int .i64 (nk k), .bool true]) by rw [h1, h2])
      have hlt' : ¬ ((k : Int) < l.length) := by omega
      clear h1 h2 hT hF hS2 hA hOK hL hnn hA0 LO ON LE
      go_wp2_with fail
      go_ret2
      exact ⟨hfin.out.symm, hbr.out⟩

end Go.Proofs.YteomimeagloofaaDoor
