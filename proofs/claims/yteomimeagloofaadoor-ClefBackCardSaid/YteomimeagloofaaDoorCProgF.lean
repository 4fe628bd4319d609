/- The program's ledgersOf, and the closure over the least number so far. -/
import Derived.Test.YteomimeagloofaaDoorCProgD
import Derived.Test.YteomimeagloofaaDoorCProgE
namespace Go.Proofs.YteomimeagloofaaDoor
open Go.RowKit

set_option maxHeartbeats 4000000 in
theorem cned_any (c : Cl) (hc : okC c) (k0 : Int) (hk0 : 0 ≤ k0 ∧ k0 ≤ 2) (p : Option Addr) (cap : Nat) (l : List Pi3) (hl : l.length ≤ 1000) (hok : ∀ q ∈ l, okP q) (w : World) (T : TabC w) (h : SlP w 3 p l.length cap (flatP l)) :
    Calls Tryd.prog 46 #[cv c, .int .i64 k0, .slice p l.length cap] w (NedPost c l w) := by
  unfold NedPost
  have f1 := h.fit
  have f2 := h.max
  have HS := Lib.hid h
  have PY := Lib.hid (show ∀ q, okP q → onP (atI c q) → ∀ W, Below w.heap.size w W → Calls Tryd.prog 19 #[cv c, .int .i64 k0, pv q] W fun e w' => e = .returned (.tuple #[.int .i64 (atI c q), .int .i64 (accI k0 q), .int .i64 0]) ∧ Below W.heap.size W w' from fun q hq ho W b => by
    have := cpla_any c k0 q W (T.later b)
    unfold PlaPost at this
    rw [pla_ok (keyE_ok hc hk0) hq ho] at this
    exact this)
  have PN := Lib.hid (show ∀ q, okP q → ¬ onP (atI c q) → ∀ W, Below w.heap.size w W → Calls Tryd.prog 19 #[cv c, .int .i64 k0, pv q] W fun e w' => e = .returned (.tuple #[.int .i64 0, .int .i64 0, .int .i64 2]) ∧ Below W.heap.size W w' from fun q hq ho W b => by
    have := cpla_any c k0 q W (T.later b)
    unfold PlaPost at this
    rw [pla_on (keyE_ok hc hk0) hq ho] at this
    exact this)
  have LE := Lib.hid (show ∀ x, onP x → ∀ W, Calls Tryd.prog 14 #[.int .i64 x] W fun e w' => e = .returned (.tuple #[.int .i64 (ledI x), .int .i64 0]) ∧ Below W.heap.size W w' from fun x hx W => by
    have := cled_any x W
    rw [show ledV x = ledI x from if_pos hx, show ledE x = 0 from if_pos hx] at this
    exact this)
  have K := Lib.hid (Two2.made w c 23)
  have hB := Lib.hid (w_alloc (w_refl w) (cO c))
  have hOK := Lib.hid (fun k q (hq : l[k]? = some q) => hok q (List.mem_of_getElem? hq))
  have hS := Lib.hid (fun k q hq => nedK_snoc c l k q hq)
  have hA := Lib.hid (fun k q hq hn => nedB_at c l k q hq hn)
  have hL := Lib.hid (fun k hk => nedK_le c l k hk)
  have hT := Lib.hid (show ∀ k, k = l.length → nedB c (l.take k) = true → nedB c l = true ∧ nedV c l = nedK c l k from fun k hk hb => by
    subst hk
    rw [List.take_length] at hb
    exact ⟨hb, by unfold nedV nedK; rw [if_pos hb, List.take_length]⟩)
  have hF := Lib.hid (show nedB c l = false → nedV c l = 0 from fun hb => by unfold nedV; rw [if_neg (by rw [hb]; decide)])
  have hnn := Lib.hid (fun k => show 0 ≤ nedK c l k from ned_nonneg c _)
  generalize atI c = at_ at *
  generalize nedK c l = nk at *
  generalize nedV c l = V at *
  generalize hBl : nedB c l = Bl at *
  have hS2 := Lib.hid (show ∀ k q, l[k]? = some q → onP (at_ q) → nedB c (l.take k) = true → nedB c (l.take (k + 1)) = true ∧ nk (k + 1) = nk k + ledI (at_ q) from fun k q hq ho hb => by
    have e := hS.out k q hq
    exact ⟨by rw [e.2, hb, decide_eq_true ho]; rfl, e.1⟩)
  have h0 : nk 0 = 0 := by
    have := hL.out 0 rfl (Nat.zero_le _)
    have := hnn.out 0
    omega
  have hb0 : nedB c (l.take 0) = true := rfl
  clear hS hBl hc hk0 h hok T
  generalize hbt : (fun k => nedB c (l.take k)) = bt at *
  have hbe : ∀ k, nedB c (l.take k) = bt k := fun k => congrFun hbt k
  simp only [hbe] at hS2 hL hT hb0
  clear hbt hbe
  obtain ⟨s0, l0⟩ := c
  go_enter Tryd.func46, Tryd.ntmps46
  go_wp2_with fail
  go_loopw [8, 18] (fun s6 s7 wr => ∃ k : Nat, k ≤ l.length ∧ s7 = .int .i64 k ∧ s6 = .int .i64 (nk k) ∧ Hid (bt k = true) ∧ Hid (Two2 wr w.heap.size (s0, l0)) ∧ Hid (Below w.heap.size w wr)) (fun _ s7 _ => l.length - (intOf s7).toNat)
  case atStart => exact ⟨0, Nat.zero_le _, rfl, by rw [h0], Lib.hid hb0, K, hB⟩
  case round =>
    clear K hB h0 hb0
    obtain ⟨k, hk, rfl, rfl, hbk, K, hbr⟩ := hrel
    by_cases hlt : k < l.length
    · have hlt' : (k : Int) < l.length := by omega
      have hk0 : (0 : Int) ≤ k := by omega
      obtain ⟨q, hq⟩ : ∃ q, l[k]? = some q := ⟨l[k], List.getElem?_eq_getElem hlt⟩
      have hokq := hOK.out k q hq
      have hs2 := Lib.hid (hS2.out k q hq)
      have ha := Lib.hid (hA.out k q hq)
      obtain ⟨bl, off, rfl, hbl, q0, q1, q2⟩ := (HS.out.later hbr.out).pit hq
      have hlk := hL.out k hbk.out hk
      have hn0 := hnn.out k
      have P1 := Lib.hid (PY.out q hokq)
      have P2 := Lib.hid (PN.out q hokq)
      generalize at_ q = at0 at *
      generalize accI k0 q = ac at *
      have K1 := Lib.hid (K.out.later (w_alloc (w_refl wr) (pO q)))
      have hB1 := Lib.hid (w_alloc hbr.out (pO q))
      clear hq hS2 hA hOK hL hnn K hbr hT hokq PY PN
      obtain ⟨s, o, a⟩ := q
      obtain ⟨_, k1, k2, _, _⟩ := K1.out
      simp only at k1 k2 q0 q1 q2
      by_cases ho : onP at0
      · have PL := Lib.hid (P1.out ho)
        have L1 := Lib.hid (LE.out at0 ho)
        have hl2 := led_le ho
        have hl0 := led_nonneg (x := at0)
        obtain ⟨hb2, hn2⟩ := hs2.out ho hbk.out
        have HB2 := Lib.hid hb2
        have HN2 := Lib.hid hn2
        clear LE ha hs2 hb2 hn2 ho P1 P2
        generalize ledI at0 = le at *
        generalize nk k = n at *
        go_wp2_with fail
        clear k1 k2 q0 q1 q2
        refine (PL.out _ hB1.out).mono ?_
        rintro e w3 ⟨rfl, hb⟩
        have K2 := Lib.hid (K1.out.later hb)
        have hB2 := Lib.hid (w_below hB1.out hb)
        clear hb PL K1 hB1
        go_wp2_with fail
        refine (L1.out _).mono ?_
        rintro e w4 ⟨rfl, hb⟩
        have K3 := Lib.hid (K2.out.later hb)
        have hB3 := Lib.hid (w_below hB2.out hb)
        clear hb L1 K2 hB2
        go_wp2_with fail
        go_roundw
        case rel => exact ⟨k + 1, by omega, by go_num, by rw [HN2.out], HB2, K3, hB3⟩
        case measure => simp [intOf]; omega
      · have PL := Lib.hid (P2.out ho)
        have hB2 := ha.out ho
        have hfin := Lib.hid (show Ending.returned (Value.tuple #[.int .i64 V, .bool Bl]) = .returned (.tuple #[.int .i64 0, .bool false]) by rw [hF.out hB2, hB2])
        clear hB2 ha hs2 LE hF ho P1 P2
        go_wp2_with fail
        clear k1 k2 q0 q1 q2
        refine (PL.out _ hB1.out).mono ?_
        rintro e w3 ⟨rfl, hb⟩
        have hB2 := Lib.hid (w_below hB1.out hb)
        clear hb PL K1 hB1
        go_wp2_with fail
        go_ret2
        exact ⟨hfin.out.symm, hB2.out⟩
    · obtain ⟨h1, h2⟩ := hT.out k (by omega) hbk.out
      have hfin := Lib.hid (show Ending.returned (Value.tuple #[.int .i64 V, .bool Bl]) = .returned (.tuple #[.int .i64 (nk k), .bool true]) by rw [h1, h2])
      have hlt' : ¬ ((k : Int) < l.length) := by omega
      clear h1 h2 hT hF hS2 hA hOK hL hnn LE PY PN
      go_wp2_with fail
      go_ret2
      exact ⟨hfin.out.symm, hbr.out⟩

theorem run_store_fn (P : Program) (w : World) (a : Addr) (f : Fn) (x y : Array Value) (m : Mode) : (store a (.func f x y) m).run P w = stored P w a (.func f x y) m := run_store P w a _ m rfl
/-- The closure's two cells: whether a number was given; the least one. -/
abbrev lsF (g v : Nat) : Value := .func (.func 49) #[] #[.pointer (some ⟨g, 0, none⟩), .pointer (some ⟨v, 0, none⟩)]
theorem least_any (w : World) : Calls Tryd.prog 44 #[] w fun e w' => e = .returned (.func (.func 49) #[] #[.pointer (some ⟨w.heap.size + 1, 0, none⟩), .pointer (some ⟨w.heap.size, 0, none⟩)]) ∧ w' = (w.alloc (.cells #[.int .i64 0] 3)).alloc (.cells #[.bool false] 4) := by
  go_enter Tryd.func44, Tryd.ntmps44
  go_wp2_with fail
  go_ret
  exact ⟨rfl, rfl⟩
theorem least_new (n v : Int) (bg bv : Nat) (w : World) (h1 : HoldsB w bg 4 #[.bool false]) (h2 : HoldsB w bv 3 #[.int .i64 v]) :
    Calls Tryd.prog 49 #[.int .i64 n, .pointer (some ⟨bg, 0, none⟩), .pointer (some ⟨bv, 0, none⟩)] w fun e w' => e = .returned (.bool true) ∧ w' = (w.setCell ⟨bv, 0, none⟩ (.int .i64 n)).setCell ⟨bg, 0, none⟩ (.bool true) := by
  have g0 := h1.cell (j := 0) rfl
  have gf := h1.frozen 0
  have v0 := h2.cell (j := 0) rfl
  have vf := h2.frozen 0
  have hne : bg ≠ bv := by intro e; subst e; have := h1.symm.trans h2; cases this
  have g1 := (h1.other hne 0 (.int .i64 n)).cell (j := 0) rfl
  have gf1 := (h1.other hne 0 (.int .i64 n)).frozen 0
  clear h1 h2
  go_enter Tryd.func49, Tryd.ntmps49
  go_wp2_with fail
  go_ret
  exact ⟨rfl, rfl⟩
theorem least_less (n v : Int) (hlt : n < v) (bg bv : Nat) (w : World) (h1 : HoldsB w bg 4 #[.bool true]) (h2 : HoldsB w bv 3 #[.int .i64 v]) :
    Calls Tryd.prog 49 #[.int .i64 n, .pointer (some ⟨bg, 0, none⟩), .pointer (some ⟨bv, 0, none⟩)] w fun e w' => e = .returned (.bool true) ∧ w' = (w.setCell ⟨bv, 0, none⟩ (.int .i64 n)).setCell ⟨bg, 0, none⟩ (.bool true) := by
  have g0 := h1.cell (j := 0) rfl
  have gf := h1.frozen 0
  have v0 := h2.cell (j := 0) rfl
  have vf := h2.frozen 0
  have hne : bg ≠ bv := by intro e; subst e; have := h1.symm.trans h2; cases this
  have g1 := (h1.other hne 0 (.int .i64 n)).cell (j := 0) rfl
  have gf1 := (h1.other hne 0 (.int .i64 n)).frozen 0
  clear h1 h2
  go_enter Tryd.func49, Tryd.ntmps49
  go_wp2_with fail
  go_ret
  exact ⟨rfl, rfl⟩
theorem least_more (n v : Int) (hle : v ≤ n) (bg bv : Nat) (w : World) (h1 : HoldsB w bg 4 #[.bool true]) (h2 : HoldsB w bv 3 #[.int .i64 v]) :
    Calls Tryd.prog 49 #[.int .i64 n, .pointer (some ⟨bg, 0, none⟩), .pointer (some ⟨bv, 0, none⟩)] w fun e w' => e = .returned (.bool false) ∧ w = w' := by
  have g0 := h1.cell (j := 0) rfl
  have v0 := h2.cell (j := 0) rfl
  clear h1 h2
  go_enter Tryd.func49, Tryd.ntmps49
  go_wp2_with fail
  go_ret
  exact ⟨rfl, rfl⟩

end Go.Proofs.YteomimeagloofaaDoor
