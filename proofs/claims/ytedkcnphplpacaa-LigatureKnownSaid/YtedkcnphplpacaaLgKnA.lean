/- The chapter's examples of layer 7. -/
import Derived.Test.YtedkcnphplpacaaLgAwake
import Derived.Test.YtedkcnphplpacaaLgProgM
import Derived.Test.YtedkcnphplpacaaLgProgO
namespace Go.Proofs.Ytedkcnphplpacaa
open Go.RowKit

deriving instance DecidableEq for Sg
def setLa (s : Sg) (x : Bool) : Sg := { s with last := x }
theorem flatG_last : ∀ (l : List Sg) (i : Nat) (s : Sg) (x : Bool), l[i]? = some s → (flatG l).set (i * 17 + 7) (.bool x) = flatG (l.set i (setLa s x))
  | [], _, _, _, h => by simp at h
  | a :: t, 0, s, x, h => by
    simp at h; subst h
    show (sgL a ++ flatG t).set 7 _ = sgL (setLa a x) ++ flatG t
    rw [List.set_append_left _ _ (by rw [sgL_len]; decide)]; rfl
  | a :: t, i + 1, s, x, h => by
    have ih := flatG_last t i s x (by simpa using h)
    show (sgL a ++ flatG t).set _ _ = sgL a ++ flatG (t.set i (setLa s x))
    rw [List.set_append_right _ _ (by rw [sgL_len]; omega), sgL_len, show (i + 1) * 17 + 7 - 17 = i * 17 + 7 by omega, ih]

set_option maxHeartbeats 2000000 in
theorem shaped_any (ps vs : List Int) (want : List Sg) (ha : askE ps vs = 0) (hS : shpR ps vs = some want) (p q : Option Addr) (cp cq : Nat) (r : Option Addr) (cr : Nat) (w : World) (hp : SlP w 1 p ps.length cp (ints ps)) (hq : SlP w 1 q vs.length cq (ints vs)) (hr : SlP w 17 r want.length cr (flatG want)) :
    Calls Try.prog 12 #[.slice p ps.length cp, .slice q vs.length cq, .slice r want.length cr] w fun e w' => e = .returned (.bool true) ∧ Below w.heap.size w w' := by
  have PS := Lib.hid (pshape_any ps vs p q cp cq w hp hq)
  unfold ShpP at PS
  rw [show shpE ps vs = 0 by unfold shpE; rw [if_pos ha, hS]; rfl, show shpS ps vs = want by unfold shpS; rw [if_pos ha, hS]; rfl] at PS
  have HR := Lib.hid hr
  have SI := Lib.hid (fun p q cp cq W hp hq => sames_any p q cp cq want W hp hq)
  clear hp hq hr ha hS
  go_enter Try.func12, Try.ntmps12
  go_wp2_with fail
  refine PS.out.mono ?_
  rintro e w1 ⟨v, rfl, ho⟩
  obtain ⟨q1, c1, rfl, hs1⟩ := SlP.of_own ho.row (flatG_len want) (flatG_one want)
  have H1 := Lib.hid hs1
  have H2 := Lib.hid (HR.out.later ho.bel)
  have B := Lib.hid ho.bel
  clear ho hs1 PS HR
  go_wp2_with fail
  refine (SI.out q1 r c1 cr _ H1.out H2.out).mono ?_
  rintro e w2 ⟨rfl, hb⟩
  replace B := Lib.hid (w_below B.out hb)
  clear hb SI H1 H2
  go_wp2_with fail
  go_ret
  exact ⟨rfl, B.out⟩
theorem lcan_any (ps vs : List Int) (b : Bool) (ha : askE ps vs = 0) (hS : decide (0 < cntP ps vs) = b) (p q : Option Addr) (cp cq : Nat) (w : World) (hp : SlP w 1 p ps.length cp (ints ps)) (hq : SlP w 1 q vs.length cq (ints vs)) :
    Calls Try.prog 13 #[.slice p ps.length cp, .bool b, .slice q vs.length cq] w fun e w' => e = .returned (.bool true) ∧ Below w.heap.size w w' := by
  have PS := Lib.hid (pcan_any ps vs p q cp cq w hp hq)
  rw [ha, hS] at PS
  clear hp hq ha hS
  cases b
  all_goals
    go_enter Try.func13, Try.ntmps13
    go_wp2_with fail
    refine PS.out.mono ?_
    rintro e w1 ⟨rfl, hb⟩
    have B := Lib.hid hb
    clear hb PS
    go_wp2_with fail
    go_ret
    exact ⟨rfl, B.out⟩
theorem lsplit_any (ps vs want : List Int) (ha : askE ps vs = 0) (hS : splL ps vs = want) (p q : Option Addr) (cp cq : Nat) (r : Option Addr) (cr : Nat) (w : World) (hp : SlP w 1 p ps.length cp (ints ps)) (hq : SlP w 1 q vs.length cq (ints vs)) (hr : SlP w 1 r want.length cr (ints want)) :
    Calls Try.prog 14 #[.slice p ps.length cp, .slice q vs.length cq, .slice r want.length cr] w fun e w' => e = .returned (.bool true) ∧ Below w.heap.size w w' := by
  obtain ⟨⟨a1, a2⟩, a3⟩ := ask_len ha
  have PS := Lib.hid (psplit0_any ps vs ps.length rfl a1 a2 ha p q cp cq w hp (a3 ▸ hq) a3)
  rw [← a3, a3, hS] at PS
  rw [a3]
  have HR := Lib.hid hr
  have SI := Lib.hid (fun p q cp cq W hp hq => samei_any p q cp cq want W hp hq)
  clear hp hq hr ha hS
  generalize ps.length = n at *
  clear a3
  go_enter Try.func14, Try.ntmps14
  go_wp2_with fail
  refine PS.out.mono ?_
  rintro e w1 ⟨v, rfl, ho⟩
  obtain ⟨q1, c1, rfl, hs1⟩ := SlP.of_own ho.row (ints_len want) (ints_one want)
  have H1 := Lib.hid hs1
  have H2 := Lib.hid (HR.out.later ho.bel)
  have B := Lib.hid ho.bel
  clear ho hs1 PS HR
  go_wp2_with fail
  refine (SI.out q1 r c1 cr _ H1.out H2.out).mono ?_
  rintro e w2 ⟨rfl, hb⟩
  replace B := Lib.hid (w_below B.out hb)
  clear hb SI H1 H2
  go_wp2_with fail
  go_ret
  exact ⟨rfl, B.out⟩

abbrev rgt : List Sg := (drawG [2, 4] 0 []).set 1 (setSt ((drawG [2, 4] 0 []).getD 1 zS) 3)
abbrev bth : List Sg := (drawG [4, 2] 0 []).set 0 (setLa ((drawG [4, 2] 0 []).getD 0 zS) true)
theorem own_ptr {W w' : World} {n : Nat} {l : List Sg} {e : Ending} {v : Value} (e1 : e = .returned v) (h : OwnL W w' 30 17 v n (flatG l)) (hn : 0 < n) : ∃ q c, e = .returned (.slice (some ⟨q, 0, none⟩) n c) ∧ OwnL W w' 30 17 (.slice (some ⟨q, 0, none⟩) n c) n (flatG l) := by
  rcases h.row.2 with ⟨rfl, h0⟩ | ⟨g, cap, cur, rfl, _⟩
  · exact absurd h0 (Nat.ne_of_gt hn)
  · exact ⟨g, cap, e1, h⟩
theorem own_slr {w' : World} {base q c n : Nat} {l : List Sg} (h : w'.ownsRow base 30 17 (.slice (some ⟨q, 0, none⟩) n c) n (flatG l)) (hl : l.length = n) : SlP w' 17 (some ⟨q, 0, none⟩) n c (flatG l) := by
  subst hl
  obtain ⟨_, _, e, k⟩ := SlP.of_own h (flatG_len l) (flatG_one l)
  injection e with e1 _ e2
  subst e1 e2
  exact k
theorem own_sl {W w' : World} {q c n : Nat} {l : List Sg} (h : OwnL W w' 30 17 (.slice (some ⟨q, 0, none⟩) n c) n (flatG l)) (hl : l.length = n) : SlP w' 17 (some ⟨q, 0, none⟩) n c (flatG l) := own_slr h.row hl
theorem own_cell {W w' : World} {q c n j : Nat} {cs : List Value} {v : Value} (h : OwnL W w' 30 17 (.slice (some ⟨q, 0, none⟩) n c) n cs) (hj : cs[j]? = some v) : w'.cell? ⟨q, j, none⟩ = some v := by
  have hlt : j < n * 17 := by rw [← h.row.1]; exact (List.getElem?_eq_some_iff.1 hj).1
  rw [h.row.cellAt j hlt, hj]
theorem own_frz {W w' : World} {q c n : Nat} {cs : List Value} (h : OwnL W w' 30 17 (.slice (some ⟨q, 0, none⟩) n c) n cs) (j : Nat) : w'.frozen? ⟨q, j, none⟩ = false := by
  rcases h.row.2 with ⟨e, _⟩ | ⟨g, cap, cur, e, _, hg, _⟩
  · cases e
  · injection e with e _ _
    injection e with e
    injection e with e _ _
    subst e
    exact HoldsB.frozen hg j
theorem own_base_le {W w' : World} {q c n : Nat} {cs : List Value} (h : OwnL W w' 30 17 (.slice (some ⟨q, 0, none⟩) n c) n cs) : W.heap.size ≤ q := by
  rcases h.row.2 with ⟨e, _⟩ | ⟨g, cap, cur, e, hb, _⟩
  · cases e
  · injection e with e _ _
    injection e with e
    injection e with e _ _
    subst e
    exact hb
theorem own_bel {W w' : World} {q c n : Nat} {cs : List Value} (h : OwnL W w' 30 17 (.slice (some ⟨q, 0, none⟩) n c) n cs) (j : Nat) (u : Value) : Below W.heap.size W (w'.setCell ⟨q, j, none⟩ u) := w_put h.bel (own_base_le h) j u
theorem own_belK {w W w' : World} {q c n : Nat} {cs : List Value} (k : Below w.heap.size w W) (h : OwnL W w' 30 17 (.slice (some ⟨q, 0, none⟩) n c) n cs) (j : Nat) (u : Value) : Below w.heap.size w (w'.setCell ⟨q, j, none⟩ u) := w_below k (own_bel h j u)
theorem own_nb {W w' : World} {q c n b : Nat} {zs : List Int} {cs : List Value} (k : Nb W b zs) (h : OwnL W w' 30 17 (.slice (some ⟨q, 0, none⟩) n c) n cs) (j : Nat) (u : Value) : Nb (w'.setCell ⟨q, j, none⟩ u) b zs := k.later (own_bel h j u)

theorem kd0 : ∀ b W, Nb W b [2, 4] → Calls Try.prog 10 #[.slice (some ⟨b, 0, none⟩) 2 2, .int .i64 0, .slice none 0 0] W fun e w' => ∃ q c, e = .returned (.slice (some ⟨q, 0, none⟩) 2 c) ∧ OwnL W w' 30 17 (.slice (some ⟨q, 0, none⟩) 2 c) 2 (flatG (drawG [2, 4] 0 [])) := fun b W h => (drawn_any [2, 4] 0 [] (by decide) _ _ none 0 W (sl_lit h (by decide)) (sl_nil W)).mono (fun e w' k => by obtain ⟨v, e1, ho⟩ := k; exact own_ptr e1 ho (by decide))
theorem kd1 : ∀ b W, Nb W b [4, 2] → Calls Try.prog 10 #[.slice (some ⟨b, 0, none⟩) 2 2, .int .i64 2, .slice none 0 0] W fun e w' => ∃ q c, e = .returned (.slice (some ⟨q, 0, none⟩) 2 c) ∧ OwnL W w' 30 17 (.slice (some ⟨q, 0, none⟩) 2 c) 2 (flatG (drawG [4, 2] 2 [])) := fun b W h => (drawn_any [4, 2] 2 [] (by decide) _ _ none 0 W (sl_lit h (by decide)) (sl_nil W)).mono (fun e w' k => by obtain ⟨v, e1, ho⟩ := k; exact own_ptr e1 ho (by decide))
theorem kd2 : ∀ q c b W, SlP W 17 q 2 c (flatG (drawG [4, 2] 2 [])) → Nb W b [3, 2] → Calls Try.prog 11 #[.slice q 2 c, .slice (some ⟨b, 0, none⟩) 2 2] W fun e w' => e = .returned (.bool true) ∧ Below W.heap.size W w' := fun q c b W h h2 => reads_any (drawG [4, 2] 2 []) (by decide) [3, 2] (by decide +kernel) (by decide +kernel) q c _ _ W h (sl_lit h2 (by decide))
theorem kd3 : ∀ b W, Nb W b [4, 2] → Calls Try.prog 10 #[.slice (some ⟨b, 0, none⟩) 2 2, .int .i64 1, .slice none 0 0] W fun e w' => ∃ q c, e = .returned (.slice (some ⟨q, 0, none⟩) 2 c) ∧ OwnL W w' 30 17 (.slice (some ⟨q, 0, none⟩) 2 c) 2 (flatG (drawG [4, 2] 1 [])) := fun b W h => (drawn_any [4, 2] 1 [] (by decide) _ _ none 0 W (sl_lit h (by decide)) (sl_nil W)).mono (fun e w' k => by obtain ⟨v, e1, ho⟩ := k; exact own_ptr e1 ho (by decide))
theorem kd4 : ∀ q c b W, SlP W 17 q 2 c (flatG (drawG [4, 2] 1 [])) → Nb W b [4, 4] → Calls Try.prog 11 #[.slice q 2 c, .slice (some ⟨b, 0, none⟩) 2 2] W fun e w' => e = .returned (.bool true) ∧ Below W.heap.size W w' := fun q c b W h h2 => reads_any (drawG [4, 2] 1 []) (by decide) [4, 4] (by decide +kernel) (by decide +kernel) q c _ _ W h (sl_lit h2 (by decide))
theorem kd5 : ∀ b d W, Nb W b [4, 2] → Nb W d [0] → Calls Try.prog 10 #[.slice (some ⟨b, 0, none⟩) 2 2, .int .i64 0, .slice (some ⟨d, 0, none⟩) 1 1] W fun e w' => ∃ q c, e = .returned (.slice (some ⟨q, 0, none⟩) 2 c) ∧ OwnL W w' 30 17 (.slice (some ⟨q, 0, none⟩) 2 c) 2 (flatG (drawG [4, 2] 0 [0])) := fun b d W h h2 => (drawn_any [4, 2] 0 [0] (by decide) _ _ _ _ W (sl_lit h (by decide)) (sl_lit h2 (by decide))).mono (fun e w' k => by obtain ⟨v, e1, ho⟩ := k; exact own_ptr e1 ho (by decide))
theorem kd6 : ∀ q c b W, SlP W 17 q 2 c (flatG (drawG [4, 2] 0 [0])) → Nb W b [2, 3] → Calls Try.prog 11 #[.slice q 2 c, .slice (some ⟨b, 0, none⟩) 2 2] W fun e w' => e = .returned (.bool true) ∧ Below W.heap.size W w' := fun q c b W h h2 => reads_any (drawG [4, 2] 0 [0]) (by decide) [2, 3] (by decide +kernel) (by decide +kernel) q c _ _ W h (sl_lit h2 (by decide))
theorem kd7 : ∀ b W, Nb W b [2, 4] → Calls Try.prog 10 #[.slice (some ⟨b, 0, none⟩) 2 2, .int .i64 0, .slice none 0 0] W fun e w' => ∃ q c, e = .returned (.slice (some ⟨q, 0, none⟩) 2 c) ∧ OwnL W w' 30 17 (.slice (some ⟨q, 0, none⟩) 2 c) 2 (flatG (drawG [2, 4] 0 [])) := fun b W h => (drawn_any [2, 4] 0 [] (by decide) _ _ none 0 W (sl_lit h (by decide)) (sl_nil W)).mono (fun e w' k => by obtain ⟨v, e1, ho⟩ := k; exact own_ptr e1 ho (by decide))
theorem kd8 : ∀ q c b W, SlP W 17 q 2 c (flatG (drawG [2, 4] 0 [])) → Nb W b [3, 3] → Calls Try.prog 11 #[.slice q 2 c, .slice (some ⟨b, 0, none⟩) 2 2] W fun e w' => e = .returned (.bool true) ∧ Below W.heap.size W w' := fun q c b W h h2 => reads_any (drawG [2, 4] 0 []) (by decide) [3, 3] (by decide +kernel) (by decide +kernel) q c _ _ W h (sl_lit h2 (by decide))
theorem kd9 : ∀ b W, Nb W b [2, 4] → Calls Try.prog 10 #[.slice (some ⟨b, 0, none⟩) 2 2, .int .i64 2, .slice none 0 0] W fun e w' => ∃ q c, e = .returned (.slice (some ⟨q, 0, none⟩) 2 c) ∧ OwnL W w' 30 17 (.slice (some ⟨q, 0, none⟩) 2 c) 2 (flatG (drawG [2, 4] 2 [])) := fun b W h => (drawn_any [2, 4] 2 [] (by decide) _ _ none 0 W (sl_lit h (by decide)) (sl_nil W)).mono (fun e w' k => by obtain ⟨v, e1, ho⟩ := k; exact own_ptr e1 ho (by decide))
theorem kd10 : ∀ q c b W, SlP W 17 q 2 c (flatG (drawG [2, 4] 2 [])) → Nb W b [2, 3] → Calls Try.prog 11 #[.slice q 2 c, .slice (some ⟨b, 0, none⟩) 2 2] W fun e w' => e = .returned (.bool true) ∧ Below W.heap.size W w' := fun q c b W h h2 => reads_any (drawG [2, 4] 2 []) (by decide) [2, 3] (by decide +kernel) (by decide +kernel) q c _ _ W h (sl_lit h2 (by decide))
theorem kd11 : ∀ q c b W, SlP W 17 q 2 c (flatG rgt) → Nb W b [3, 2] → Calls Try.prog 11 #[.slice q 2 c, .slice (some ⟨b, 0, none⟩) 2 2] W fun e w' => e = .returned (.bool true) ∧ Below W.heap.size W w' := fun q c b W h h2 => reads_any rgt (by decide) [3, 2] (by decide +kernel) (by decide +kernel) q c _ _ W h (sl_lit h2 (by decide))
theorem kd12 : ∀ b W, Nb W b [4, 2, 3] → Calls Try.prog 10 #[.slice (some ⟨b, 0, none⟩) 3 3, .int .i64 0, .slice none 0 0] W fun e w' => ∃ q c, e = .returned (.slice (some ⟨q, 0, none⟩) 3 c) ∧ OwnL W w' 30 17 (.slice (some ⟨q, 0, none⟩) 3 c) 3 (flatG (drawG [4, 2, 3] 0 [])) := fun b W h => (drawn_any [4, 2, 3] 0 [] (by decide) _ _ none 0 W (sl_lit h (by decide)) (sl_nil W)).mono (fun e w' k => by obtain ⟨v, e1, ho⟩ := k; exact own_ptr e1 ho (by decide))
theorem kd13 : ∀ q c b W, SlP W 17 q 3 c (flatG (drawG [4, 2, 3] 0 [])) → Nb W b [2, 3, 3] → Calls Try.prog 11 #[.slice q 3 c, .slice (some ⟨b, 0, none⟩) 3 3] W fun e w' => e = .returned (.bool true) ∧ Below W.heap.size W w' := fun q c b W h h2 => reads_any (drawG [4, 2, 3] 0 []) (by decide) [2, 3, 3] (by decide +kernel) (by decide +kernel) q c _ _ W h (sl_lit h2 (by decide))
theorem kd14 : ∀ b W, Nb W b [4, 2, 3] → Calls Try.prog 10 #[.slice (some ⟨b, 0, none⟩) 3 3, .int .i64 1, .slice none 0 0] W fun e w' => ∃ q c, e = .returned (.slice (some ⟨q, 0, none⟩) 3 c) ∧ OwnL W w' 30 17 (.slice (some ⟨q, 0, none⟩) 3 c) 3 (flatG (drawG [4, 2, 3] 1 [])) := fun b W h => (drawn_any [4, 2, 3] 1 [] (by decide) _ _ none 0 W (sl_lit h (by decide)) (sl_nil W)).mono (fun e w' k => by obtain ⟨v, e1, ho⟩ := k; exact own_ptr e1 ho (by decide))
theorem kd15 : ∀ q c b W, SlP W 17 q 3 c (flatG (drawG [4, 2, 3] 1 [])) → Nb W b [4, 4, 3] → Calls Try.prog 11 #[.slice q 3 c, .slice (some ⟨b, 0, none⟩) 3 3] W fun e w' => e = .returned (.bool true) ∧ Below W.heap.size W w' := fun q c b W h h2 => reads_any (drawG [4, 2, 3] 1 []) (by decide) [4, 4, 3] (by decide +kernel) (by decide +kernel) q c _ _ W h (sl_lit h2 (by decide))
theorem kd16 : ∀ b W, Nb W b [4, 2] → Calls Try.prog 10 #[.slice (some ⟨b, 0, none⟩) 2 2, .int .i64 2, .slice none 0 0] W fun e w' => ∃ q c, e = .returned (.slice (some ⟨q, 0, none⟩) 2 c) ∧ OwnL W w' 30 17 (.slice (some ⟨q, 0, none⟩) 2 c) 2 (flatG (drawG [4, 2] 2 [])) := fun b W h => (drawn_any [4, 2] 2 [] (by decide) _ _ none 0 W (sl_lit h (by decide)) (sl_nil W)).mono (fun e w' k => by obtain ⟨v, e1, ho⟩ := k; exact own_ptr e1 ho (by decide))
theorem kd17 : ∀ b d q c W, Nb W b [4, 2] → Nb W d [3, 2] → SlP W 17 q 2 c (flatG (drawG [4, 2] 2 [])) → Calls Try.prog 12 #[.slice (some ⟨b, 0, none⟩) 2 2, .slice (some ⟨d, 0, none⟩) 2 2, .slice q 2 c] W fun e w' => e = .returned (.bool true) ∧ Below W.heap.size W w' := fun b d q c W h h2 h3 => shaped_any [4, 2] [3, 2] (drawG [4, 2] 2 []) (by decide +kernel) (by decide +kernel) _ _ _ _ q c W (sl_lit h (by decide)) (sl_lit h2 (by decide)) h3
theorem kd18 : ∀ b d W, Nb W b [4, 2] → Nb W d [0] → Calls Try.prog 10 #[.slice (some ⟨b, 0, none⟩) 2 2, .int .i64 2, .slice (some ⟨d, 0, none⟩) 1 1] W fun e w' => ∃ q c, e = .returned (.slice (some ⟨q, 0, none⟩) 2 c) ∧ OwnL W w' 30 17 (.slice (some ⟨q, 0, none⟩) 2 c) 2 (flatG (drawG [4, 2] 2 [0])) := fun b d W h h2 => (drawn_any [4, 2] 2 [0] (by decide) _ _ _ _ W (sl_lit h (by decide)) (sl_lit h2 (by decide))).mono (fun e w' k => by obtain ⟨v, e1, ho⟩ := k; exact own_ptr e1 ho (by decide))
theorem kd19 : ∀ b d q c W, Nb W b [4, 2] → Nb W d [3, 3] → SlP W 17 q 2 c (flatG (drawG [4, 2] 2 [0])) → Calls Try.prog 12 #[.slice (some ⟨b, 0, none⟩) 2 2, .slice (some ⟨d, 0, none⟩) 2 2, .slice q 2 c] W fun e w' => e = .returned (.bool true) ∧ Below W.heap.size W w' := fun b d q c W h h2 h3 => shaped_any [4, 2] [3, 3] (drawG [4, 2] 2 [0]) (by decide +kernel) (by decide +kernel) _ _ _ _ q c W (sl_lit h (by decide)) (sl_lit h2 (by decide)) h3
theorem kd20 : ∀ b d q c W, Nb W b [2, 4] → Nb W d [3, 2] → SlP W 17 q 2 c (flatG (rgt)) → Calls Try.prog 12 #[.slice (some ⟨b, 0, none⟩) 2 2, .slice (some ⟨d, 0, none⟩) 2 2, .slice q 2 c] W fun e w' => e = .returned (.bool true) ∧ Below W.heap.size W w' := fun b d q c W h h2 h3 => shaped_any [2, 4] [3, 2] (rgt) (by decide +kernel) (by decide +kernel) _ _ _ _ q c W (sl_lit h (by decide)) (sl_lit h2 (by decide)) h3
theorem kd21 : ∀ b d W, Nb W b [4, 2] → Nb W d [4, 4] → Calls Try.prog 13 #[.slice (some ⟨b, 0, none⟩) 2 2, .bool true, .slice (some ⟨d, 0, none⟩) 2 2] W fun e w' => e = .returned (.bool true) ∧ Below W.heap.size W w' := fun b d W h h2 => lcan_any [4, 2] [4, 4] true (by decide +kernel) (by decide +kernel) _ _ _ _ W (sl_lit h (by decide)) (sl_lit h2 (by decide))
theorem kd22 : ∀ b d W, Nb W b [4, 2] → Nb W d [4, 3] → Calls Try.prog 13 #[.slice (some ⟨b, 0, none⟩) 2 2, .bool false, .slice (some ⟨d, 0, none⟩) 2 2] W fun e w' => e = .returned (.bool true) ∧ Below W.heap.size W w' := fun b d W h h2 => lcan_any [4, 2] [4, 3] false (by decide +kernel) (by decide +kernel) _ _ _ _ W (sl_lit h (by decide)) (sl_lit h2 (by decide))
theorem kd23 : ∀ b d W, Nb W b [4, 4] → Nb W d [3, 3] → Calls Try.prog 13 #[.slice (some ⟨b, 0, none⟩) 2 2, .bool false, .slice (some ⟨d, 0, none⟩) 2 2] W fun e w' => e = .returned (.bool true) ∧ Below W.heap.size W w' := fun b d W h h2 => lcan_any [4, 4] [3, 3] false (by decide +kernel) (by decide +kernel) _ _ _ _ W (sl_lit h (by decide)) (sl_lit h2 (by decide))
theorem kd24 : ∀ b d W, Nb W b [2, 4] → Nb W d [5, 5] → Calls Try.prog 13 #[.slice (some ⟨b, 0, none⟩) 2 2, .bool false, .slice (some ⟨d, 0, none⟩) 2 2] W fun e w' => e = .returned (.bool true) ∧ Below W.heap.size W w' := fun b d W h h2 => lcan_any [2, 4] [5, 5] false (by decide +kernel) (by decide +kernel) _ _ _ _ W (sl_lit h (by decide)) (sl_lit h2 (by decide))
theorem kd25 : ∀ b d g W, Nb W b [4, 2, 3] → Nb W d [4, 4, 3] → Nb W g [3] → Calls Try.prog 14 #[.slice (some ⟨b, 0, none⟩) 3 3, .slice (some ⟨d, 0, none⟩) 3 3, .slice (some ⟨g, 0, none⟩) 1 1] W fun e w' => e = .returned (.bool true) ∧ Below W.heap.size W w' := fun b d g W h h2 h3 => lsplit_any [4, 2, 3] [4, 4, 3] [3] (by decide +kernel) (by decide +kernel) _ _ _ _ _ _ W (sl_lit h (by decide)) (sl_lit h2 (by decide)) (sl_lit h3 (by decide))
theorem kd26 : ∀ b d g W, Nb W b [4, 4, 2] → Nb W d [3, 3, 2] → Nb W g [1, 2] → Calls Try.prog 14 #[.slice (some ⟨b, 0, none⟩) 3 3, .slice (some ⟨d, 0, none⟩) 3 3, .slice (some ⟨g, 0, none⟩) 2 2] W fun e w' => e = .returned (.bool true) ∧ Below W.heap.size W w' := fun b d g W h h2 h3 => lsplit_any [4, 4, 2] [3, 3, 2] [1, 2] (by decide +kernel) (by decide +kernel) _ _ _ _ _ _ W (sl_lit h (by decide)) (sl_lit h2 (by decide)) (sl_lit h3 (by decide))
theorem kd27 : ∀ b d g W, Nb W b [2, 4] → Nb W d [5, 5] → Nb W g [1, 1] → Calls Try.prog 14 #[.slice (some ⟨b, 0, none⟩) 2 2, .slice (some ⟨d, 0, none⟩) 2 2, .slice (some ⟨g, 0, none⟩) 2 2] W fun e w' => e = .returned (.bool true) ∧ Below W.heap.size W w' := fun b d g W h h2 h3 => lsplit_any [2, 4] [5, 5] [1, 1] (by decide +kernel) (by decide +kernel) _ _ _ _ _ _ W (sl_lit h (by decide)) (sl_lit h2 (by decide)) (sl_lit h3 (by decide))
theorem kd28 : ∀ b W, Nb W b [4, 2] → Calls Try.prog 10 #[.slice (some ⟨b, 0, none⟩) 2 2, .int .i64 0, .slice none 0 0] W fun e w' => ∃ q c, e = .returned (.slice (some ⟨q, 0, none⟩) 2 c) ∧ OwnL W w' 30 17 (.slice (some ⟨q, 0, none⟩) 2 c) 2 (flatG (drawG [4, 2] 0 [])) := fun b W h => (drawn_any [4, 2] 0 [] (by decide) _ _ none 0 W (sl_lit h (by decide)) (sl_nil W)).mono (fun e w' k => by obtain ⟨v, e1, ho⟩ := k; exact own_ptr e1 ho (by decide))
theorem kd29 : ∀ b W, Nb W b [4] → Calls Try.prog 10 #[.slice (some ⟨b, 0, none⟩) 1 1, .int .i64 0, .slice none 0 0] W fun e w' => ∃ q c, e = .returned (.slice (some ⟨q, 0, none⟩) 1 c) ∧ OwnL W w' 30 17 (.slice (some ⟨q, 0, none⟩) 1 c) 1 (flatG (drawG [4] 0 [])) := fun b W h => (drawn_any [4] 0 [] (by decide) _ _ none 0 W (sl_lit h (by decide)) (sl_nil W)).mono (fun e w' k => by obtain ⟨v, e1, ho⟩ := k; exact own_ptr e1 ho (by decide))
theorem kd30 : ∀ q c W, SlP W 17 q 1 c (flatG (drawG [4] 0 [])) → Calls Try.prog 15 #[.slice q 1 c] W fun e w' => e = .returned (.tuple #[.int .i64 11, .int .i64 0]) ∧ Below W.heap.size W w' := fun q c W h => by
  have := pchk_any (drawG [4] 0 []) (by decide) q c W h
  rw [show chkG (drawG [4] 0 []) = (11, 0) by decide +kernel] at this
  exact this
theorem kd31 : ∀ b W, Nb W b [4, 4] → Calls Try.prog 10 #[.slice (some ⟨b, 0, none⟩) 2 2, .int .i64 0, .slice none 0 0] W fun e w' => ∃ q c, e = .returned (.slice (some ⟨q, 0, none⟩) 2 c) ∧ OwnL W w' 30 17 (.slice (some ⟨q, 0, none⟩) 2 c) 2 (flatG (drawG [4, 4] 0 [])) := fun b W h => (drawn_any [4, 4] 0 [] (by decide) _ _ none 0 W (sl_lit h (by decide)) (sl_nil W)).mono (fun e w' k => by obtain ⟨v, e1, ho⟩ := k; exact own_ptr e1 ho (by decide))
theorem kd32 : ∀ q c W, SlP W 17 q 2 c (flatG (drawG [4, 4] 0 [])) → Calls Try.prog 15 #[.slice q 2 c] W fun e w' => e = .returned (.tuple #[.int .i64 3, .int .i64 1]) ∧ Below W.heap.size W w' := fun q c W h => by
  have := pchk_any (drawG [4, 4] 0 []) (by decide) q c W h
  rw [show chkG (drawG [4, 4] 0 []) = (3, 1) by decide +kernel] at this
  exact this
theorem kd33 : ∀ q c W, SlP W 17 q 2 c (flatG (bth)) → Calls Try.prog 15 #[.slice q 2 c] W fun e w' => e = .returned (.tuple #[.int .i64 3, .int .i64 0]) ∧ Below W.heap.size W w' := fun q c W h => by
  have := pchk_any (bth) (by decide) q c W h
  rw [show chkG (bth) = (3, 0) by decide +kernel] at this
  exact this

end Go.Proofs.Ytedkcnphplpacaa
