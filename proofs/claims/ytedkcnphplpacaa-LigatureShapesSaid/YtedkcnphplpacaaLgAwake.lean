/- The chapter's examples that every statement asks for. -/
import Derived.Test.YtedkcnphplpacaaLgDrawn
namespace Go.Proofs.Ytedkcnphplpacaa
open Go.RowKit

theorem sl_lit {w : World} {b : Nat} {zs : List Int} (h : HoldsB w b 3 (ints zs).toArray) (hn : zs.length ≤ 1000) : SlP w 1 (some ⟨b, 0, none⟩) zs.length zs.length (ints zs) := by
  refine ⟨by simp, Nat.le_refl _, by omega, fun e => (by cases e), ints_one _, fun _ => ⟨b, 0, rfl, h.lt, fun j u hj => ?_⟩⟩
  rw [Nat.zero_add]
  refine h.cell ?_
  rw [List.getElem?_toArray]; exact hj
theorem sl_nil (w : World) : SlP w 1 none 0 0 (ints []) := ⟨rfl, by omega, by omega, fun _ => rfl, by simp, fun h => by omega⟩
theorem own_sg {w W : World} {n : Nat} {l : List Sg} {v : Value} (h : OwnL w W 30 17 v n (flatG l)) (hl : l.length = n) : ∃ q c, v = .slice q n c ∧ SlP W 17 q n c (flatG l) := by
  subst hl
  exact SlP.of_own h.row (flatG_len l) (flatG_one l)
/-- Block b holds these numbers. -/
abbrev Nb (w : World) (b : Nat) (zs : List Int) : Prop := HoldsB w b 3 (ints zs).toArray
theorem nb_new (w : World) (zs : List Int) : Nb (w.alloc (.cells (ints zs).toArray 3)) w.heap.size zs := HoldsB.new w _ _

set_option maxRecDepth 100000 in
set_option maxHeartbeats 4000000 in
theorem lawake_any (w : World) : Calls Try.prog 16 #[] w fun e w' => e = .returned (.bool true) ∧ Below w.heap.size w w' := by
  have D1 := Lib.hid (show ∀ b W, Nb W b [4, 2] → Calls Try.prog 10 #[.slice (some ⟨b, 0, none⟩) 2 2, .int .i64 0, .slice none 0 0] W fun e w' => ∃ v, e = .returned v ∧ OwnL W w' 30 17 v 2 (flatG (drawG [4, 2] 0 [])) from fun b W h => drawn_any [4, 2] 0 [] (by decide) _ _ none 0 W (sl_lit h (by decide)) (sl_nil W))
  have D2 := Lib.hid (show ∀ b c W, Nb W b [4, 2] → Nb W c [0] → Calls Try.prog 10 #[.slice (some ⟨b, 0, none⟩) 2 2, .int .i64 2, .slice (some ⟨c, 0, none⟩) 1 1] W fun e w' => ∃ v, e = .returned v ∧ OwnL W w' 30 17 v 2 (flatG (drawG [4, 2] 2 [0])) from fun b c W h h2 => drawn_any [4, 2] 2 [0] (by decide) _ _ _ _ W (sl_lit h (by decide)) (sl_lit h2 (by decide)))
  have D3 := Lib.hid (show ∀ b W, Nb W b [2, 4] → Calls Try.prog 10 #[.slice (some ⟨b, 0, none⟩) 2 2, .int .i64 1, .slice none 0 0] W fun e w' => ∃ v, e = .returned v ∧ OwnL W w' 30 17 v 2 (flatG (drawG [2, 4] 1 [])) from fun b W h => drawn_any [2, 4] 1 [] (by decide) _ _ none 0 W (sl_lit h (by decide)) (sl_nil W))
  have R1 := Lib.hid (show ∀ q c b W, SlP W 17 q 2 c (flatG (drawG [4, 2] 0 [])) → Nb W b [2, 2] → Calls Try.prog 11 #[.slice q 2 c, .slice (some ⟨b, 0, none⟩) 2 2] W fun e w' => e = .returned (.bool true) ∧ Below W.heap.size W w' from fun q c b W h h2 => reads_any (drawG [4, 2] 0 []) (by decide) [2, 2] (by decide) (by decide) q c _ _ W h (sl_lit h2 (by decide)))
  have R2 := Lib.hid (show ∀ q c b W, SlP W 17 q 2 c (flatG (drawG [4, 2] 2 [0])) → Nb W b [3, 3] → Calls Try.prog 11 #[.slice q 2 c, .slice (some ⟨b, 0, none⟩) 2 2] W fun e w' => e = .returned (.bool true) ∧ Below W.heap.size W w' from fun q c b W h h2 => reads_any (drawG [4, 2] 2 [0]) (by decide) [3, 3] (by decide) (by decide) q c _ _ W h (sl_lit h2 (by decide)))
  have R3 := Lib.hid (show ∀ q c b W, SlP W 17 q 2 c (flatG (drawG [2, 4] 1 [])) → Nb W b [4, 4] → Calls Try.prog 11 #[.slice q 2 c, .slice (some ⟨b, 0, none⟩) 2 2] W fun e w' => e = .returned (.bool true) ∧ Below W.heap.size W w' from fun q c b W h h2 => reads_any (drawG [2, 4] 1 []) (by decide) [4, 4] (by decide) (by decide) q c _ _ W h (sl_lit h2 (by decide)))
  have B := Lib.hid (w_alloc (w_alloc (w_refl w) (.cells (ints [4, 2]).toArray 3)) (.cells (ints [2, 4]).toArray 3))
  have N1 := Lib.hid ((nb_new w [4, 2]).al (.cells (ints [2, 4]).toArray 3))
  have N2 := Lib.hid (show Nb ((w.alloc (.cells (ints [4, 2]).toArray 3)).alloc (.cells (ints [2, 4]).toArray 3)) (w.heap.size + 1) [2, 4] from by
    have := nb_new (w.alloc (.cells (ints [4, 2]).toArray 3)) [2, 4]
    rwa [World.size_alloc] at this)
  go_enter Try.func16, Try.ntmps16
  go_wp2_with fail
  refine (D1.out _ _ N1.out).mono ?_
  rintro e w1 ⟨v, rfl, ho⟩
  obtain ⟨q, c, rfl, hs⟩ := own_sg ho rfl
  replace B := Lib.hid (w_below B.out ho.bel)
  replace N1 := Lib.hid (N1.out.later ho.bel)
  replace N2 := Lib.hid (N2.out.later ho.bel)
  have LT := Lib.hid (nb_new w1 [2, 2])
  have HS := Lib.hid (hs.later (w_alloc (w_refl w1) (.cells (ints [2, 2]).toArray 3)))
  replace B := Lib.hid (w_alloc B.out (.cells (ints [2, 2]).toArray 3))
  replace N1 := Lib.hid (N1.out.al (.cells (ints [2, 2]).toArray 3))
  replace N2 := Lib.hid (N2.out.al (.cells (ints [2, 2]).toArray 3))
  clear ho hs D1
  go_wp2_with fail
  refine (R1.out q c _ _ HS.out LT.out).mono ?_
  rintro e w2 ⟨rfl, hb⟩
  replace B := Lib.hid (w_alloc (w_below B.out hb) (.cells (ints [0]).toArray 3))
  replace N1 := Lib.hid ((N1.out.later hb).al (.cells (ints [0]).toArray 3))
  replace N2 := Lib.hid ((N2.out.later hb).al (.cells (ints [0]).toArray 3))
  replace LT := Lib.hid (nb_new w2 [0])
  clear hb R1 HS
  go_wp2_with fail
  refine (D2.out _ _ _ N1.out LT.out).mono ?_
  rintro e w3 ⟨v, rfl, ho⟩
  obtain ⟨q2, c2, rfl, hs⟩ := own_sg ho rfl
  replace B := Lib.hid (w_alloc (w_below B.out ho.bel) (.cells (ints [3, 3]).toArray 3))
  replace N2 := Lib.hid ((N2.out.later ho.bel).al (.cells (ints [3, 3]).toArray 3))
  replace LT := Lib.hid (nb_new w3 [3, 3])
  have HS := Lib.hid (hs.later (w_alloc (w_refl w3) (.cells (ints [3, 3]).toArray 3)))
  clear ho hs D2 N1
  go_wp2_with fail
  refine (R2.out q2 c2 _ _ HS.out LT.out).mono ?_
  rintro e w4 ⟨rfl, hb⟩
  replace B := Lib.hid (w_below B.out hb)
  replace N2 := Lib.hid (N2.out.later hb)
  clear hb R2 HS LT
  go_wp2_with fail
  refine (D3.out _ _ N2.out).mono ?_
  rintro e w5 ⟨v, rfl, ho⟩
  obtain ⟨q3, c3, rfl, hs⟩ := own_sg ho rfl
  replace B := Lib.hid (w_alloc (w_below B.out ho.bel) (.cells (ints [4, 4]).toArray 3))
  have LT := Lib.hid (nb_new w5 [4, 4])
  have HS := Lib.hid (hs.later (w_alloc (w_refl w5) (.cells (ints [4, 4]).toArray 3)))
  clear ho hs D3 N2
  go_wp2_with fail
  refine (R3.out q3 c3 _ _ HS.out LT.out).mono ?_
  rintro e w6 ⟨rfl, hb⟩
  replace B := Lib.hid (w_below B.out hb)
  clear hb R3 HS LT
  go_wp2_with fail
  go_ret
  exact ⟨rfl, B.out⟩

end Go.Proofs.Ytedkcnphplpacaa
