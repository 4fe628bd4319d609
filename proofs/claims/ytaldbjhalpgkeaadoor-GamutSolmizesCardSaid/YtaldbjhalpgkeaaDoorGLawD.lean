/- Statement GamutMutations, as a walk. -/
import Derived.Test.YtaldbjhalpgkeaaDoorGLawC
import Derived.Laws.AppendOwnNone
namespace Go.Proofs.YtaldbjhalpgkeaaDoor
open Go.RowKit

/-- A list appended whole to a row of the call's own, whether it is empty or not. -/
theorem wpList_append_sl {w : World} {ops : Array Oper} {rest : List Oper} {o : Oper} {a : Act} {Q : Exit → Act → World → Prop} (hgd : o.guard = none) (s x : Operand) (t : TypeId)
    (ho : o.op = .call { callee := .builtin .append, args := #[s, x], argTypes := #[t, t] })
    (base : Nat) (e : TypeId) (i : TypeInfo) (z : Value) (size bytes : Nat) (ht : Tryd.prog.underlying t = some (.slice e)) (hi : Tryd.prog.info? e = some i) (hz : i.zero = some z)
    (hsize : i.size = size) (hby : i.bytes = bytes) (hzs : z.cells.size = size) (hsz : 0 < size)
    (v : Value) (n : Nat) (xs : List Value) (hs : a.eval s = v) (hown : w.ownsRow base e size v n xs)
    (q : Option Addr) (m c : Nat) (cs : List Value) (hx : a.eval x = .slice q m c) (hsl : SlP w size q m c cs)
    (h63 : n + m ≤ maxLen) (hbytes : (n + m) * bytes ≤ 140737488355328) (hbase : base ≤ w.heap.size)
    (h : ∀ v' w', w'.ownsRow base e size v' (n + m) (xs ++ cs) → w.grownBy w' v.ownBlock → wpList Tryd.prog ops Q rest (a.put o.dst v') w') :
    wpList Tryd.prog ops Q (o :: rest) a w := by
  cases q with
  | none =>
    obtain rfl := hsl.nil rfl
    obtain rfl : m = 0 := by have := hsl.fit; omega
    obtain rfl : cs = [] := List.eq_nil_of_length_eq_zero (by have := hsl.len; omega)
    refine wpList_append_own_none hgd s x t ho base e i size ht hi v n xs hs hown hx (h v w (by simpa using hown) ⟨rfl, rfl, rfl, Nat.le_refl _, fun _ _ _ => rfl⟩)
  | some ad =>
    refine wpList_append_own w hgd s x t ho base e i z size bytes ht hi hz hsize hby hzs hsz v n xs hs hown ad m c cs hx hsl.len ?_ hsl.one h63 hbytes hbase (fun v' w' h2 h3 _ => h v' w' h2 h3)
    intro j u hj
    by_cases h0 : 0 < m
    · obtain ⟨b, off, e2, _, hu⟩ := hsl.at_ h0
      cases e2
      rw [add_none]
      exact hu j u hj
    · obtain rfl : cs = [] := List.eq_nil_of_length_eq_zero (by have := hsl.len; rw [show m = 0 by omega] at this; omega)
      simp at hj

set_option maxRecDepth 100000 in
set_option maxHeartbeats 4000000 in
theorem gmuts_any (p : Option Addr) (cap : Nat) (l : List Sy) (w : World) (h : SlP w 2 p l.length cap (flatS l)) (tab : TabG w) :
    Calls Tryd.prog 5 #[.slice p l.length cap] w fun e w' => e = .returned (.bool true) ∧ Below w.heap.size w w' := by
  have HS := Lib.hid h
  have TB := Lib.hid (fun W (b : Below w.heap.size w W) => tab.later b)
  have AW := Lib.hid (fun W b => gwake_any W (TB.out W b))
  clear h tab
  obtain ⟨i0, hi0, hz0, hz1, hz2⟩ := info_parts info_syl
  by_cases hskip : (100 < l.length ∧ l.length ≤ 400) ∨ 420 < l.length
  · have three : ((100 : Int) < l.length ∧ (l.length : Int) ≤ 400) ∨ ((100 : Int) < l.length ∧ ¬ ((l.length : Int) ≤ 400) ∧ (420 : Int) < l.length) := by omega
    rcases three with ⟨g1, g2⟩ | ⟨g1, g2, g3⟩
    all_goals
      clear hskip
      go_enter Tryd.func5, Tryd.ntmps5
      go_wp2_with fail
      refine (AW.out _ (w_refl w)).mono ?_
      rintro e w1 ⟨rfl, hb⟩
      go_wp2_with fail
      go_ret
      exact ⟨rfl, hb⟩
  · have hlen : l.length ≤ 420 := by omega
    have three : ¬ ((100 : Int) < l.length) ∧ ¬ ((420 : Int) < l.length) ∨ ((100 : Int) < l.length ∧ ¬ ((l.length : Int) ≤ 400) ∧ ¬ ((420 : Int) < l.length)) := by omega
    clear hskip
    have PM := Lib.hid (fun q c W h b => wmutations_any q c l W h (TB.out W b))
    have RM := Lib.hid (fun W b => rmutations_any p cap l W (HS.out.later b))
    have SI := Lib.hid (fun p q cp cq W hp hq => samei_any p q cp cq (mutI l) W hp hq)
    have SB := Lib.hid (fun p q cp cq W hp hq => sameb_any p q cp cq (mutB l) W hp hq)
    have SA := Lib.hid (fun p q cp cq W hp hq => sames_any p q cp cq l W hp hq)
    rcases three with ⟨g1, g2⟩ | ⟨g1, g2, g3⟩
    all_goals
      go_enter Tryd.func5, Tryd.ntmps5
      go_wp2_with (at_builtin; refine wpList_append_sl rfl _ _ 29 rfl w.heap.size 25 i0 (.agg #[.int .i64 0, .int .i64 0]) 2 16 Tryd.underlying29 hi0 hz0 hz1 hz2 rfl (by decide) _ 0 (flatS []) rfl (World.ownsRow_lit w #[] 0 (Nat.le_refl _) (by unfold maxLen; omega) rfl) p l.length cap (flatS l) rfl (HS.out.later (w_alloc (w_refl w) _)) (by unfold maxLen; omega) (by omega) (by simp) ?_)
      intro v' w1 hown hgrow
      have HN := Lib.hid (show OwnL w w1 25 2 v' l.length (flatS l) by
        have HA : OwnL w (w.alloc (.cells #[] 25)) 25 2 (.slice (some ⟨w.heap.size, 0, none⟩) 0 0) 0 (flatS []) := ⟨w_alloc (w_refl w) _, World.ownsRow_lit w #[] 0 (Nat.le_refl _) (by unfold maxLen; omega) rfl⟩
        have := HA.app (w_refl _) hown hgrow
        first | exact this | (rw [Nat.zero_add] at this; exact this))
      clear hown hgrow g1 g2
      obtain ⟨q2, c2, rfl, hs2⟩ := SlP.of_own HN.out.row (flatS_len l) (flatS_one l)
      have B1 := Lib.hid HN.out.bel
      have L1 := Lib.hid hs2
      clear hs2 HN
      go_wp2_with fail
      refine (PM.out q2 c2 _ L1.out B1.out).mono ?_
      rintro e w2 ⟨v, u, rfl, ⟨q3, c3, rfl, hv⟩, ⟨q4, c4, rfl, hu⟩, hb⟩
      have B2 := Lib.hid (w_below B1.out hb)
      have L2 := Lib.hid (L1.out.later hb)
      have I2 := Lib.hid hv
      have O2 := Lib.hid hu
      clear hb hv hu PM B1 L1
      go_wp2_with fail
      refine (RM.out _ B2.out).mono ?_
      rintro e w3 ⟨v, u, rfl, ⟨q5, c5, rfl, hv⟩, ⟨q6, c6, rfl, hu⟩, hb⟩
      have B3 := Lib.hid (w_below B2.out hb)
      have L3 := Lib.hid (L2.out.later hb)
      have I3 := Lib.hid (I2.out.later hb)
      have O3 := Lib.hid (O2.out.later hb)
      have J3 := Lib.hid hv
      have P3 := Lib.hid hu
      clear hb hv hu RM B2 L2 I2 O2
      go_wp2_with fail
      refine (SI.out q3 q5 c3 c5 _ I3.out J3.out).mono ?_
      rintro e w4 ⟨rfl, hb⟩
      have B4 := Lib.hid (w_below B3.out hb)
      have L4 := Lib.hid (L3.out.later hb)
      have O4 := Lib.hid (O3.out.later hb)
      have P4 := Lib.hid (P3.out.later hb)
      clear hb B3 L3 O3 P3 I3 J3 SI
      go_wp2_with fail
      refine (SB.out q4 q6 c4 c6 _ O4.out P4.out).mono ?_
      rintro e w5 ⟨rfl, hb⟩
      have B5 := Lib.hid (w_below B4.out hb)
      have L5 := Lib.hid (L4.out.later hb)
      clear hb B4 L4 O4 P4 SB
      go_wp2_with fail
      refine (SA.out q2 p c2 cap _ L5.out (HS.out.later B5.out)).mono ?_
      rintro e w6 ⟨rfl, hb⟩
      have B6 := Lib.hid (w_below B5.out hb)
      clear hb B5 L5 SA
      go_wp2_with fail
      refine (AW.out _ B6.out).mono ?_
      rintro e w7 ⟨rfl, hb⟩
      have B7 := Lib.hid (w_below B6.out hb)
      clear hb B6
      go_wp2_with fail
      go_ret
      exact ⟨rfl, B7.out⟩

end Go.Proofs.YtaldbjhalpgkeaaDoor
