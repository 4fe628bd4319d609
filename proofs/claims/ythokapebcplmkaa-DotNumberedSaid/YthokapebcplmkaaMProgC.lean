/- Perfect values above a value, of the reference. -/
import Derived.Test.YthokapebcplmkaaMProgB
import Derived.OwnWalk
namespace Go.Proofs.Ythokapebcplmkaa
open Go.RowKit

/-- The perfect values from k down. -/
def levUp (q : Q4) : Nat → List Int
  | 0 => []
  | k + 1 => (if pI q ((k + 1 : Nat) : Int) = 3 then [((k + 1 : Nat) : Int)] else []) ++ levUp q k
def abvI (q : Q4) : Nat → Int
  | 0 => 0
  | k + 1 => if pI q ((k + 1 : Nat) : Int) = 3 then ((k + 1 : Nat) : Int) else abvI q k
theorem lev_yes {q : Q4} {k : Nat} (h : pI q ((k + 1 : Nat) : Int) = 3) : levUp q (k + 1) = ((k + 1 : Nat) : Int) :: levUp q k := by
  show (if _ then _ else _) ++ _ = _; rw [if_pos h]; rfl
theorem lev_no {q : Q4} {k : Nat} (h : pI q ((k + 1 : Nat) : Int) = 2) : levUp q (k + 1) = levUp q k := by
  show (if _ then _ else _) ++ _ = _; rw [if_neg (by rw [h]; decide)]; rfl
theorem abv_yes {q : Q4} {k : Nat} (h : pI q ((k + 1 : Nat) : Int) = 3) : abvI q (k + 1) = ((k + 1 : Nat) : Int) := if_pos h
theorem abv_no {q : Q4} {k : Nat} (h : pI q ((k + 1 : Nat) : Int) = 2) : abvI q (k + 1) = abvI q k := if_neg (by rw [h]; decide)
theorem abv_head (q : Q4) : ∀ k, abvI q k = (levUp q k).headD 0
  | 0 => rfl
  | k + 1 => by
    by_cases h : pI q ((k + 1 : Nat) : Int) = 3
    · rw [abv_yes h, lev_yes h]; rfl
    · show (if _ then _ else _) = ((if _ then _ else _) ++ levUp q k).headD 0
      rw [if_neg h, if_neg h]; exact abv_head q k
theorem lev_len (q : Q4) : ∀ k, (levUp q k).length ≤ k
  | 0 => Nat.le_refl _
  | k + 1 => by
    have := lev_len q k
    show ((if _ then _ else _) ++ levUp q k).length ≤ k + 1
    split <;> simp <;> omega
def aboV (q : Q4) (v : Int) : Int := if valE q v = 0 then abvI q (v - 1).toNat else 0
theorem aboV_ok {q : Q4} {v : Int} (h : valE q v = 0) : aboV q v = abvI q (v - 1).toNat := if_pos h
theorem aboV_no {q : Q4} {v : Int} (h : ¬ valE q v = 0) : aboV q v = 0 := if_neg h
def lvlL (q : Q4) : List Int := if okM q then levUp q 4 else []
theorem lvl_ok {q : Q4} (h : okM q) : lvlL q = levUp q 4 := if_pos h
theorem lvl_no {q : Q4} (h : ¬ okM q) : lvlL q = [] := if_neg h
/-- What Levels hands back. -/
def LvlPost (q : Q4) (w : World) (e : Ending) (w' : World) : Prop := ∃ v, e = .returned (.tuple #[v, .int .i64 (chkM q)]) ∧ IntV w' v (lvlL q) ∧ Below w.heap.size w w'

set_option maxHeartbeats 4000000 in
theorem rabove_any (q : Q4) (v : Int) (w : World) : Calls Try.prog 42 #[mv q, .int .i64 v] w fun e w' => e = .returned (.tuple #[.int .i64 (aboV q v), .int .i64 (valE q v)]) ∧ Below w.heap.size w w' := by
  have C := Lib.hid (fun W => rmval_any q v W)
  have K := Lib.hid (Cell4.made w q 23)
  by_cases h : valE q v = 0
  · have hf := Lib.hid (aboV_ok h)
    obtain ⟨hq, hv⟩ := valE_zero h
    have P := Lib.hid (fun g hg W => rp_any q g hg W)
    have PT := Lib.hid (fun g => pI_two hq g)
    rw [h] at C
    rw [hf.out, h]
    clear h hf hq
    have HY := Lib.hid (fun k => abv_yes (q := q) (k := k))
    have HN := Lib.hid (fun k => abv_no (q := q) (k := k))
    generalize hAB : abvI q = ab at *
    have h0 : ab 0 = 0 := by rw [← hAB]; rfl
    clear hAB
    generalize pI q = pq at *
    obtain ⟨a, b, c, d⟩ := q
    obtain ⟨hv1, hv2⟩ := hv
    go_enter Try.func42, Try.ntmps42
    go_wp2_with fail
    refine (C.out _).mono ?_
    rintro e w1 ⟨rfl, hb⟩
    have hB := Lib.hid (w_below (w_alloc (w_refl w) (mO (a, b, c, d))) hb)
    have hK := Lib.hid (K.out.later hb)
    clear hb C K
    go_wp2_with fail
    go_loopw [7] (fun s7 wr => ∃ k : Nat, k ≤ (v - 1).toNat ∧ s7 = .int .i64 k ∧ Hid (ab k = ab (v - 1).toNat) ∧ Hid (Cell4 wr w.heap.size (a, b, c, d)) ∧ Hid (Below w.heap.size w wr)) (fun s7 _ => (intOf s7).toNat)
    case atStart => exact ⟨(v - 1).toNat, by omega, by rw [show (((v - 1).toNat : Nat) : Int) = v - 1 by omega], Lib.hid rfl, hK, hB⟩
    case round =>
      clear hB hK
      rename World => wr
      obtain ⟨k, hk, rfl, hab, hK, hbr⟩ := hrel
      by_cases hz : k = 0
      · subst hz
        have e0 : ab (v - 1).toNat = 0 := by rw [← hab.out]; exact h0
        clear hab PT P HY HN
        go_wp2_with fail
        go_ret2
        exact ⟨by rw [e0]; rfl, hbr.out⟩
      · obtain ⟨j, rfl⟩ : ∃ j, k = j + 1 := ⟨k - 1, by omega⟩
        have P1 := Lib.hid (fun W => P.out ((j + 1 : Nat) : Int) (by omega) W)
        obtain ⟨_, c0, c1, c2, c3, _, _, _, _⟩ := hK.out
        obtain ⟨g, hg⟩ : ∃ g, ((j + 1 : Nat) : Int) = g := ⟨_, rfl⟩
        have hg1 : g - 1 = (j : Int) := by omega
        have hy := HY.out j
        have hn := HN.out j
        have pt := PT.out ((j + 1 : Nat) : Int)
        rw [hg] at P1 hy hn pt ⊢
        clear P PT HY HN
        rcases pt with e2 | e3
        · have hab2 := Lib.hid ((hn e2).symm.trans hab.out)
          rw [e2] at P1
          clear hy hn hab e2
          go_wp2_with fail
          refine (P1.out _).mono ?_
          rintro e w2 ⟨rfl, hb⟩
          have hB2 := Lib.hid (w_below hbr.out hb)
          have hK2 := Lib.hid (hK.out.later hb)
          clear hb P1
          go_wp2_with fail
          go_roundw
          case rel => exact ⟨j, by omega, by rw [← hg1], hab2, hK2, hB2⟩
          case measure => simp [intOf]; omega
        · have hab2 := Lib.hid (hab.out.symm.trans (hy e3))
          rw [e3] at P1
          clear hy hn hab e3
          go_wp2_with fail
          refine (P1.out _).mono ?_
          rintro e w2 ⟨rfl, hb⟩
          have hB2 := Lib.hid (w_below hbr.out hb)
          clear hb P1
          go_wp2_with fail
          go_ret2
          exact ⟨by rw [hab2.out]; rfl, hB2.out⟩
  · have hf := Lib.hid (aboV_no h)
    rw [hf.out]
    have hne : (valE q v != 0) = true := by simp [h]
    have hne2 : (valE q v == 0) = false := by simp [h]
    clear h hf
    generalize valE q v = E at *
    obtain ⟨a, b, c, d⟩ := q
    go_enter Try.func42, Try.ntmps42
    go_wp2_with fail
    refine (C.out _).mono ?_
    rintro e w1 ⟨rfl, hb⟩
    have hB := Lib.hid (w_below (w_alloc (w_refl w) (mO (a, b, c, d))) hb)
    clear hb C K
    go_wp2_with fail
    go_ret2
    exact ⟨rfl, hB.out⟩

end Go.Proofs.Ythokapebcplmkaa
