/- The program's perfect values above a value: the iterator, the list that is collected from it, Levels and Above. -/
import Derived.Test.YthokapebcplmkaaMSeq
import Derived.Test.YthokapebcplmkaaMProgC
namespace Go.Proofs.Ythokapebcplmkaa
open Go.RowKit Go.Shelf
attribute [local go_sem] Oper.semAt_some

/-- What the iterator reads: the value's block and the numbers' block. -/
def ItC (bv bl : Nat) (v : Int) (q : Q4) (W : World) : Prop := W.cell? ⟨bv, 0, none⟩ = some (.int .i64 v) ∧ W.cell? ⟨bl, 0, none⟩ = some (.int .i64 q.1) ∧ W.cell? ⟨bl, 1, none⟩ = some (.int .i64 q.2.1) ∧ W.cell? ⟨bl, 2, none⟩ = some (.int .i64 q.2.2.1) ∧ W.cell? ⟨bl, 3, none⟩ = some (.int .i64 q.2.2.2)
theorem ItC.later {bv bl : Nat} {v : Int} {q : Q4} {W W' : World} (h : ItC bv bl v q W) (k : Below W.heap.size W W') : ItC bv bl v q W' :=
  ⟨cell_later k h.1, cell_later k h.2.1, cell_later k h.2.2.1, cell_later k h.2.2.2.1, cell_later k h.2.2.2.2⟩

set_option maxRecDepth 100000 in
set_option maxHeartbeats 4000000 in
theorem above_gives (q : Q4) (hq : okM q) (v : Int) (hv : 1 ≤ v ∧ v ≤ 8) (bv bl : Nat) :
    Gives 75 #[.pointer (some ⟨bv, 0, none⟩), .pointer (some ⟨bl, 0, none⟩)] (fun n : Int => .int .i64 n) (levUp q (v - 1).toNat) (ItC bv bl v q) := by
  intro m l J Jx W hC hJ hJx hY h0
  show CallsIn Fence.wide m Try.prog 75 #[.func (.yield l) #[] #[], .pointer (some ⟨bv, 0, none⟩), .pointer (some ⟨bl, 0, none⟩)] W _
  obtain ⟨cv, _, _, _, _⟩ := hC _ _ h0
  have HC := Lib.hid hC
  have HJ := Lib.hid hJ
  have HX := Lib.hid hJx
  have HY := Lib.hid hY
  have H0 := Lib.hid h0
  have P := Lib.hid (fun g hg W => callsIn_wide (n := m - 1) |>.2 (nparts_any q g hg W))
  have PT := Lib.hid (fun g => pI_two hq g)
  have LY := Lib.hid (fun k => lev_yes (q := q) (k := k))
  have LN := Lib.hid (fun k => lev_no (q := q) (k := k))
  generalize hAB : levUp q = lv at *
  have hlv0 : lv 0 = [] := by rw [← hAB]; rfl
  clear hC hJ hJx hY h0 hAB hq
  generalize pI q = pq at *
  obtain ⟨a, b, c, d⟩ := q
  obtain ⟨hv1, hv2⟩ := hv
  refine callsIn_of_wp Try.func75 rfl trivial ?_ rfl
  simp only [Try.ntmps75, List.size_toArray, List.length_cons, List.length_nil, Nat.reduceAdd, Nat.reduceSub, Array.replicate_succ, Array.replicate_zero, List.push_toArray, List.append_toArray, List.nil_append, List.cons_append]
  gi_wp2_with fail
  clear cv
  gi_loopw [4] (fun s4 wr => ∃ (k : Nat) (pre : List Int), k ≤ (v - 1).toNat ∧ s4 = .int .i64 (k : Int) ∧ Hid (pre ++ lv k = lv (v - 1).toNat) ∧ Hid (J pre wr)) (fun s4 _ => (intOf s4).toNat)
  case atStart => exact ⟨(v - 1).toNat, [], by omega, by rw [show (((v - 1).toNat : Nat) : Int) = v - 1 by omega], Lib.hid rfl, H0⟩
  case round =>
    clear H0
    obtain ⟨k, pre, hk, rfl, hpre, hj⟩ := hrel
    by_cases hz : k = 0
    · subst hz
      have hp : pre = lv (v - 1).toNat := by have := hpre.out; rw [hlv0, List.append_nil] at this; exact this
      subst hp
      clear hpre
      gi_wp2_with fail
      go_end0
      exact ⟨⟨_, rfl⟩, .inl hj.out⟩
    · obtain ⟨j, rfl⟩ : ∃ j, k = j + 1 := ⟨k - 1, by omega⟩
      have P1 := Lib.hid (fun W => P.out ((j + 1 : Nat) : Int) (by omega) W)
      obtain ⟨_, c0, c1, c2, c3⟩ := HC.out _ _ hj.out
      simp only at c0 c1 c2 c3
      obtain ⟨g, hg⟩ : ∃ g, ((j + 1 : Nat) : Int) = g := ⟨_, rfl⟩
      have hg1 : g - 1 = (j : Int) := by omega
      have hy := LY.out j
      have hn := LN.out j
      have pt := PT.out ((j + 1 : Nat) : Int)
      rw [hg] at P1 hy hn pt ⊢
      clear P PT LY LN
      rcases pt with e2 | e3
      · rw [hn e2] at hpre
        rw [e2] at P1
        clear hy hn e2
        gi_wp2_with fail
        refine ⟨trivial, (fun h => by cases h), (P1.out _).mono ?_⟩
        rintro e w2 ⟨rfl, hb⟩
        have HJ2 := Lib.hid (OwnFrom.bel HJ.out hj.out hb)
        clear hb P1 c0 c1 c2 c3
        gi_wp2_with fail
        refine ⟨(fun _ h => (by cases h)), ?_⟩
        gi_wp2_with fail
        go_roundw
        case rel => exact ⟨j, pre, by omega, by rw [← hg1], hpre, HJ2⟩
        case measure => simp [intOf]; omega
      · rw [hy e3] at hpre
        rw [e3] at P1
        clear hy hn e3
        gi_wp2_with fail
        refine ⟨trivial, (fun h => by cases h), (P1.out _).mono ?_⟩
        rintro e w2 ⟨rfl, hb⟩
        have hj1 := Lib.hid (OwnFrom.bel HJ.out hj.out hb)
        obtain ⟨fn, tmps, assign, body, hy, hR⟩ := HY.out (m - 1) pre g (lv j) w2 hpre.out.symm hj1.out
        have HR := Lib.hid hR
        clear hb P1 c0 c1 c2 c3 hR hj
        gi_wp2_with fail
        refine ⟨(fun h => by cases h), HR.out.mono ?_⟩
        rintro e w3 (⟨rfl, hj2, _⟩ | ⟨rfl, hx, _⟩)
        · have hpre2 := Lib.hid (show (pre ++ [g]) ++ lv j = lv (v - 1).toNat by rw [List.append_assoc]; exact hpre.out)
          have HN := Lib.hid hj2
          clear hj2 HR hy hj1 hpre
          gi_wp2_with fail
          go_roundw
          case rel => exact ⟨j, pre ++ [g], by omega, by rw [← hg1], hpre2, HN⟩
          case measure => simp [intOf]; omega
        · have HN := Lib.hid hx
          clear hx HR hy hj1 hpre
          gi_wp2_with fail
          refine bodyPost_ret (results_none rfl _ _ _) rfl ?_
          exact ⟨⟨_, rfl⟩, .inr HN.out⟩

end Go.Proofs.Ythokapebcplmkaa
