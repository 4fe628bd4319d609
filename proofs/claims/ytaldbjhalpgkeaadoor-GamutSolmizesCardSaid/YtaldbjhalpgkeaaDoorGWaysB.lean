/- The program's Ways, checkSung, isIn, isSmooth. -/
import Derived.Test.YtaldbjhalpgkeaaDoorGWays
import Derived.Test.YtaldbjhalpgkeaaDoorGSolE
namespace Go.Proofs.YtaldbjhalpgkeaaDoor
open Go.RowKit Go.Shelf
attribute [local go_sem] Oper.semAt_some

theorem made_okP {s : Sy} (h : okS s) : okP (madeS s) := by
  have e : ∀ s ∈ pairsL, okP (madeS s) := by decide
  exact e s (pair_iff.2 h)
theorem inH_iff {p : Pi3} {h : Int} (hh : 1 ≤ h ∧ h ≤ 7) : inH p h = true ↔ ∃ t ∈ waysL p, t.1 = h := by
  unfold inH
  rw [decide_eq_true_iff]
  constructor
  · rintro (e | e | e | e | e | e)
    · exact ⟨_, way_iff.2 ⟨⟨hh, by simp⟩, e⟩, rfl⟩
    · exact ⟨_, way_iff.2 ⟨⟨hh, by simp⟩, e⟩, rfl⟩
    · exact ⟨_, way_iff.2 ⟨⟨hh, by simp⟩, e⟩, rfl⟩
    · exact ⟨_, way_iff.2 ⟨⟨hh, by simp⟩, e⟩, rfl⟩
    · exact ⟨_, way_iff.2 ⟨⟨hh, by simp⟩, e⟩, rfl⟩
    · exact ⟨_, way_iff.2 ⟨⟨hh, by simp⟩, e⟩, rfl⟩
  · rintro ⟨⟨a, b⟩, ht, rfl⟩
    obtain ⟨⟨_, h1, h2⟩, e⟩ := way_iff.1 ht
    simp only at h1 h2 e ⊢
    have c : b = 1 ∨ b = 2 ∨ b = 3 ∨ b = 4 ∨ b = 5 ∨ b = 6 := by omega
    rcases c with rfl | rfl | rfl | rfl | rfl | rfl <;> simp [e]

theorem wcollect_any (p : Pi3) (hp : okP p) (b : Nat) (w : World) (hc : PitC b p w) :
    Calls Tryd.prog 42 #[.func (.func 63) #[] #[.pointer (some ⟨b, 0, none⟩)]] w
      fun e w' => ∃ v, e = .returned v ∧ SylV w' v (waysL p) ∧ Below w.heap.size w w' := by
  have A := Lib.hid (wappseq_any p hp b w hc)
  clear hp hc
  go_enter Tryd.func42, Tryd.ntmps42
  go_wp2_with fail
  refine A.out.mono ?_
  rintro e w1 ⟨v, rfl, h, hb⟩
  go_wp2_with fail
  go_ret
  exact ⟨v, rfl, h, hb⟩

set_option maxHeartbeats 1000000 in
theorem wways_any (p : Pi3) (w : World) (T : TabG w) : Calls Tryd.prog 13 #[pv p] w (WaysPost p w) := by
  have C := Lib.hid (fun W => wcheck_any p W)
  have K := Lib.hid (Cell3.made w p 23)
  have HT := Lib.hid (fun W (b : Below w.heap.size w W) => T.later b)
  clear T
  unfold WaysPost
  by_cases h : okP p
  · rw [if_pos h, chkV_ok h]
    rw [chkV_ok h] at C
    have WF := Lib.hid (fun W => wwaysf_any p W)
    have CO := Lib.hid (fun b W hc => wcollect_any p h b W hc)
    clear h
    go_enter Tryd.func13, Tryd.ntmps13
    go_wp2_with fail
    refine (C.out _).mono ?_
    rintro e w1 ⟨rfl, hb⟩
    have hB := Lib.hid (w_below (w_alloc (w_refl w) _) hb)
    obtain ⟨_, c0, c1, c2, _, _, _⟩ := K.out.later hb
    clear hb K C
    go_wp2_with fail
    refine (WF.out _).mono ?_
    rintro e w2 ⟨rfl, rfl⟩
    have hP := Lib.hid (PitC.of (HT.out _ (w_alloc hB.out (pO p))) (HoldsB.new w1 23 #[.int .i64 p.1, .int .i64 p.2.1, .int .i64 p.2.2]))
    have hB2 := Lib.hid (w_alloc hB.out (pO p))
    clear c0 c1 c2 hB WF HT
    go_wp2_with fail
    refine (CO.out _ _ hP.out).mono ?_
    rintro e w3 ⟨v, rfl, hs, hb⟩
    have HS := Lib.hid hs
    have hB3 := Lib.hid (w_below hB2.out hb)
    clear hs hb CO hP
    go_wp2_with fail
    go_ret2
    exact ⟨_, rfl, HS.out, hB3.out⟩
  · rw [if_neg h, chkV_no h]
    rw [chkV_no h] at C
    clear h
    go_enter Tryd.func13, Tryd.ntmps13
    go_wp2_with fail
    refine (C.out _).mono ?_
    rintro e w1 ⟨rfl, hb⟩
    have hB := Lib.hid (w_below (w_alloc (w_refl w) _) hb)
    clear hb K C
    go_wp2_with fail
    go_ret2
    exact ⟨_, rfl, SylV.none _, hB.out⟩

/-- The error of one pitch. -/
def sungE (p : Pi3) : Int := if okP p then (if waysL p = [] then 18 else 0) else 2

set_option maxHeartbeats 1000000 in
theorem wsung_any (p : Pi3) (w : World) (T : TabG w) : Calls Tryd.prog 55 #[pv p] w fun e w' => e = .returned (.int .i64 (sungE p)) ∧ Below w.heap.size w w' := by
  have C := Lib.hid (fun W (b : Below w.heap.size w W) => wways_any p W (T.later b))
  clear T
  unfold sungE
  unfold WaysPost at C
  by_cases h : okP p
  · rw [if_pos h]
    rw [if_pos h, chkV_ok h] at C
    have hl : (waysL p = [] ∧ (waysL p).length = 0) ∨ (¬ waysL p = [] ∧ (waysL p).length ≠ 0) := by
      cases waysL p <;> simp
    rcases hl with ⟨h1, h2⟩ | ⟨h1, h2⟩
    · rw [if_pos h1]
      rw [h1] at C
      clear h h1 h2
      go_enter Tryd.func55, Tryd.ntmps55
      go_wp2_with fail
      refine (C.out _ (w_alloc (w_refl w) _)).mono ?_
      rintro e w1 ⟨v, rfl, ⟨q, cap, rfl, _⟩, hb⟩
      have hB := Lib.hid (w_below (w_alloc (w_refl w) _) hb)
      clear hb C
      go_wp2_with fail
      go_ret
      exact ⟨rfl, hB.out⟩
    · rw [if_neg h1]
      have h3 : ((waysL p).length == 0) = false := by simp [h2]
      clear h h1
      generalize waysL p = l at *
      go_enter Tryd.func55, Tryd.ntmps55
      go_wp2_with fail
      refine (C.out _ (w_alloc (w_refl w) _)).mono ?_
      rintro e w1 ⟨v, rfl, ⟨q, cap, rfl, _⟩, hb⟩
      have hB := Lib.hid (w_below (w_alloc (w_refl w) _) hb)
      clear hb C
      go_wp2_with fail
      go_ret
      exact ⟨rfl, hB.out⟩
  · rw [if_neg h]
    rw [if_neg h, chkV_no h] at C
    clear h
    go_enter Tryd.func55, Tryd.ntmps55
    go_wp2_with fail
    refine (C.out _ (w_alloc (w_refl w) _)).mono ?_
    rintro e w1 ⟨v, rfl, ⟨q, cap, rfl, _⟩, hb⟩
    have hB := Lib.hid (w_below (w_alloc (w_refl w) _) hb)
    clear hb C
    go_wp2_with fail
    go_ret
    exact ⟨rfl, hB.out⟩

end Go.Proofs.YtaldbjhalpgkeaaDoor
