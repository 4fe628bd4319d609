/- ClefPlaces and ClefPitches return true: pitches of places, ledger lines, places under another clef and places of pitches are the reference's. -/
import Derived.Test.YteomimeagloofaaDoorCLawA
namespace Go.Proofs.YteomimeagloofaaDoor
open Go.RowKit

set_option maxRecDepth 100000 in
set_option maxHeartbeats 4000000 in
theorem lplaces_any (c d : Cl) (k x acc : Int) (w : World) (T : TabC w) : Calls Tryd.prog 3 #[cv c, cv d, .int .i64 k, .int .i64 x, .int .i64 acc] w fun e w' => e = .returned (.bool true) ∧ Below w.heap.size w w' := by
  have C1 := Lib.hid (fun W (b : Below w.heap.size w W) => cpit_any c k x acc W (T.later b))
  have C2 := Lib.hid (fun W => rcpit_any c k x acc W)
  have C3 := Lib.hid (fun W (b : Below w.heap.size w W) => cchk_any c W (T.later b))
  have C4 := Lib.hid (fun W => rcchk_any c W)
  have C5 := Lib.hid (fun W => cled_any x W)
  have C6 := Lib.hid (fun W => rledgers_any x W)
  have C7 := Lib.hid (fun W (b : Below w.heap.size w W) => cmov_any c d x W (T.later b))
  have C8 := Lib.hid (fun W => rcmov_any c d x W)
  have AW := Lib.hid (fun W (b : Below w.heap.size w W) => cwake_any W (T.later b))
  unfold PitPost at C1 C2
  unfold MovPost at C7 C8
  have KC := Lib.hid ((Two2.made w c 23).later (w_alloc (w_refl _) (cO d)))
  have KD := Lib.hid (Two2.made (w.alloc (cO c)) d 23)
  rw [World.size_alloc] at KD
  have hB := Lib.hid (w_alloc (w_alloc (w_refl w) (cO c)) (cO d))
  generalize pitR c k x acc = P at *
  generalize pitE c k x acc = PE at *
  generalize chkC c = CE at *
  generalize ledV x = LV at *
  generalize ledE x = LE at *
  generalize movV c d x = MV at *
  generalize movE c d x = ME at *
  obtain ⟨a, b, e4⟩ := P
  obtain ⟨s0, l0⟩ := c
  obtain ⟨s1, l1⟩ := d
  clear T
  go_enter Tryd.func3, Tryd.ntmps3
  go_wp2_with fail
  refine (C1.out _ hB.out).mono ?_
  rintro e w1 ⟨rfl, hb⟩
  have hb9 := w_alloc hb (pO (a, b, e4))
  replace hB := Lib.hid (w_below hB.out hb9)
  replace KC := Lib.hid (KC.out.later hb9)
  replace KD := Lib.hid (KD.out.later hb9)
  have RA := Lib.hid (Cell3.made w1 (a, b, e4) 25)
  clear hb hb9 C1
  obtain ⟨_, k0, k1, _, _⟩ := KC.out
  simp only at k0 k1
  go_wp2_with fail
  clear k0 k1
  refine (C2.out _).mono ?_
  rintro e w2 ⟨rfl, hb⟩
  have hb9 := w_alloc hb (pO (a, b, e4))
  have FX := Lib.hid (show _ ∧ _ ∧ _ ∧ _ ∧ _ from ⟨(w_below hB.out hb9).drew, (KC.out.later hb9).later (w_refl _).drew, (KD.out.later hb9).later (w_refl _).drew, (RA.out.later hb9).later (w_refl _).drew, (Cell3.made w2 (a, b, e4) 25).later (w_refl _).drew⟩)
  clear hb hb9 C2 hB KC KD RA
  go_wp2_with fail
  go_cut [51] (fun s51 wx => s51 = .bool false ∧ Hid (Below w.heap.size w wx ∧ Two2 wx w.heap.size (s0, l0) ∧ Two2 wx (w.heap.size + 1) (s1, l1)))
  case first =>
    clear C5 C6 C7 C8 AW
    go_region_held3 (fun W => W.cell? ⟨w.heap.size, 0, none⟩ = some (.int .i64 s0) ∧ W.cell? ⟨w.heap.size, 1, none⟩ = some (.int .i64 l0) ∧ W.cell? ⟨w1.heap.size, 0, none⟩ = some (.int .i64 a) ∧ W.cell? ⟨w1.heap.size, 1, none⟩ = some (.int .i64 b) ∧ W.cell? ⟨w1.heap.size, 2, none⟩ = some (.int .i64 e4) ∧ W.cell? ⟨w2.heap.size, 0, none⟩ = some (.int .i64 a) ∧ W.cell? ⟨w2.heap.size, 1, none⟩ = some (.int .i64 b) ∧ W.cell? ⟨w2.heap.size, 2, none⟩ = some (.int .i64 e4))
      (first
        | exact ⟨FX.out.2.1.c0, FX.out.2.1.c1, FX.out.2.2.2.1.c0, FX.out.2.2.2.1.c1, FX.out.2.2.2.1.c2, FX.out.2.2.2.2.c0, FX.out.2.2.2.2.c1, FX.out.2.2.2.2.c2⟩
        | fail)
      (first
        | (go_at_call 12; refine (C3.out _ FX.out.1).mono ?_; rintro e wn ⟨rfl, hb⟩; replace FX := Lib.hid (show _ ∧ _ ∧ _ ∧ _ ∧ _ from ⟨w_below FX.out.1 hb, FX.out.2.1.later hb, FX.out.2.2.1.later hb, FX.out.2.2.2.1.later hb, FX.out.2.2.2.2.later hb⟩); clear hb C3)
        | (go_at_call 13; refine (C4.out _).mono ?_; rintro e wn ⟨rfl, hb⟩; replace FX := Lib.hid (show _ ∧ _ ∧ _ ∧ _ ∧ _ from ⟨w_below FX.out.1 hb, FX.out.2.1.later hb, FX.out.2.2.1.later hb, FX.out.2.2.2.1.later hb, FX.out.2.2.2.2.later hb⟩); clear hb C4)
        | fail)
    all_goals
      go_wp2_with fail
      go_meet
      exact ⟨rfl, Lib.hid ⟨FX.out.1, FX.out.2.1, FX.out.2.2.1⟩⟩
  case rest =>
    obtain ⟨rfl, FY⟩ := hcut
    clear FX C3 C4
    go_wp2_with fail
    refine (C5.out _).mono ?_
    rintro e w3 ⟨rfl, hb⟩
    replace FY := Lib.hid (show _ ∧ _ ∧ _ from ⟨w_below FY.out.1 hb, FY.out.2.1.later hb, FY.out.2.2.later hb⟩)
    clear hb C5
    go_wp2_with fail
    refine (C6.out _).mono ?_
    rintro e w4 ⟨rfl, rfl⟩
    clear C6
    obtain ⟨_, k0, k1, _, _⟩ := FY.out.2.1
    obtain ⟨_, j0, j1, _, _⟩ := FY.out.2.2
    simp only at k0 k1 j0 j1
    go_wp2_with fail
    clear k0 k1 j0 j1
    refine (C7.out _ FY.out.1).mono ?_
    rintro e w5 ⟨rfl, hb⟩
    replace FY := Lib.hid (show _ ∧ _ ∧ _ from ⟨w_below FY.out.1 hb, FY.out.2.1.later hb, FY.out.2.2.later hb⟩)
    clear hb C7
    obtain ⟨_, k0, k1, _, _⟩ := FY.out.2.1
    obtain ⟨_, j0, j1, _, _⟩ := FY.out.2.2
    simp only at k0 k1 j0 j1
    go_wp2_with fail
    clear k0 k1 j0 j1
    refine (C8.out _).mono ?_
    rintro e w6 ⟨rfl, hb⟩
    have hB2 := Lib.hid (w_below FY.out.1 hb)
    clear hb C8 FY
    go_wp2_with fail
    refine (AW.out _ hB2.out).mono ?_
    rintro e w7 ⟨rfl, hb⟩
    have hB3 := Lib.hid (w_below hB2.out hb)
    clear hb AW hB2
    go_wp2_with fail
    go_ret
    exact ⟨rfl, hB3.out⟩

set_option maxHeartbeats 4000000 in
theorem lpitches_any (c : Cl) (k : Int) (p : Pi3) (w : World) (T : TabC w) : Calls Tryd.prog 4 #[cv c, .int .i64 k, pv p] w fun e w' => e = .returned (.bool true) ∧ Below w.heap.size w w' := by
  have C1 := Lib.hid (fun W (b : Below w.heap.size w W) => cpla_any c k p W (T.later b))
  have C2 := Lib.hid (fun W => rcpla_any c k p W)
  have AW := Lib.hid (fun W (b : Below w.heap.size w W) => cwake_any W (T.later b))
  unfold PlaPost at C1 C2
  have KC := Lib.hid ((Two2.made w c 23).later (w_alloc (w_refl _) (pO p)))
  have KP := Lib.hid (Cell3.made (w.alloc (cO c)) p 25)
  rw [World.size_alloc] at KP
  have hB := Lib.hid (w_alloc (w_alloc (w_refl w) (cO c)) (pO p))
  generalize plaV c k p = V at *
  obtain ⟨v0, v1, v2⟩ := V
  obtain ⟨a, b, e4⟩ := p
  obtain ⟨s0, l0⟩ := c
  clear T
  go_enter Tryd.func4, Tryd.ntmps4
  go_wp2_with fail
  refine (C1.out _ hB.out).mono ?_
  rintro e w1 ⟨rfl, hb⟩
  replace hB := Lib.hid (w_below hB.out hb)
  obtain ⟨_, k0, k1, _, _⟩ := KC.out.later hb
  obtain ⟨_, j0, j1, j2, _, _, _⟩ := KP.out.later hb
  simp only at k0 k1 j0 j1 j2
  clear hb C1
  go_wp2_with fail
  clear k0 k1 j0 j1 j2
  refine (C2.out _).mono ?_
  rintro e w2 ⟨rfl, hb⟩
  replace hB := Lib.hid (w_below hB.out hb)
  clear hb C2
  go_wp2_with fail
  refine (AW.out _ hB.out).mono ?_
  rintro e w3 ⟨rfl, hb⟩
  replace hB := Lib.hid (w_below hB.out hb)
  clear hb AW
  go_wp2_with fail
  go_ret
  exact ⟨rfl, hB.out⟩

end Go.Proofs.YteomimeagloofaaDoor
