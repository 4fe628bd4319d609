/- The iterator of all clefs. -/
import Derived.Test.YteomimeagloofaaDoorCSeq
import Derived.Test.YteomimeagloofaaDoorCProgA
namespace Go.Proofs.YteomimeagloofaaDoor
open Go.RowKit Go.Shelf
attribute [local go_sem] Oper.semAt_some

def allC : List Cl := (List.range 15).map clefN
def allK (k : Nat) : List Cl := (List.range k).map clefN
theorem allK_snoc (k : Nat) : allK (k + 1) = allK k ++ [clefN k] := by unfold allK; rw [List.range_succ, List.map_append]; rfl
theorem allK_len (k : Nat) : (allK k).length = k := by unfold allK; simp
theorem allC_at {k : Nat} (h : k < 15) : allC = allK k ++ clefN k :: (allC.drop (k + 1)) := by
  have hall : ∀ k ∈ List.range 15, allC = allK k ++ clefN k :: (allC.drop (k + 1)) := by decide
  exact hall k (List.mem_range.2 h)

set_option maxHeartbeats 4000000 in
set_option maxRecDepth 100000 in
theorem clefs_gives : Gives 50 #[] (fun c : Cl => cv c) allC TabC := by
  intro m l J Jx W hC hJ hJx hY h0
  show CallsIn Fence.wide m Tryd.prog 50 #[.func (.yield l) #[] #[]] W _
  have T := hC _ _ h0
  have p0 : W.cell? ⟨1, 0, none⟩ = some (.int .i64 0) := T.p 0 (by decide)
  have p1 : W.cell? ⟨1, 1, none⟩ = some (.int .i64 4) := T.p 1 (by decide)
  have p2 : W.cell? ⟨1, 2, none⟩ = some (.int .i64 0) := T.p 2 (by decide)
  have p3 : W.cell? ⟨1, 3, none⟩ = some (.int .i64 3) := T.p 3 (by decide)
  have p4 : W.cell? ⟨1, 4, none⟩ = some (.int .i64 3) := T.p 4 (by decide)
  have p5 : W.cell? ⟨1, 5, none⟩ = some (.int .i64 0) := T.p 5 (by decide)
  have p6 : W.cell? ⟨1, 6, none⟩ = some (.int .i64 4) := T.p 6 (by decide)
  have p7 : W.cell? ⟨1, 7, none⟩ = some (.int .i64 4) := T.p 7 (by decide)
  have p8 : W.cell? ⟨1, 8, none⟩ = some (.int .i64 0) := T.p 8 (by decide)
  have i0 := fun w => (cp_index w).1
  have i1 := fun w => (cp_index w).2.1
  have i2 := fun w => (cp_index w).2.2
  have HJ := Lib.hid hJ
  have HX := Lib.hid hJx
  have HY := Lib.hid hY
  clear hC hJ hJx hY T
  refine callsIn_of_wp Tryd.func50 rfl trivial ?_ rfl
  simp only [Tryd.ntmps50, List.size_toArray, List.length_cons, List.length_nil, Nat.reduceAdd, Nat.reduceSub, Array.replicate_succ, Array.replicate_zero, List.push_toArray, List.append_toArray, List.nil_append, List.cons_append]
  gi_wp2_with fail
  clear p0 p1 p2 p3 p4 p5 p6 p7 p8
  gi_loopw [6] (fun i wr => ∃ k : Nat, k ≤ 3 ∧ i = .int .i64 (k : Int) ∧ Hid (W.heap.size ≤ wr.heap.size) ∧ Hid (J (allK (5 * k)) wr)) (fun i _ => (3 - intOf i).toNat)
  case atStart => exact ⟨0, by omega, rfl, Lib.hid (Nat.le_refl _), Lib.hid h0⟩
  case round =>
    obtain ⟨k, hk, rfl, hsz, hj⟩ := hrel
    have c : (k = 0 ∧ (k : Int) = 0) ∨ (k = 1 ∧ (k : Int) = 1) ∨ (k = 2 ∧ (k : Int) = 2) ∨ (k = 3 ∧ (k : Int) = 3) := by omega
    clear hk h0
    rcases c with ⟨e, ez⟩ | ⟨e, ez⟩ | ⟨e, ez⟩ | ⟨e, ez⟩ <;> rw [ez] <;> clear ez <;> subst e
    · have hj0 := Lib.hid (OwnFrom.bel HJ.out hj.out (w_alloc (w_refl wr) (pO (0, 4, 0))))
      have hs0 := Lib.hid (show W.heap.size ≤ (wr.alloc (pO (0, 4, 0))).heap.size by have := hsz.out; rw [World.size_alloc]; omega)
      have r0 := Lib.hid (HoldsB.new wr 25 #[.int .i64 0, .int .i64 4, .int .i64 0])
      clear hj
      gi_wp2_with fail
      gi_loopw [9] (fun i wx => ∃ j : Nat, j ≤ 5 ∧ i = .int .i64 (j : Int) ∧ Hid (HoldsB wx wr.heap.size 25 #[.int .i64 0, .int .i64 4, .int .i64 0]) ∧ Hid (W.heap.size ≤ wx.heap.size) ∧ Hid (J (allK (5 * 0 + j)) wx)) (fun i _ => (5 - intOf i).toNat)
      case atStart => exact ⟨0, by omega, rfl, r0, hs0, hj0⟩
      case round =>
        clear r0 hs0 hj0
        rename World => wx
        obtain ⟨j, hj5, rfl, r0, hs0, hj0⟩ := hrel
        by_cases hlt : j < 5
        · have hlt' : (j : Int) < 5 := by omega
          have x1 : IntKind.i64.wrap ((j : Int) + 1) = (j : Int) + 1 := IntWalk.i64_in _ (by omega)
          have ex : clefN (5 * 0 + j) = (0, (j : Int) + 1) := by rw [clefN_at (by decide) hlt]; simp [stI]
          obtain ⟨fn, tmps, assign, body, hy, hR⟩ := HY.out (m - 1) _ _ _ _ (allC_at (k := 5 * 0 + j) (by omega)) hj0.out
          rw [ex] at hy
          have hsn := Lib.hid (allK_snoc (5 * 0 + j))
          have HR := Lib.hid hR
          have e0 := r0.out.cell (j := 0) rfl
          clear hR hj0 ex
          gi_wp2_with fail
          refine ⟨(fun h => by cases h), HR.out.mono ?_⟩
          rintro e w2 (⟨rfl, hj2, hm⟩ | ⟨rfl, hx, _⟩)
          · have r1 := Lib.hid (show HoldsB w2 wr.heap.size 25 #[.int .i64 0, .int .i64 4, .int .i64 0] from hm.at_ hsz.out r0.out rfl)
            have hs1 := Lib.hid (Nat.le_trans hs0.out hm.size)
            have HN := Lib.hid (hsn.out.symm ▸ hj2)
            clear hj2 hsn HR hy hm e0 r0 hs0
            gi_wp2_with fail
            go_roundw
            case rel => exact ⟨j + 1, by omega, by go_num, r1, hs1, HN⟩
            case measure => simp [intOf]; omega
          · have HN := Lib.hid hx
            clear hx hsn HR hy e0
            gi_wp2_with fail
            refine bodyPost_ret (results_none rfl _ _ _) rfl ?_
            exact ⟨⟨_, rfl⟩, .inr HN.out⟩
        · obtain rfl : j = 5 := by omega
          clear r0
          gi_wp2_with fail
          go_roundw
          case rel => exact ⟨1, by omega, rfl, hs0, hj0⟩
          case measure => simp [intOf]
    · have hj0 := Lib.hid (OwnFrom.bel HJ.out hj.out (w_alloc (w_refl wr) (pO (3, 3, 0))))
      have hs0 := Lib.hid (show W.heap.size ≤ (wr.alloc (pO (3, 3, 0))).heap.size by have := hsz.out; rw [World.size_alloc]; omega)
      have r0 := Lib.hid (HoldsB.new wr 25 #[.int .i64 3, .int .i64 3, .int .i64 0])
      clear hj
      gi_wp2_with fail
      gi_loopw [9] (fun i wx => ∃ j : Nat, j ≤ 5 ∧ i = .int .i64 (j : Int) ∧ Hid (HoldsB wx wr.heap.size 25 #[.int .i64 3, .int .i64 3, .int .i64 0]) ∧ Hid (W.heap.size ≤ wx.heap.size) ∧ Hid (J (allK (5 * 1 + j)) wx)) (fun i _ => (5 - intOf i).toNat)
      case atStart => exact ⟨0, by omega, rfl, r0, hs0, hj0⟩
      case round =>
        clear r0 hs0 hj0
        rename World => wx
        obtain ⟨j, hj5, rfl, r0, hs0, hj0⟩ := hrel
        by_cases hlt : j < 5
        · have hlt' : (j : Int) < 5 := by omega
          have x1 : IntKind.i64.wrap ((j : Int) + 1) = (j : Int) + 1 := IntWalk.i64_in _ (by omega)
          have ex : clefN (5 * 1 + j) = (3, (j : Int) + 1) := by rw [clefN_at (by decide) hlt]; simp [stI]
          obtain ⟨fn, tmps, assign, body, hy, hR⟩ := HY.out (m - 1) _ _ _ _ (allC_at (k := 5 * 1 + j) (by omega)) hj0.out
          rw [ex] at hy
          have hsn := Lib.hid (allK_snoc (5 * 1 + j))
          have HR := Lib.hid hR
          have e0 := r0.out.cell (j := 0) rfl
          clear hR hj0 ex
          gi_wp2_with fail
          refine ⟨(fun h => by cases h), HR.out.mono ?_⟩
          rintro e w2 (⟨rfl, hj2, hm⟩ | ⟨rfl, hx, _⟩)
          · have r1 := Lib.hid (show HoldsB w2 wr.heap.size 25 #[.int .i64 3, .int .i64 3, .int .i64 0] from hm.at_ hsz.out r0.out rfl)
            have hs1 := Lib.hid (Nat.le_trans hs0.out hm.size)
            have HN := Lib.hid (hsn.out.symm ▸ hj2)
            clear hj2 hsn HR hy hm e0 r0 hs0
            gi_wp2_with fail
            go_roundw
            case rel => exact ⟨j + 1, by omega, by go_num, r1, hs1, HN⟩
            case measure => simp [intOf]; omega
          · have HN := Lib.hid hx
            clear hx hsn HR hy e0
            gi_wp2_with fail
            refine bodyPost_ret (results_none rfl _ _ _) rfl ?_
            exact ⟨⟨_, rfl⟩, .inr HN.out⟩
        · obtain rfl : j = 5 := by omega
          clear r0
          gi_wp2_with fail
          go_roundw
          case rel => exact ⟨2, by omega, rfl, hs0, hj0⟩
          case measure => simp [intOf]
    · have hj0 := Lib.hid (OwnFrom.bel HJ.out hj.out (w_alloc (w_refl wr) (pO (4, 4, 0))))
      have hs0 := Lib.hid (show W.heap.size ≤ (wr.alloc (pO (4, 4, 0))).heap.size by have := hsz.out; rw [World.size_alloc]; omega)
      have r0 := Lib.hid (HoldsB.new wr 25 #[.int .i64 4, .int .i64 4, .int .i64 0])
      clear hj
      gi_wp2_with fail
      gi_loopw [9] (fun i wx => ∃ j : Nat, j ≤ 5 ∧ i = .int .i64 (j : Int) ∧ Hid (HoldsB wx wr.heap.size 25 #[.int .i64 4, .int .i64 4, .int .i64 0]) ∧ Hid (W.heap.size ≤ wx.heap.size) ∧ Hid (J (allK (5 * 2 + j)) wx)) (fun i _ => (5 - intOf i).toNat)
      case atStart => exact ⟨0, by omega, rfl, r0, hs0, hj0⟩
      case round =>
        clear r0 hs0 hj0
        rename World => wx
        obtain ⟨j, hj5, rfl, r0, hs0, hj0⟩ := hrel
        by_cases hlt : j < 5
        · have hlt' : (j : Int) < 5 := by omega
          have x1 : IntKind.i64.wrap ((j : Int) + 1) = (j : Int) + 1 := IntWalk.i64_in _ (by omega)
          have ex : clefN (5 * 2 + j) = (4, (j : Int) + 1) := by rw [clefN_at (by decide) hlt]; simp [stI]
          obtain ⟨fn, tmps, assign, body, hy, hR⟩ := HY.out (m - 1) _ _ _ _ (allC_at (k := 5 * 2 + j) (by omega)) hj0.out
          rw [ex] at hy
          have hsn := Lib.hid (allK_snoc (5 * 2 + j))
          have HR := Lib.hid hR
          have e0 := r0.out.cell (j := 0) rfl
          clear hR hj0 ex
          gi_wp2_with fail
          refine ⟨(fun h => by cases h), HR.out.mono ?_⟩
          rintro e w2 (⟨rfl, hj2, hm⟩ | ⟨rfl, hx, _⟩)
          · have r1 := Lib.hid (show HoldsB w2 wr.heap.size 25 #[.int .i64 4, .int .i64 4, .int .i64 0] from hm.at_ hsz.out r0.out rfl)
            have hs1 := Lib.hid (Nat.le_trans hs0.out hm.size)
            have HN := Lib.hid (hsn.out.symm ▸ hj2)
            clear hj2 hsn HR hy hm e0 r0 hs0
            gi_wp2_with fail
            go_roundw
            case rel => exact ⟨j + 1, by omega, by go_num, r1, hs1, HN⟩
            case measure => simp [intOf]; omega
          · have HN := Lib.hid hx
            clear hx hsn HR hy e0
            gi_wp2_with fail
            refine bodyPost_ret (results_none rfl _ _ _) rfl ?_
            exact ⟨⟨_, rfl⟩, .inr HN.out⟩
        · obtain rfl : j = 5 := by omega
          clear r0
          gi_wp2_with fail
          go_roundw
          case rel => exact ⟨3, by omega, rfl, hs0, hj0⟩
          case measure => simp [intOf]
    · gi_wp2_with fail
      go_end0
      exact ⟨⟨_, rfl⟩, .inl hj.out⟩

end Go.Proofs.YteomimeagloofaaDoor
