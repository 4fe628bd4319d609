/- The maker's note. -/
import Derived.Test.YtcomjcflllfobaaDoorSFree
namespace Go.Proofs.YtcomjcflllfobaaDoor
open Go.RowKit

def accI (k : Nat) : Int := ([0, 0, 0, 0, -1, 1, 2] : List Int).getD k 0
abbrev accA : Array Value := #[.int .i64 0, .int .i64 0, .int .i64 0, .int .i64 0, .int .i64 (-1), .int .i64 1, .int .i64 2]
abbrev accO : Obj := .cells accA 3
theorem acc_ok : ∀ k : Nat, k < 7 → (-1 ≤ accI k ∧ accI k ≤ 2) ∧ accA[k]? = some (.int .i64 (accI k)) := by
  intro k hk
  have c : k = 0 ∨ k = 1 ∨ k = 2 ∨ k = 3 ∨ k = 4 ∨ k = 5 ∨ k = 6 := by omega
  rcases c with rfl | rfl | rfl | rfl | rfl | rfl | rfl <;> exact ⟨by decide, rfl⟩

set_option maxRecDepth 100000 in
set_option maxHeartbeats 8000000 in
theorem note_any (w0 : World) (b : Nat) (nm : ByteArray) (l : List Sg) (q : Option Addr) (c : Nat) (m : Q4) (pl : Int) (op dt : Bool) (hl : l.length ≤ 90) (v n : Int) (hv : 1 ≤ v ∧ v ≤ 8) (hn : 0 ≤ n ∧ n ≤ 1048576) (w : World) (h : FrX w0 w b nm l q c m pl op dt) :
    Calls Tryd.prog 61 #[.pointer (some ⟨b, 0, none⟩), .int .i64 v, .int .i64 n] w fun e w' => e = .returned (.tuple #[]) ∧ FrY w0 w' b nm l.length (l.length + 3) := by
  have ST := Lib.hid (fun W (g : FrX w0 W b nm l q c m pl op dt) => fstep_any w0 b nm l q c m pl op dt n ⟨by omega, by omega⟩ W g)
  obtain ⟨hn0, hn1⟩ := hn
  have z1 : 0 ≤ n / 5 ∧ n / 5 ≤ 1048576 := by omega
  have z2 : 0 ≤ n / 35 ∧ n / 35 ≤ 1048576 := by omega
  have z3 : 0 ≤ n / 35 % 6 ∧ n / 35 % 6 ≤ 5 := by omega
  obtain ⟨z1a, z1b⟩ := z1
  obtain ⟨z2a, z2b⟩ := z2
  obtain ⟨z3a, z3b⟩ := z3
  obtain ⟨j, hj, hj7⟩ : ∃ j : Nat, n / 5 % 7 = (j : Int) ∧ j < 7 := ⟨(n / 5 % 7).toNat, by omega, by omega⟩
  obtain ⟨ha, hc⟩ := acc_ok j hj7
  have hj0 : (0 : Int) ≤ j := by omega
  have hj6 : (j : Int) < 7 := by omega
  obtain ⟨k, hk⟩ : ∃ k : Bool, (n / 35 % 6 == 0) = k := ⟨_, rfl⟩
  have PU := Lib.hid (show ∀ r, (-4 ≤ r ∧ r ≤ 12) → ∀ W, FrX w0 W b nm l q c m r op dt → Calls Tryd.prog 59 #[.pointer (some ⟨b, 0, none⟩), sgv (nP v r (accI j) k), .bool true] W fun e w' => e = .returned (.tuple #[]) ∧ ∃ q' c', FrX w0 w' b nm (l ++ [nP v r (accI j) k]) q' c' m r op true from
    fun r hr W g => fput_any w0 b nm l q c m r op dt _ (one_nP k hv hr ha) rfl true (by omega) W g)
  generalize accI j = z at *
  have t1 := tq hn0 hn1 5 (by decide)
  have t2 : (n / 5).tmod 7 = (j : Int) := (tr z1a 7).trans hj
  have t3 := tq hn0 hn1 35 (by decide)
  have t4 := tr z2a 6
  have FD := Lib.hid (h.later (w_refl w).drew)
  have HC := Lib.hid hc
  clear h ha
  go_enter Tryd.func61, Tryd.ntmps61
  go_upto_region 0 with (fail)
  refine wp_region_held (S := fun _ => True) (by kernel_rfl) ?_
  change wpAnyH _ _ _ _ _ _ _ _ (World.drew _)
  generalize World.drew w = y at *
  have hb : b ≠ y.heap.size := Nat.ne_of_lt FD.out.x.h.lt
  have e0 : (y.alloc accO).cell? ⟨y.heap.size, j, none⟩ = some (.int .i64 z) := (HoldsB.new y 3 accA).cell HC.out
  have E0 := Lib.hid e0
  have L0 := Lib.hid (HoldsB.new y 3 accA).lt
  have FE := Lib.hid (FD.out.later (w_alloc (w_refl y) accO))
  clear hc
  refine wpAnyH_take (i := 0) (v := .pointer (some ⟨b, 0, none⟩)) rfl (by kernel_rfl) (by kernel_rfl) (by kernel_rfl) (fun _ _ _ h => h) (Or.inl ⟨by kernel_rfl, fun _ _ => by go_simp⟩) trivial ?_
  refine wpAnyH_take (i := 1) (v := .int .i64 v) rfl (by kernel_rfl) (by kernel_rfl) (by kernel_rfl) (fun _ _ _ h => h) (Or.inl ⟨by kernel_rfl, fun _ _ => by go_simp⟩) trivial ?_
  refine wpAnyH_take (i := 2) (v := .pointer (some ⟨b, 0, none⟩)) rfl (by kernel_rfl) (by kernel_rfl) (by kernel_rfl) (fun _ _ _ h => h) (Or.inl ⟨by kernel_rfl, fun _ _ => by go_simp⟩) trivial ?_
  refine wpAnyH_take (i := 3) (v := .int .i64 n) rfl (by kernel_rfl) (by kernel_rfl) (by kernel_rfl) (fun _ _ _ h => h) (Or.inl ⟨by kernel_rfl, fun _ _ => by go_simp⟩) trivial ?_
  refine wpAnyH_take (i := 6) (v := .int .i64 n) rfl (by kernel_rfl) (by kernel_rfl) (by kernel_rfl) (fun _ _ _ h => h) (Or.inl ⟨by kernel_rfl, fun _ _ => by go_simp⟩) trivial ?_
  refine wpAnyH_take (i := 7) (v := .int .i64 (n / 5)) rfl (by kernel_rfl) (by kernel_rfl) (by kernel_rfl) (fun _ _ _ h => h) (Or.inl ⟨by kernel_rfl, fun _ _ => by go_simp⟩) trivial ?_
  refine wpAnyH_take (i := 8) (v := .int .i64 (j : Int)) rfl (by kernel_rfl) (by kernel_rfl) (by kernel_rfl) (fun _ _ _ h => h) (Or.inl ⟨by kernel_rfl, fun _ _ => by go_simp⟩) trivial ?_
  refine wpAnyH_take (i := 11) (v := .int .i64 n) rfl (by kernel_rfl) (by kernel_rfl) (by kernel_rfl) (fun _ _ _ h => h) (Or.inl ⟨by kernel_rfl, fun _ _ => by go_simp⟩) trivial ?_
  refine wpAnyH_take (i := 12) (v := .int .i64 (n / 35)) rfl (by kernel_rfl) (by kernel_rfl) (by kernel_rfl) (fun _ _ _ h => h) (Or.inl ⟨by kernel_rfl, fun _ _ => by go_simp⟩) trivial ?_
  refine wpAnyH_take (i := 13) (v := .int .i64 (n / 35 % 6)) rfl (by kernel_rfl) (by kernel_rfl) (by kernel_rfl) (fun _ _ _ h => h) (Or.inl ⟨by kernel_rfl, fun _ _ => by go_simp⟩) trivial ?_
  refine wpAnyH_take (i := 14) (v := .bool k) rfl (by kernel_rfl) (by kernel_rfl) (by kernel_rfl) (fun _ _ _ h => h) (Or.inl ⟨by kernel_rfl, fun _ _ => by go_simp⟩) trivial ?_
  refine wpAnyH_ready (rs := [4, 5]) (by kernel_rfl) (by simp) ?_
  refine AllReadyH.cons rfl (fun K hK => ?_) (AllReadyH.cons rfl (fun K hK => ?_) (AllReadyH.nil))
  · rw [if_pos (by kernel_rfl)]
    go_simp
    refine (ST.out _ FD.out).mono ?_
    rintro e w2 ⟨r, hr, rfl, hx, hk2⟩
    have F2 := Lib.hid hx
    have R := Lib.hid hr
    clear hx hk2 hr ST
    go_simp
    refine hK.out _ _ trivial (fun _ => ?_)
    clear hK K
    refine wpAnyH_ready (rs := [5]) (by kernel_rfl) (by simp) ?_
    refine AllReadyH.cons rfl (fun K hK => ?_) (AllReadyH.nil)
    rw [if_pos (by kernel_rfl)]
    go_simp
    refine hK.out _ _ trivial (fun _ => ?_)
    clear hK K
    have e2 : (w2.alloc accO).cell? ⟨w2.heap.size, j, none⟩ = some (.int .i64 z) := (HoldsB.new w2 3 accA).cell HC.out
    clear e0
    refine wpAnyH_take (i := 9) (v := .pointer (some ⟨w2.heap.size, j, none⟩)) rfl (by kernel_rfl) (by kernel_rfl) (by kernel_rfl) (fun _ _ _ h => h) (Or.inl ⟨by kernel_rfl, fun _ _ => by go_simp⟩) trivial ?_
    refine wpAnyH_ready (rs := [10]) (by kernel_rfl) (by simp) ?_
    refine AllReadyH.cons rfl (fun K hK => ?_) (AllReadyH.nil)
    rw [if_pos (by kernel_rfl)]
    go_simp
    refine hK.out _ _ trivial (fun _ => ?_)
    clear hK K
    refine wpAnyH_take (i := 15) (v := sgv (nP v r z k)) rfl (by kernel_rfl) (by kernel_rfl) (by kernel_rfl) (fun _ _ _ h => h) (sgb_yields _ rfl (nP v r z k) (by kernel_rfl) (by kernel_rfl)) trivial ?_
    refine wpAnyH_ready (rs := [16]) (by kernel_rfl) (by simp) ?_
    refine AllReadyH.cons rfl (fun K hK => ?_) (AllReadyH.nil)
    rw [if_pos (by kernel_rfl)]
    go_simp
    refine (PU.out _ R.out _ (F2.out.later (w_alloc (w_refl _) _))).mono ?_
    rintro e w3 ⟨rfl, q', c', hx⟩
    have F3 := Lib.hid hx
    clear hx PU
    go_simp
    refine hK.out _ _ trivial (fun _ => ?_)
    clear hK K
    refine wpAnyH_done (by kernel_rfl) ?_ _
    go_wp2_with fail
    refine bodyPost_end (results_none (by kernel_rfl) _ _ _) rfl ⟨rfl, F3.out.any (by simp) (by simp)⟩
  · rw [if_pos (by kernel_rfl)]
    go_simp
    refine hK.out _ _ trivial (fun _ => ?_)
    clear hK K
    refine wpAnyH_take (i := 9) (v := .pointer (some ⟨y.heap.size, j, none⟩)) rfl (by kernel_rfl) (by kernel_rfl) (by kernel_rfl) (fun _ _ _ h => h) (Or.inl ⟨by kernel_rfl, fun _ _ => by go_simp⟩) trivial ?_
    refine wpAnyH_ready (rs := [4, 10]) (by kernel_rfl) (by simp) ?_
    refine AllReadyH.cons rfl (fun K hK => ?_) (AllReadyH.cons rfl (fun K hK => ?_) (AllReadyH.nil))
    · rw [if_pos (by kernel_rfl)]
      go_simp
      refine (ST.out _ FE.out).mono ?_
      rintro e w2 ⟨r, hr, rfl, hx, hk2⟩
      have F2 := Lib.hid hx
      have R := Lib.hid hr
      have c1 := (World.cell?_of_block (a := ⟨y.heap.size, j, none⟩) (hk2 y.heap.size (Ne.symm hb) L0.out)).trans E0.out
      clear e0
      clear hx hk2 hr ST
      go_simp
      refine hK.out _ _ trivial (fun _ => ?_)
      clear hK K
      refine wpAnyH_ready (rs := [10]) (by kernel_rfl) (by simp) ?_
      refine AllReadyH.cons rfl (fun K hK => ?_) (AllReadyH.nil)
      rw [if_pos (by kernel_rfl)]
      go_simp
      refine hK.out _ _ trivial (fun _ => ?_)
      clear hK K
      refine wpAnyH_take (i := 15) (v := sgv (nP v r z k)) rfl (by kernel_rfl) (by kernel_rfl) (by kernel_rfl) (fun _ _ _ h => h) (sgb_yields _ rfl (nP v r z k) (by kernel_rfl) (by kernel_rfl)) trivial ?_
      refine wpAnyH_ready (rs := [16]) (by kernel_rfl) (by simp) ?_
      refine AllReadyH.cons rfl (fun K hK => ?_) (AllReadyH.nil)
      rw [if_pos (by kernel_rfl)]
      go_simp
      refine (PU.out _ R.out _ F2.out).mono ?_
      rintro e w3 ⟨rfl, q', c', hx⟩
      have F3 := Lib.hid hx
      clear hx PU
      go_simp
      refine hK.out _ _ trivial (fun _ => ?_)
      clear hK K
      refine wpAnyH_done (by kernel_rfl) ?_ _
      go_wp2_with fail
      refine bodyPost_end (results_none (by kernel_rfl) _ _ _) rfl ⟨rfl, F3.out.any (by simp) (by simp)⟩
    · rw [if_pos (by kernel_rfl)]
      go_simp
      refine hK.out _ _ trivial (fun _ => ?_)
      clear hK K
      refine wpAnyH_ready (rs := [4]) (by kernel_rfl) (by simp) ?_
      refine AllReadyH.cons rfl (fun K hK => ?_) (AllReadyH.nil)
      rw [if_pos (by kernel_rfl)]
      go_simp
      refine (ST.out _ FE.out).mono ?_
      rintro e w2 ⟨r, hr, rfl, hx, hk2⟩
      have F2 := Lib.hid hx
      have R := Lib.hid hr
      clear hx hk2 hr ST
      go_simp
      refine hK.out _ _ trivial (fun _ => ?_)
      clear hK K
      refine wpAnyH_take (i := 15) (v := sgv (nP v r z k)) rfl (by kernel_rfl) (by kernel_rfl) (by kernel_rfl) (fun _ _ _ h => h) (sgb_yields _ rfl (nP v r z k) (by kernel_rfl) (by kernel_rfl)) trivial ?_
      refine wpAnyH_ready (rs := [16]) (by kernel_rfl) (by simp) ?_
      refine AllReadyH.cons rfl (fun K hK => ?_) (AllReadyH.nil)
      rw [if_pos (by kernel_rfl)]
      go_simp
      refine (PU.out _ R.out _ F2.out).mono ?_
      rintro e w3 ⟨rfl, q', c', hx⟩
      have F3 := Lib.hid hx
      clear hx PU
      go_simp
      refine hK.out _ _ trivial (fun _ => ?_)
      clear hK K
      refine wpAnyH_done (by kernel_rfl) ?_ _
      go_wp2_with fail
      refine bodyPost_end (results_none (by kernel_rfl) _ _ _) rfl ⟨rfl, F3.out.any (by simp) (by simp)⟩

end Go.Proofs.YtcomjcflllfobaaDoor

/- The maker's signs that are no notes, rests or dots. -/
namespace Go.Proofs.YtcomjcflllfobaaDoor
open Go.RowKit

def stpI (k : Nat) : Int := ([0, 3, 4] : List Int).getD k 0
abbrev stpA : Array Value := #[.int .i64 0, .int .i64 3, .int .i64 4]
theorem stp_ok : ∀ k : Nat, k < 3 → stepOk (stpI k) ∧ stpA[k]? = some (.int .i64 (stpI k)) := by
  intro k hk
  have c : k = 0 ∨ k = 1 ∨ k = 2 := by omega
  rcases c with rfl | rfl | rfl <;> exact ⟨by decide, rfl⟩
def bitI (k : Nat) : Int := ([11, 12] : List Int).getD k 0
abbrev bitA : Array Value := #[.int .i64 11, .int .i64 12]
theorem bit_ok : ∀ k : Nat, k < 2 → (oneE (bP (bitI k)) = 0 ∧ (bitI k == 4) = false) ∧ bitA[k]? = some (.int .i64 (bitI k)) := by
  intro k hk
  have c : k = 0 ∨ k = 1 := by omega
  rcases c with rfl | rfl
  · exact ⟨⟨one_bare.2.1, rfl⟩, rfl⟩
  · exact ⟨⟨one_bare.2.2.1, rfl⟩, rfl⟩

set_option maxRecDepth 100000 in
set_option maxHeartbeats 8000000 in
theorem other0_any (w0 : World) (b : Nat) (nm : ByteArray) (l : List Sg) (q : Option Addr) (c : Nat) (m : Q4) (pl : Int) (op dt : Bool) (hl : l.length ≤ 90) (n : Int) (hn : 0 ≤ n ∧ n ≤ 1048576) (hk : n % 6 = 0) (w : World) (h : FrX w0 w b nm l q c m pl op dt) :
    Calls Tryd.prog 57 #[.pointer (some ⟨b, 0, none⟩), .int .i64 n] w fun e w' => e = .returned (.tuple #[]) ∧ FrY w0 w' b nm l.length (l.length + 3) := by
  obtain ⟨hn0, hn1⟩ := hn
  have y1 : 0 ≤ n / 6 := by omega
  have y2 : n / 6 ≤ 1048576 := by omega
  have y3 : 0 ≤ n / 96 := by omega
  have y4 : n / 96 ≤ 1048576 := by omega
  have y5 : 0 ≤ n / 96 % 2 := by omega
  have y6 : n / 96 % 2 ≤ 1 := by omega
  obtain ⟨k, hk2⟩ : ∃ k : Bool, (n / 96 % 2 == 0) = k := ⟨_, rfl⟩
  have KM := Lib.hid (fun W => kmens_any (n / 6) ⟨by omega, by omega⟩ W)
  have PU := Lib.hid (show ∀ g, okM g → ∀ W, FrX w0 W b nm l q c g pl op dt → Calls Tryd.prog 59 #[.pointer (some ⟨b, 0, none⟩), sgv (mP g k), .bool false] W fun e w' => e = .returned (.tuple #[]) ∧ ∃ q' c', FrX w0 w' b nm (l ++ [mP g k]) q' c' g pl op false from
    fun g hg W x => fput_any w0 b nm l q c g pl op dt _ (one_mP k hg) rfl false (by omega) W x)
  have FX := Lib.hid h
  clear h
  have c7 := FX.out.cells.2.2.2.2.2.2.2.1
  go_enter Tryd.func57, Tryd.ntmps57
  cases op with
  | true =>
    go_wp2_with fail
    refine bodyPost_end (results_none (by kernel_rfl) _ _ _) rfl ⟨rfl, FX.out.any (by simp) (by simp)⟩
  | false =>
    go_wp2_with fail
    refine (KM.out _).mono ?_
    rintro e w1 ⟨⟨g, hg, rfl⟩, hb⟩
    replace FX := Lib.hid (FX.out.later hb)
    have HG := Lib.hid hg
    have f2 := FX.out.x.h.frozen 2
    have f3 := FX.out.x.h.frozen 3
    have f4 := FX.out.x.h.frozen 4
    have f5 := FX.out.x.h.frozen 5
    obtain ⟨-, -, c2, c3, c4, c5, -, -, -⟩ := FX.out.cells
    clear hb hg KM c7
    obtain ⟨g0, g1, g2, g3⟩ := g
    go_upto_region 8 with (fail)
    replace FX := Lib.hid (FX.out.mens HG.out)
    simp only at FX
    generalize (((w1.setCell ⟨b, 2, none⟩ (.int .i64 g0)).setCell ⟨b, 3, none⟩ (.int .i64 g1)).setCell ⟨b, 4, none⟩ (.int .i64 g2)).setCell ⟨b, 5, none⟩ (.int .i64 g3) = y at *
    clear f2 f3 f4 f5 c2 c3 c4 c5
    obtain ⟨-, -, c2, c3, c4, c5, -, -, -⟩ := FX.out.cells
    go_wp2_with (first | (refine wl_buildS _ (mP (g0, g1, g2, g3) k) (by kernel_rfl) ?_) | fail)
    refine (PU.out _ HG.out _ FX.out).mono ?_
    rintro e w3 ⟨rfl, q', c', hx⟩
    replace FX := Lib.hid hx
    clear hx PU c2 c3 c4 c5
    go_wp2_with fail
    refine bodyPost_end (results_none (by kernel_rfl) _ _ _) rfl ⟨rfl, FX.out.any (by simp) (by simp)⟩

set_option maxRecDepth 100000 in
set_option maxHeartbeats 8000000 in
theorem other1_any (w0 : World) (b : Nat) (nm : ByteArray) (l : List Sg) (q : Option Addr) (c : Nat) (m : Q4) (pl : Int) (op dt : Bool) (hl : l.length ≤ 90) (n : Int) (hn : 0 ≤ n ∧ n ≤ 1048576) (hk : n % 6 = 1) (w : World) (h : FrX w0 w b nm l q c m pl op dt) :
    Calls Tryd.prog 57 #[.pointer (some ⟨b, 0, none⟩), .int .i64 n] w fun e w' => e = .returned (.tuple #[]) ∧ FrY w0 w' b nm l.length (l.length + 3) := by
  obtain ⟨hn0, hn1⟩ := hn
  have y1 : 0 ≤ n / 6 := by omega
  have y2 : n / 6 ≤ 1048576 := by omega
  have y3 : 0 ≤ n / 24 := by omega
  have y4 : n / 24 ≤ 1048576 := by omega
  have y5 : 0 ≤ n / 6 % 4 := by omega
  have y6 : n / 6 % 4 ≤ 3 := by omega
  have y7 : 0 ≤ n / 24 % 4 := by omega
  have y8 : n / 24 % 4 ≤ 3 := by omega
  have PU := Lib.hid (show ∀ W, FrX w0 W b nm l q c m pl op dt → Calls Tryd.prog 59 #[.pointer (some ⟨b, 0, none⟩), sgv (pP (1 + n / 6 % 4) (1 + n / 24 % 4)), .bool false] W fun e w' => e = .returned (.tuple #[]) ∧ ∃ q' c', FrX w0 w' b nm (l ++ [pP (1 + n / 6 % 4) (1 + n / 24 % 4)]) q' c' m pl op false from
    fun W g => fput_any w0 b nm l q c m pl op dt _ (one_pP ⟨by omega, by omega⟩ ⟨by omega, by omega⟩) rfl false (by omega) W g)
  have FX := Lib.hid h
  clear h
  have c7 := FX.out.cells.2.2.2.2.2.2.2.1
  go_enter Tryd.func57, Tryd.ntmps57
  cases op with
  | true =>
    go_wp2_with fail
    refine bodyPost_end (results_none (by kernel_rfl) _ _ _) rfl ⟨rfl, FX.out.any (by simp) (by simp)⟩
  | false =>
    go_wp2_with (first | (refine wl_buildS _ (pP (1 + n / 6 % 4) (1 + n / 24 % 4)) (by kernel_rfl) ?_) | fail)
    refine (PU.out _ FX.out).mono ?_
    rintro e w3 ⟨rfl, q', c', hx⟩
    replace FX := Lib.hid hx
    clear hx PU c7
    go_wp2_with fail
    refine bodyPost_end (results_none (by kernel_rfl) _ _ _) rfl ⟨rfl, FX.out.any (by simp) (by simp)⟩

set_option maxRecDepth 100000 in
set_option maxHeartbeats 8000000 in
theorem other2_any (w0 : World) (b : Nat) (nm : ByteArray) (l : List Sg) (q : Option Addr) (c : Nat) (m : Q4) (pl : Int) (op dt : Bool) (hl : l.length ≤ 90) (n : Int) (hn : 0 ≤ n ∧ n ≤ 1048576) (hk : n % 6 = 2) (w : World) (h : FrX w0 w b nm l q c m pl op dt) :
    Calls Tryd.prog 57 #[.pointer (some ⟨b, 0, none⟩), .int .i64 n] w fun e w' => e = .returned (.tuple #[]) ∧ FrY w0 w' b nm l.length (l.length + 3) := by
  obtain ⟨hn0, hn1⟩ := hn
  have y1 : 0 ≤ n / 6 := by omega
  have y2 : n / 6 ≤ 1048576 := by omega
  obtain ⟨j, hj, hj7⟩ : ∃ j : Nat, n / 6 % 3 = (j : Int) ∧ j < 3 := ⟨(n / 6 % 3).toNat, by omega, by omega⟩
  obtain ⟨ha, hc⟩ := stp_ok j hj7
  have hj0 : (0 : Int) ≤ j := by omega
  have hj6 : (j : Int) < 3 := by omega
  have t1 := tq hn0 hn1 6 (by decide)
  have t2 : (n / 6).tmod 3 = (j : Int) := (tr y1 3).trans hj
  have y3 : 0 ≤ n / 18 := by omega
  have y4 : n / 18 ≤ 1048576 := by omega
  have y5 : 0 ≤ n / 18 % 5 := by omega
  have y6 : n / 18 % 5 ≤ 4 := by omega
  have t3 := tq hn0 hn1 18 (by decide)
  have t4 := tr y3 5
  have t5 : IntKind.i64.wrap (1 + n / 18 % 5) = 1 + n / 18 % 5 := IntWalk.i64_in _ (by omega)
  have PU := Lib.hid (show ∀ W, FrX w0 W b nm l q c m pl op dt → Calls Tryd.prog 59 #[.pointer (some ⟨b, 0, none⟩), sgv (cP (stpI j) (1 + n / 18 % 5)), .bool dt] W fun e w' => e = .returned (.tuple #[]) ∧ ∃ q' c', FrX w0 w' b nm (l ++ [cP (stpI j) (1 + n / 18 % 5)]) q' c' m pl op dt from
    fun W g => fput_any w0 b nm l q c m pl op dt _ (one_cP ha ⟨by omega, by omega⟩) rfl dt (by omega) W g)
  generalize stpI j = z at *
  have FD := Lib.hid (h.later (w_refl w).drew)
  have HC := Lib.hid hc
  clear h ha hc
  go_enter Tryd.func57, Tryd.ntmps57
  go_upto_region 13 with (fail)
  refine wp_region_held (S := fun W => W.cell? ⟨b, 8, none⟩ = some (.bool dt)) (by kernel_rfl) ?_
  change wpAnyH _ _ _ _ _ _ _ _ (World.drew _)
  generalize World.drew w = y at *
  have c8 := Lib.hid (FD.out.cells.2.2.2.2.2.2.2.2)
  have FE := Lib.hid (FD.out.later (w_alloc (w_refl y) (.cells stpA 3)))
  have d8 := Lib.hid (FE.out.cells.2.2.2.2.2.2.2.2)
  have e0 : (y.alloc (.cells stpA 3)).cell? ⟨y.heap.size, j, none⟩ = some (.int .i64 z) := (HoldsB.new y 3 stpA).cell HC.out
  refine wpAnyH_take (i := 0) (v := .pointer (some ⟨b, 0, none⟩)) rfl (by kernel_rfl) (by kernel_rfl) (by kernel_rfl) (fun _ _ _ h => h) (Or.inl ⟨by kernel_rfl, fun _ _ => by go_simp⟩) c8.out ?_
  refine wpAnyH_take (i := 2) (v := .int .i64 n) rfl (by kernel_rfl) (by kernel_rfl) (by kernel_rfl) (fun _ _ _ h => h) (Or.inl ⟨by kernel_rfl, fun _ _ => by go_simp⟩) c8.out ?_
  refine wpAnyH_take (i := 3) (v := .int .i64 (n / 6)) rfl (by kernel_rfl) (by kernel_rfl) (by kernel_rfl) (fun _ _ _ h => h) (Or.inl ⟨by kernel_rfl, fun _ _ => by go_simp⟩) c8.out ?_
  refine wpAnyH_take (i := 4) (v := .int .i64 (j : Int)) rfl (by kernel_rfl) (by kernel_rfl) (by kernel_rfl) (fun _ _ _ h => h) (Or.inl ⟨by kernel_rfl, fun _ _ => by go_simp⟩) c8.out ?_
  refine wpAnyH_take (i := 7) (v := .int .i64 n) rfl (by kernel_rfl) (by kernel_rfl) (by kernel_rfl) (fun _ _ _ h => h) (Or.inl ⟨by kernel_rfl, fun _ _ => by go_simp⟩) c8.out ?_
  refine wpAnyH_take (i := 8) (v := .int .i64 (n / 18)) rfl (by kernel_rfl) (by kernel_rfl) (by kernel_rfl) (fun _ _ _ h => h) (Or.inl ⟨by kernel_rfl, fun _ _ => by go_simp⟩) c8.out ?_
  refine wpAnyH_take (i := 9) (v := .int .i64 (n / 18 % 5)) rfl (by kernel_rfl) (by kernel_rfl) (by kernel_rfl) (fun _ _ _ h => h) (Or.inl ⟨by kernel_rfl, fun _ _ => by go_simp⟩) c8.out ?_
  refine wpAnyH_take (i := 10) (v := .int .i64 (1 + n / 18 % 5)) rfl (by kernel_rfl) (by kernel_rfl) (by kernel_rfl) (fun _ _ _ h => h) (Or.inl ⟨by kernel_rfl, fun _ _ => by go_simp⟩) c8.out ?_
  refine wpAnyH_take (i := 13) (v := .pointer (some ⟨b, 0, none⟩)) rfl (by kernel_rfl) (by kernel_rfl) (by kernel_rfl) (fun _ _ _ h => h) (Or.inl ⟨by kernel_rfl, fun _ _ => by go_simp⟩) c8.out ?_
  refine wpAnyH_take (i := 14) (v := .pointer (some ⟨b, 0, none⟩)) rfl (by kernel_rfl) (by kernel_rfl) (by kernel_rfl) (fun _ _ _ h => h) (Or.inl ⟨by kernel_rfl, fun _ _ => by go_simp⟩) c8.out ?_
  refine wpAnyH_take (i := 15) (v := .pointer (some ⟨b, 8, none⟩)) rfl (by kernel_rfl) (by kernel_rfl) (by kernel_rfl) (fun _ _ _ h => h) (Or.inl ⟨by kernel_rfl, fun _ _ => by go_simp⟩) c8.out ?_
  refine wpAnyH_take (i := 16) (v := .bool dt) rfl (by kernel_rfl) (by kernel_rfl) (by kernel_rfl) (fun _ _ _ h => h) (Or.inl ⟨by kernel_rfl, fun W hW => by go_simp⟩) c8.out ?_
  refine wpAnyH_ready (rs := [1]) (by kernel_rfl) (by simp) ?_
  refine AllReadyH.cons rfl (fun K hK => ?_) (AllReadyH.nil)
  rw [if_pos (by kernel_rfl)]
  go_simp
  refine hK.out _ _ d8.out (fun _ => ?_)
  clear hK K
  refine wpAnyH_take (i := 5) (v := .pointer (some ⟨y.heap.size, j, none⟩)) rfl (by kernel_rfl) (by kernel_rfl) (by kernel_rfl) (fun _ _ _ h => h) (Or.inl ⟨by kernel_rfl, fun _ _ => by go_simp⟩) d8.out ?_
  refine wpAnyH_ready (rs := [6]) (by kernel_rfl) (by simp) ?_
  refine AllReadyH.cons rfl (fun K hK => ?_) (AllReadyH.nil)
  rw [if_pos (by kernel_rfl)]
  go_simp
  refine hK.out _ _ d8.out (fun _ => ?_)
  clear hK K
  refine wpAnyH_take (i := 11) (v := .agg #[.int .i64 z, .int .i64 (1 + n / 18 % 5)]) rfl (by kernel_rfl) (by kernel_rfl) (by kernel_rfl) (fun _ _ _ h => h) (Or.inl ⟨by kernel_rfl, fun _ _ => by go_simp⟩) d8.out ?_
  refine wpAnyH_take (i := 12) (v := sgv (cP (z) (1 + n / 18 % 5))) rfl (by kernel_rfl) (by kernel_rfl) (by kernel_rfl) (fun _ _ _ h => h) (sgb_yields _ rfl (cP (z) (1 + n / 18 % 5)) (by kernel_rfl) (by kernel_rfl)) d8.out ?_
  refine wpAnyH_ready (rs := [17]) (by kernel_rfl) (by simp) ?_
  refine AllReadyH.cons rfl (fun K hK => ?_) (AllReadyH.nil)
  rw [if_pos (by kernel_rfl)]
  go_simp
  refine (PU.out _ FE.out).mono ?_
  rintro e w3 ⟨rfl, q', c', hx⟩
  have FX := Lib.hid hx
  have c9 := Lib.hid (FX.out.cells.2.2.2.2.2.2.2.2)
  clear hx PU
  go_simp
  refine hK.out _ _ c9.out (fun _ => ?_)
  clear hK K
  refine wpAnyH_done (by kernel_rfl) ?_ _
  go_wp2_with fail
  refine bodyPost_end (results_none (by kernel_rfl) _ _ _) rfl ⟨rfl, FX.out.any (by simp) (by simp)⟩

set_option maxRecDepth 100000 in
set_option maxHeartbeats 8000000 in
theorem other3_any (w0 : World) (b : Nat) (nm : ByteArray) (l : List Sg) (q : Option Addr) (c : Nat) (m : Q4) (pl : Int) (op dt : Bool) (hl : l.length ≤ 90) (n : Int) (hn : 0 ≤ n ∧ n ≤ 1048576) (hk : n % 6 = 3) (w : World) (h : FrX w0 w b nm l q c m pl op dt) :
    Calls Tryd.prog 57 #[.pointer (some ⟨b, 0, none⟩), .int .i64 n] w fun e w' => e = .returned (.tuple #[]) ∧ FrY w0 w' b nm l.length (l.length + 3) := by
  obtain ⟨hn0, hn1⟩ := hn
  have y1 : 0 ≤ n / 6 := by omega
  have y2 : n / 6 ≤ 1048576 := by omega
  have y5 : 0 ≤ n / 6 % 3 := by omega
  have y6 : n / 6 % 3 ≤ 2 := by omega
  have PU := Lib.hid (show ∀ W, FrX w0 W b nm l q c m pl op dt → Calls Tryd.prog 59 #[.pointer (some ⟨b, 0, none⟩), sgv (kP (n / 6 % 3)), .bool dt] W fun e w' => e = .returned (.tuple #[]) ∧ ∃ q' c', FrX w0 w' b nm (l ++ [kP (n / 6 % 3)]) q' c' m pl op dt from
    fun W g => fput_any w0 b nm l q c m pl op dt _ (one_kP ⟨by omega, by omega⟩) rfl dt (by omega) W g)
  have FX := Lib.hid h
  clear h
  have c8 := FX.out.cells.2.2.2.2.2.2.2.2
  go_enter Tryd.func57, Tryd.ntmps57
  go_wp2_with (first | (refine wl_buildS _ (kP (n / 6 % 3)) (by kernel_rfl) ?_) | fail)
  refine (PU.out _ FX.out).mono ?_
  rintro e w3 ⟨rfl, q', c', hx⟩
  replace FX := Lib.hid hx
  clear hx PU c8
  go_wp2_with fail
  refine bodyPost_end (results_none (by kernel_rfl) _ _ _) rfl ⟨rfl, FX.out.any (by simp) (by simp)⟩

set_option maxRecDepth 100000 in
set_option maxHeartbeats 8000000 in
theorem other4_any (w0 : World) (b : Nat) (nm : ByteArray) (l : List Sg) (q : Option Addr) (c : Nat) (m : Q4) (pl : Int) (op dt : Bool) (hl : l.length ≤ 90) (n : Int) (hn : 0 ≤ n ∧ n ≤ 1048576) (hk : n % 6 = 4) (w : World) (h : FrX w0 w b nm l q c m pl op dt) :
    Calls Tryd.prog 57 #[.pointer (some ⟨b, 0, none⟩), .int .i64 n] w fun e w' => e = .returned (.tuple #[]) ∧ FrY w0 w' b nm l.length (l.length + 3) := by
  obtain ⟨hn0, hn1⟩ := hn
  have y1 : 0 ≤ n / 6 := by omega
  have y2 : n / 6 ≤ 1048576 := by omega
  obtain ⟨j, hj, hj7⟩ : ∃ j : Nat, n / 6 % 2 = (j : Int) ∧ j < 2 := ⟨(n / 6 % 2).toNat, by omega, by omega⟩
  obtain ⟨ha, hc⟩ := bit_ok j hj7
  have hj0 : (0 : Int) ≤ j := by omega
  have hj6 : (j : Int) < 2 := by omega
  have t1 := tq hn0 hn1 6 (by decide)
  have t2 : (n / 6).tmod 2 = (j : Int) := (tr y1 2).trans hj
  have PU := Lib.hid (show ∀ W, FrX w0 W b nm l q c m pl op dt → Calls Tryd.prog 59 #[.pointer (some ⟨b, 0, none⟩), sgv (bP (bitI j)), .bool dt] W fun e w' => e = .returned (.tuple #[]) ∧ ∃ q' c', FrX w0 w' b nm (l ++ [bP (bitI j)]) q' c' m pl op dt from
    fun W g => fput_any w0 b nm l q c m pl op dt _ (ha.1) ha.2 dt (by omega) W g)
  generalize bitI j = z at *
  have FD := Lib.hid (h.later (w_refl w).drew)
  have HC := Lib.hid hc
  clear h ha hc
  go_enter Tryd.func57, Tryd.ntmps57
  go_upto_region 17 with (fail)
  refine wp_region_held (S := fun W => W.cell? ⟨b, 8, none⟩ = some (.bool dt)) (by kernel_rfl) ?_
  change wpAnyH _ _ _ _ _ _ _ _ (World.drew _)
  generalize World.drew w = y at *
  have c8 := Lib.hid (FD.out.cells.2.2.2.2.2.2.2.2)
  have FE := Lib.hid (FD.out.later (w_alloc (w_refl y) (.cells bitA 3)))
  have d8 := Lib.hid (FE.out.cells.2.2.2.2.2.2.2.2)
  have e0 : (y.alloc (.cells bitA 3)).cell? ⟨y.heap.size, j, none⟩ = some (.int .i64 z) := (HoldsB.new y 3 bitA).cell HC.out
  refine wpAnyH_take (i := 0) (v := .pointer (some ⟨b, 0, none⟩)) rfl (by kernel_rfl) (by kernel_rfl) (by kernel_rfl) (fun _ _ _ h => h) (Or.inl ⟨by kernel_rfl, fun _ _ => by go_simp⟩) c8.out ?_
  refine wpAnyH_take (i := 2) (v := .int .i64 n) rfl (by kernel_rfl) (by kernel_rfl) (by kernel_rfl) (fun _ _ _ h => h) (Or.inl ⟨by kernel_rfl, fun _ _ => by go_simp⟩) c8.out ?_
  refine wpAnyH_take (i := 3) (v := .int .i64 (n / 6)) rfl (by kernel_rfl) (by kernel_rfl) (by kernel_rfl) (fun _ _ _ h => h) (Or.inl ⟨by kernel_rfl, fun _ _ => by go_simp⟩) c8.out ?_
  refine wpAnyH_take (i := 4) (v := .int .i64 (j : Int)) rfl (by kernel_rfl) (by kernel_rfl) (by kernel_rfl) (fun _ _ _ h => h) (Or.inl ⟨by kernel_rfl, fun _ _ => by go_simp⟩) c8.out ?_
  refine wpAnyH_take (i := 8) (v := .pointer (some ⟨b, 0, none⟩)) rfl (by kernel_rfl) (by kernel_rfl) (by kernel_rfl) (fun _ _ _ h => h) (Or.inl ⟨by kernel_rfl, fun _ _ => by go_simp⟩) c8.out ?_
  refine wpAnyH_take (i := 9) (v := .pointer (some ⟨b, 0, none⟩)) rfl (by kernel_rfl) (by kernel_rfl) (by kernel_rfl) (fun _ _ _ h => h) (Or.inl ⟨by kernel_rfl, fun _ _ => by go_simp⟩) c8.out ?_
  refine wpAnyH_take (i := 10) (v := .pointer (some ⟨b, 8, none⟩)) rfl (by kernel_rfl) (by kernel_rfl) (by kernel_rfl) (fun _ _ _ h => h) (Or.inl ⟨by kernel_rfl, fun _ _ => by go_simp⟩) c8.out ?_
  refine wpAnyH_take (i := 11) (v := .bool dt) rfl (by kernel_rfl) (by kernel_rfl) (by kernel_rfl) (fun _ _ _ h => h) (Or.inl ⟨by kernel_rfl, fun W hW => by go_simp⟩) c8.out ?_
  refine wpAnyH_ready (rs := [1]) (by kernel_rfl) (by simp) ?_
  refine AllReadyH.cons rfl (fun K hK => ?_) (AllReadyH.nil)
  rw [if_pos (by kernel_rfl)]
  go_simp
  refine hK.out _ _ d8.out (fun _ => ?_)
  clear hK K
  refine wpAnyH_take (i := 5) (v := .pointer (some ⟨y.heap.size, j, none⟩)) rfl (by kernel_rfl) (by kernel_rfl) (by kernel_rfl) (fun _ _ _ h => h) (Or.inl ⟨by kernel_rfl, fun _ _ => by go_simp⟩) d8.out ?_
  refine wpAnyH_ready (rs := [6]) (by kernel_rfl) (by simp) ?_
  refine AllReadyH.cons rfl (fun K hK => ?_) (AllReadyH.nil)
  rw [if_pos (by kernel_rfl)]
  go_simp
  refine hK.out _ _ d8.out (fun _ => ?_)
  clear hK K
  refine wpAnyH_take (i := 7) (v := sgv (bP (z))) rfl (by kernel_rfl) (by kernel_rfl) (by kernel_rfl) (fun _ _ _ h => h) (sgb_yields _ rfl (bP (z)) (by kernel_rfl) (by kernel_rfl)) d8.out ?_
  refine wpAnyH_ready (rs := [12]) (by kernel_rfl) (by simp) ?_
  refine AllReadyH.cons rfl (fun K hK => ?_) (AllReadyH.nil)
  rw [if_pos (by kernel_rfl)]
  go_simp
  refine (PU.out _ FE.out).mono ?_
  rintro e w3 ⟨rfl, q', c', hx⟩
  have FX := Lib.hid hx
  have c9 := Lib.hid (FX.out.cells.2.2.2.2.2.2.2.2)
  clear hx PU
  go_simp
  refine hK.out _ _ c9.out (fun _ => ?_)
  clear hK K
  refine wpAnyH_done (by kernel_rfl) ?_ _
  go_wp2_with fail
  refine bodyPost_end (results_none (by kernel_rfl) _ _ _) rfl ⟨rfl, FX.out.any (by simp) (by simp)⟩

set_option maxRecDepth 100000 in
set_option maxHeartbeats 8000000 in
theorem other5_any (w0 : World) (b : Nat) (nm : ByteArray) (l : List Sg) (q : Option Addr) (c : Nat) (m : Q4) (pl : Int) (op dt : Bool) (hl : l.length ≤ 90) (n : Int) (hn : 0 ≤ n ∧ n ≤ 1048576) (hk : n % 6 = 5) (w : World) (h : FrX w0 w b nm l q c m pl op dt) :
    Calls Tryd.prog 57 #[.pointer (some ⟨b, 0, none⟩), .int .i64 n] w fun e w' => e = .returned (.tuple #[]) ∧ FrY w0 w' b nm l.length (l.length + 3) := by
  obtain ⟨hn0, hn1⟩ := hn
  have y1 : 0 ≤ n / 6 := by omega
  have y2 : n / 6 ≤ 1048576 := by omega
  have y5 : 0 ≤ n / 6 % 3 := by omega
  have y6 : n / 6 % 3 ≤ 2 := by omega
  have PX := Lib.hid (show ∀ W, FrX w0 W b nm l q c m pl op dt → Calls Tryd.prog 59 #[.pointer (some ⟨b, 0, none⟩), sgv (xP (2 + n / 6 % 3)), .bool false] W fun e w' => e = .returned (.tuple #[]) ∧ ∃ q' c', FrX w0 w' b nm (l ++ [xP (2 + n / 6 % 3)]) q' c' m pl op false from
    fun W g => fput_any w0 b nm l q c m pl op dt _ (one_xP ⟨by omega, by omega⟩) rfl false (by omega) W g)
  have PB := Lib.hid (show ∀ W, FrX w0 W b nm l q c m pl op dt → Calls Tryd.prog 59 #[.pointer (some ⟨b, 0, none⟩), sgv (bP 9), .bool false] W fun e w' => e = .returned (.tuple #[]) ∧ ∃ q' c', FrX w0 w' b nm (l ++ [bP 9]) q' c' m pl op false from
    fun W g => fput_any w0 b nm l q c m pl op dt _ (one_bare.1) rfl false (by omega) W g)
  have FX := Lib.hid h
  clear h
  have c7 := FX.out.cells.2.2.2.2.2.2.2.1
  go_enter Tryd.func57, Tryd.ntmps57
  cases op with
  | true =>
    go_wp2_with (first | (refine wl_buildS _ (xP (2 + n / 6 % 3)) (by kernel_rfl) ?_) | fail)
    refine (PX.out _ FX.out).mono ?_
    rintro e w3 ⟨rfl, q', c', hx⟩
    replace FX := Lib.hid hx
    clear hx PX PB c7
    have c7 := FX.out.cells.2.2.2.2.2.2.2.1
    have f7 := FX.out.x.h.frozen 7
    replace FX := Lib.hid (FX.out.opn false)
    go_wp2_with fail
    refine bodyPost_end (results_none (by kernel_rfl) _ _ _) rfl ⟨rfl, FX.out.any (by simp) (by simp)⟩
  | false =>
    go_wp2_with (first | (refine wl_buildS _ (bP 9) (by kernel_rfl) ?_) | fail)
    refine (PB.out _ FX.out).mono ?_
    rintro e w3 ⟨rfl, q', c', hx⟩
    replace FX := Lib.hid hx
    clear hx PX PB c7
    have c7 := FX.out.cells.2.2.2.2.2.2.2.1
    have f7 := FX.out.x.h.frozen 7
    replace FX := Lib.hid (FX.out.opn true)
    go_wp2_with fail
    refine bodyPost_end (results_none (by kernel_rfl) _ _ _) rfl ⟨rfl, FX.out.any (by simp) (by simp)⟩

theorem other_any (w0 : World) (b : Nat) (nm : ByteArray) (l : List Sg) (q : Option Addr) (c : Nat) (m : Q4) (pl : Int) (op dt : Bool) (hl : l.length ≤ 90) (n : Int) (hn : 0 ≤ n ∧ n ≤ 1048576) (w : World) (h : FrX w0 w b nm l q c m pl op dt) :
    Calls Tryd.prog 57 #[.pointer (some ⟨b, 0, none⟩), .int .i64 n] w fun e w' => e = .returned (.tuple #[]) ∧ FrY w0 w' b nm l.length (l.length + 3) := by
  have hc : n % 6 = 0 ∨ n % 6 = 1 ∨ n % 6 = 2 ∨ n % 6 = 3 ∨ n % 6 = 4 ∨ n % 6 = 5 := by omega
  rcases hc with e | e | e | e | e | e
  · exact other0_any w0 b nm l q c m pl op dt hl n hn e w h
  · exact other1_any w0 b nm l q c m pl op dt hl n hn e w h
  · exact other2_any w0 b nm l q c m pl op dt hl n hn e w h
  · exact other3_any w0 b nm l q c m pl op dt hl n hn e w h
  · exact other4_any w0 b nm l q c m pl op dt hl n hn e w h
  · exact other5_any w0 b nm l q c m pl op dt hl n hn e w h

end Go.Proofs.YtcomjcflllfobaaDoor

/- The maker's ligature. -/
namespace Go.Proofs.YtcomjcflllfobaaDoor
open Go.RowKit

theorem MkX.cells {w0 y : World} {b : Nat} {nm : ByteArray} {l : List Sg} {q : Option Addr} {c : Nat} {m : Q4} {pl : Int} {op dt : Bool} (h : MkX w0 y b nm l q c m pl op dt) : y.cell? ⟨b, 6, none⟩ = some (.int .i64 pl) ∧ y.frozen? ⟨b, 6, none⟩ = false :=
  ⟨h.h.cell (j := 6) rfl, h.h.frozen 6⟩
/-- A tied sign more. -/
theorem st_tie {l : List Sg} {i z : Nat} (h : stR false l = some (decide (0 < i ∧ i < z))) (hz : 2 ≤ z) (hi : i < z) {p : Int} (hp : -4 ≤ p ∧ p ≤ 12) (c : Bool) {d : Bool} (hd : decide (i + 1 = z) = d) :
    stR false (l ++ [tP p c d]) = some (decide (0 < i + 1 ∧ i + 1 < z)) := by
  rw [st_app, h]
  show stR _ [tP p c d] = _
  rw [st_cons, if_neg (by rw [one_tP c d hp]; decide), if_pos (show ((tP p c d).kind == 4) = true from rfl)]
  subst hd
  by_cases e : i + 1 = z
  · have e1 : (tP p c (decide (i + 1 = z))).last = true := decide_eq_true e
    have e2 : decide (0 < i ∧ i < z) = true := decide_eq_true ⟨by omega, hi⟩
    rw [if_pos e1, if_pos e2, st_nil, decide_eq_false (by omega)]
  · have e1 : ¬ (tP p c (decide (i + 1 = z))).last = true := by
      show ¬ decide (i + 1 = z) = true
      rw [decide_eq_false e]; decide
    rw [if_neg e1, st_nil, decide_eq_true (by omega)]

set_option maxRecDepth 100000 in
set_option maxHeartbeats 8000000 in
theorem liga_any (w0 : World) (b : Nat) (nm : ByteArray) (l : List Sg) (q : Option Addr) (c : Nat) (m : Q4) (pl : Int) (op dt : Bool) (hl : l.length ≤ 90) (n : Int) (hn : 0 ≤ n ∧ n ≤ 1048576) (w : World) (h : FrX w0 w b nm l q c m pl op dt) :
    Calls Tryd.prog 58 #[.pointer (some ⟨b, 0, none⟩), .int .i64 n] w fun e w' => e = .returned (.tuple #[]) ∧ FrY w0 w' b nm l.length (l.length + 3) := by
  obtain ⟨hn0, hn1⟩ := hn
  obtain ⟨z, hz, hz2, hz3⟩ : ∃ z : Nat, 2 + n % 2 = (z : Int) ∧ 2 ≤ z ∧ z ≤ 3 := ⟨(2 + n % 2).toNat, by omega, by omega, by omega⟩
  have y0 : 0 ≤ n % 2 := by omega
  have y00 : n % 2 ≤ 1 := by omega
  have y1 : 0 ≤ n / 2 := by omega
  have y2 : n / 2 ≤ 1048576 := by omega
  have y3 : 0 ≤ n / 2 % 5 := by omega
  have y4 : n / 2 % 5 ≤ 4 := by omega
  have y5 : 0 ≤ n / 16 := by omega
  have y6 : n / 16 ≤ 1048576 := by omega
  have y7 : 0 ≤ n / 16 % 5 := by omega
  have y8 : n / 16 % 5 ≤ 4 := by omega
  have y9 : 0 ≤ n / 32 := by omega
  have ya : n / 32 ≤ 1048576 := by omega
  have yb : 0 ≤ n / 32 % 3 := by omega
  have yc : n / 32 % 3 ≤ 2 := by omega
  have yd : 0 ≤ n / 128 := by omega
  have ye : n / 128 ≤ 1048576 := by omega
  have yf : 0 ≤ n / 128 % 2 := by omega
  have yg : n / 128 % 2 ≤ 1 := by omega
  obtain ⟨col, hcol⟩ : ∃ k : Bool, (n / 16 % 5 == 0) = k := ⟨_, rfl⟩
  have PU := Lib.hid (show ∀ l2 q2 c2 pl2 dt2 s d, l2.length ≤ 100 → ∀ W, MkX w0 W b nm l2 q2 c2 m pl2 op dt2 → Calls Tryd.prog 59 #[.pointer (some ⟨b, 0, none⟩), sgv s, .bool d] W fun e w' => e = .returned (.tuple #[]) ∧ ∃ q' c', MkX w0 w' b nm (l2 ++ [s]) q' c' m pl2 op d from
    fun l2 q2 c2 pl2 dt2 s d hl2 W g => put_any w0 b nm l2 q2 c2 m pl2 op dt2 s d hl2 W g)
  have HM := Lib.hid h.m
  have c6 := h.x.cells.1
  have f6 := h.x.cells.2
  have HS := Lib.hid h.s
  have FZ := Lib.hid (h.x.place (2 + n / 2 % 5))
  clear h
  go_enter Tryd.func58, Tryd.ntmps58
  go_upto_region 2 with (fail)
  generalize w.setCell ⟨b, 6, none⟩ (.int .i64 (2 + n / 2 % 5)) = y at *
  clear c6 f6
  go_wp2_with fail
  go_loopw [5] (fun i wr => ∃ (k : Nat) (l2 : List Sg) (q2 : Option Addr) (c2 : Nat) (pl2 : Int) (dt2 : Bool), i = .int .i64 k ∧ k ≤ z ∧ Hid (l2.length = l.length + k) ∧ Hid (stR false l2 = some (decide (0 < k ∧ k < z))) ∧ Hid (-4 ≤ pl2 ∧ pl2 ≤ 12) ∧ Hid (MkX w0 wr b nm l2 q2 c2 m pl2 op dt2)) (fun i _ => z - (intOf i).toNat)
  case atStart => exact ⟨0, l, q, c, _, dt, rfl, by omega, Lib.hid rfl, Lib.hid (by rw [HS.out]; rfl), Lib.hid ⟨by omega, by omega⟩, FZ⟩
  case round =>
    rename World => wr
    obtain ⟨k, l2, q2, c2, pl2, dt2, rfl, hk, LE, SE, PE, FX⟩ := hrel
    clear FZ HS
    by_cases hlt : k < z
    · have hlt' : (k : Int) < z := by omega
      have hk0 : (0 : Int) ≤ k := by omega
      obtain ⟨la, hla⟩ : ∃ la : Bool, decide (k + 1 = z) = la := ⟨_, rfl⟩
      have hla' : ((k : Int) + 1 == (z : Int)) = la := by
        rw [← hla]
        by_cases e : k + 1 = z
        · rw [decide_eq_true e]; simp; omega
        · rw [decide_eq_false e]; simp; omega
      have SN := Lib.hid (st_tie SE.out hz2 hlt PE.out col hla)
      clear hla SE
      have c6 := FX.out.cells.1
      have x1 : IntKind.i64.wrap ((k : Int) + 1) = (k : Int) + 1 := IntWalk.i64_in _ (by omega)
      have PUl := Lib.hid (PU.out l2 q2 c2 pl2 dt2 (tP pl2 col la) la (by have := LE.out; omega))
      have p0 := PE.out.1
      have p1 := PE.out.2
      go_wp2_with (first | (refine wl_buildS _ (tP pl2 col la) (by kernel_rfl) ?_) | fail)
      refine (PUl.out _ FX.out).mono ?_
      rintro e w3 ⟨rfl, q', c', hx⟩
      replace FX := Lib.hid hx
      have LN := Lib.hid (show (l2 ++ [tP pl2 col la]).length = l.length + (k + 1) by rw [List.length_append, LE.out]; rfl)
      clear hx PUl c6 hla' LE
      generalize l2 ++ [tP pl2 col la] = l3 at *
      have c6 := FX.out.cells.1
      have f6 := FX.out.cells.2
      obtain ⟨r, hr⟩ : ∃ r, pl2 + 1 + n / 32 % 3 - 4 * (n / 128 % 2) = r := ⟨_, rfl⟩
      have hr1 : -20 ≤ r ∧ r ≤ 100 := by omega
      obtain ⟨hr1, hr2⟩ := hr1
      have FZ := Lib.hid (FX.out.place r)
      have d6 := FZ.out.cells.1
      have h6 := FZ.out.cells.2
      by_cases h1 : r < -4
      · go_wp2_with fail
        go_roundw
        case rel => exact ⟨k + 1, l3, q', c', 7, la, by go_num, by omega, LN, SN, Lib.hid ⟨by omega, by omega⟩, Lib.hid (FZ.out.place 7)⟩
        case measure => simp [intOf]; omega
      · by_cases h2 : r > 12
        · go_wp2_with fail
          go_roundw
          case rel => exact ⟨k + 1, l3, q', c', 7, la, by go_num, by omega, LN, SN, Lib.hid ⟨by omega, by omega⟩, Lib.hid (FZ.out.place 7)⟩
          case measure => simp [intOf]; omega
        · go_wp2_with fail
          go_roundw
          case rel => exact ⟨k + 1, l3, q', c', r, la, by go_num, by omega, LN, SN, Lib.hid ⟨by omega, by omega⟩, FZ⟩
          case measure => simp [intOf]; omega
    · obtain rfl : k = z := by omega
      have FF := Lib.hid (show FrX w0 wr b nm l2 q2 c2 m pl2 op dt2 from ⟨FX.out, HM.out, PE.out, by rw [SE.out, decide_eq_false (by omega)]⟩)
      have hlen := LE.out
      clear SE FX LE
      go_wp2_with fail
      refine bodyPost_end (results_none (by kernel_rfl) _ _ _) rfl ⟨rfl, FF.out.any (by omega) (by omega)⟩

end Go.Proofs.YtcomjcflllfobaaDoor

/- How a maker begins: a name, a clef and a mensuration. -/
namespace Go.Proofs.YtcomjcflllfobaaDoor
open Go.RowKit

theorem conv1 (w : World) (b : UInt8) : (convert 97 9 (.slice (some ⟨w.heap.size, 0, none⟩) 1 1)).run Tryd.prog (w.alloc (.cells #[.int .u8 (b.toNat : Int)] 5)) = .ok (.string ⟨#[b]⟩) (w.alloc (.cells #[.int .u8 (b.toNat : Int)] 5)) :=
  run_convert_bytes_back _ _ _ 5 ⟨w.heap.size, 0, none⟩ 1 [b] Tryd.underlying97 Tryd.underlying5 Tryd.underlying9 (fun j hj => by
    have hj0 : j = 0 := by simp at hj; exact hj
    subst hj0
    exact lit_new w #[.int .u8 (b.toNat : Int)] 5 0 _ rfl)
theorem letters : ∀ k : Nat, k < 20 → ∃ u : UInt8, (u.toNat : Int) = 97 + (k : Int) ∧ nameV (⟨#[u]⟩ : ByteArray).data.toList = true := by
  have hall : ∀ k : Fin 20, (UInt8.ofNat (97 + k.val)).toNat = 97 + k.val ∧ nameV (⟨#[UInt8.ofNat (97 + k.val)]⟩ : ByteArray).data.toList = true := by decide +kernel
  intro k hk
  obtain ⟨h1, h2⟩ := hall ⟨k, hk⟩
  exact ⟨_, by rw [h1]; simp, h2⟩
def begI (k : Nat) : Int := ([0, 4, 3] : List Int).getD k 0
abbrev begA : Array Value := #[.int .i64 0, .int .i64 4, .int .i64 3]
theorem beg_ok : ∀ k : Nat, k < 3 → stepOk (begI k) ∧ begA[k]? = some (.int .i64 (begI k)) := by
  intro k hk
  have c : k = 0 ∨ k = 1 ∨ k = 2 := by omega
  rcases c with rfl | rfl | rfl <;> exact ⟨by decide, rfl⟩
abbrev mkrO (nm : ByteArray) (m : Q4) : Obj := .cells #[.string nm, .slice none 0 0, .int .i64 m.1, .int .i64 m.2.1, .int .i64 m.2.2.1, .int .i64 m.2.2.2, .int .i64 4, .bool false, .bool false] 76
theorem mkr_new (w0 w1 : World) (m : Q4) (hm : okM m) (hb : Below w0.heap.size w0 w1) (nm : ByteArray) (o : Obj) : FrX w0 (((w1.alloc (mkrO ⟨#[]⟩ m)).alloc o).setCell ⟨w1.heap.size, 0, none⟩ (.string nm)) w1.heap.size nm [] none 0 m 4 false false :=
  ⟨⟨((HoldsB.new w1 76 #[.string ⟨#[]⟩, .slice none 0 0, .int .i64 m.1, .int .i64 m.2.1, .int .i64 m.2.2.1, .int .i64 m.2.2.2, .int .i64 4, .bool false, .bool false]).al o).set 0 _, World.ownsRow_nil _ _ _ _,
    w_set (p := ⟨w1.heap.size, 0, none⟩) (w_alloc (w_alloc hb _) _) hb.size _, hb.size⟩, hm, by decide, rfl⟩

set_option maxRecDepth 100000 in
set_option maxHeartbeats 8000000 in
theorem begin_any (n : Int) (hn : 0 ≤ n ∧ n ≤ 1048576) (w : World) :
    Calls Tryd.prog 55 #[.int .i64 n] w fun e w' => ∃ b nm, e = .returned (.pointer (some ⟨b, 0, none⟩)) ∧ nm.size ≤ 1 ∧ nameV nm.data.toList = true ∧ FrY w w' b nm 2 2 := by
  obtain ⟨hn0, hn1⟩ := hn
  have KM := Lib.hid (fun W => kmens_any n ⟨by omega, by omega⟩ W)
  have y1 : 0 ≤ n / 16 := by omega
  have y2 : n / 16 ≤ 1048576 := by omega
  have y5 : 0 ≤ n / 320 := by omega
  have y6 : n / 320 ≤ 1048576 := by omega
  have y7 : 0 ≤ n / 960 := by omega
  have y8 : n / 960 ≤ 1048576 := by omega
  have y9 : 0 ≤ n / 960 % 3 := by omega
  have ya : n / 960 % 3 ≤ 2 := by omega
  obtain ⟨j, hj, hj7⟩ : ∃ j : Nat, n / 320 % 3 = (j : Int) ∧ j < 3 := ⟨(n / 320 % 3).toNat, by omega, by omega⟩
  obtain ⟨ha, hc⟩ := beg_ok j hj7
  have hj0 : (0 : Int) ≤ j := by omega
  have hj6 : (j : Int) < 3 := by omega
  obtain ⟨t, ht, ht20⟩ : ∃ t : Nat, n / 16 % 20 = (t : Int) ∧ t < 20 := ⟨(n / 16 % 20).toNat, by omega, by omega⟩
  have ht0 : (0 : Int) ≤ t := by omega
  have ht6 : (t : Int) < 20 := by omega
  obtain ⟨u, hu, hnm⟩ := letters t ht20
  have NM := Lib.hid hnm
  obtain ⟨k, hk⟩ : ∃ k : Bool, (n / 960 % 3 == 0) = k := ⟨_, rfl⟩
  have x1 : IntKind.i64.wrap (97 + (t : Int)) = 97 + (t : Int) := IntWalk.i64_in _ (by omega)
  have x3 : IntKind.u8.wrap (97 + (t : Int)) = 97 + (t : Int) := IntWalk.u8_in _ (by omega)
  have PU := Lib.hid (show ∀ b nm m, ∀ W, FrX w W b nm [] none 0 m 4 false false → Calls Tryd.prog 59 #[.pointer (some ⟨b, 0, none⟩), sgv (cP (begI j) 3), .bool false] W fun e w' => e = .returned (.tuple #[]) ∧ ∃ q' c', FrX w w' b nm ([] ++ [cP (begI j) 3]) q' c' m 4 false false from
    fun b nm m W g => fput_any w b nm [] none 0 m 4 false false _ (one_cP ha ⟨by decide, by decide⟩) rfl false (by decide) W g)
  generalize begI j = z at *
  have PM := Lib.hid (show ∀ b nm q c m, okM m → ∀ W, FrX w W b nm [cP z 3] q c m 4 false false → Calls Tryd.prog 59 #[.pointer (some ⟨b, 0, none⟩), sgv (mP m k), .bool false] W fun e w' => e = .returned (.tuple #[]) ∧ ∃ q' c', FrX w w' b nm ([cP z 3] ++ [mP m k]) q' c' m 4 false false from
    fun b nm q c m hm W g => fput_any w b nm [cP z 3] q c m 4 false false _ (one_mP k hm) rfl false (by simp) W g)
  clear hnm ha hj7 ht20
  go_enter Tryd.func55, Tryd.ntmps55
  go_wp2_with fail
  refine (KM.out _).mono ?_
  rintro e w1 ⟨⟨m, hm, rfl⟩, hb⟩
  have HM := Lib.hid hm
  have FX := Lib.hid (mkr_new w w1 m hm hb ⟨#[u]⟩ (.cells #[.int .u8 (97 + (t : Int))] 5))
  have HB := Lib.hid (HoldsB.new w1 76 #[.string ⟨#[]⟩, .slice none 0 0, .int .i64 m.1, .int .i64 m.2.1, .int .i64 m.2.2.1, .int .i64 m.2.2.2, .int .i64 4, .bool false, .bool false])
  clear hb hm KM
  obtain ⟨m0, m1, m2, m3⟩ := m
  simp only at FX HB
  go_upto_region 2 with (fail)
  obtain ⟨b, hb⟩ : ∃ b, w1.heap.size = b := ⟨_, rfl⟩
  rw [hb] at FX HB ⊢
  generalize w1.alloc (mkrO ⟨#[]⟩ (m0, m1, m2, m3)) = y at *
  have hcv := conv1 y u
  rw [hu] at hcv
  have g0 := (HB.out.al (.cells #[.int .u8 (97 + (t : Int))] 5)).cell (j := 0) rfl
  have g1 := (HB.out.al (.cells #[.int .u8 (97 + (t : Int))] 5)).frozen 0
  clear hb HB
  go_upto_region 3 with (fail)
  clear g0 g1 hcv x1 x3 hu
  generalize (y.alloc (.cells #[.int .u8 (97 + (t : Int))] 5)).setCell ⟨b, 0, none⟩ (.string ⟨#[u]⟩) = y3 at *
  go_wp2_with (first | (refine wl_buildS _ (cP z 3) (by kernel_rfl) ?_) | fail)
  refine (PU.out b ⟨#[u]⟩ (m0, m1, m2, m3) _ (FX.out.later (w_alloc (w_refl _) _))).mono ?_
  rintro e w3 ⟨rfl, q', c', hx⟩
  replace FX := Lib.hid hx
  clear hx PU
  obtain ⟨-, -, c2, c3, c4, c5, -, -, -⟩ := FX.out.cells
  go_wp2_with (first | (refine wl_buildS _ (mP (m0, m1, m2, m3) k) (by kernel_rfl) ?_) | fail)
  refine (PM.out b ⟨#[u]⟩ _ _ (m0, m1, m2, m3) HM.out _ FX.out).mono ?_
  rintro e w5 ⟨rfl, q5, k5, hx⟩
  replace FX := Lib.hid hx
  clear hx PM c2 c3 c4 c5
  go_wp2_with fail
  go_ret
  exact ⟨b, ⟨#[u]⟩, rfl, Nat.le_refl 1, NM.out, FX.out.any (by simp) (by simp)⟩

end Go.Proofs.YtcomjcflllfobaaDoor

/- The kit's Free: some valid part of 2 to 60 signs. -/
namespace Go.Proofs.YtcomjcflllfobaaDoor
open Go.RowKit

theorem FrY.widen {w0 y : World} {b : Nat} {nm : ByteArray} {lo hi lo2 hi2 : Nat} (h : FrY w0 y b nm lo2 hi2) (h1 : lo ≤ lo2) (h2 : hi2 ≤ hi) : FrY w0 y b nm lo hi := by
  obtain ⟨l, q, c, m, pl, op, dt, g, g1, g2⟩ := h
  exact ⟨l, q, c, m, pl, op, dt, g, Nat.le_trans h1 g1, Nat.le_trans g2 h2⟩
/-- What Free hands back. -/
def FreeR (w w' : World) (v : Value) : Prop := ∃ (nm : ByteArray) (l : List Sg) (q : Option Addr) (c : Nat), v = ptv nm q l.length c ∧ nm.size ≤ 1 ∧ nameV nm.data.toList = true ∧ stR false l = some false ∧ 2 ≤ l.length ∧ l.length ≤ 60 ∧ OwnL w w' 27 17 (.slice q l.length c) l.length (flatG l)

set_option maxRecDepth 100000 in
set_option maxHeartbeats 16000000 in
theorem free_any (p : Option Addr) (cap : Nat) (zs : List Int) (hz : ∀ z ∈ zs, -9223372036854775808 ≤ z ∧ z ≤ 9223372036854775807) (w : World) (h : SlP w 1 p zs.length cap (ints zs)) :
    Calls Tryd.prog 37 #[.slice p zs.length cap] w fun e w' => ∃ v, e = .returned v ∧ FreeR w w' v := by
  have f1 := h.fit
  have f2 := h.max
  have HL := Lib.hid (h.later (w_alloc (w_refl w) (ptO ⟨#[]⟩ none 0 0)))
  have HP := Lib.hid (pt_new w ⟨#[]⟩ none 0 0)
  have BW := Lib.hid (w_alloc (w_refl w) (ptO ⟨#[]⟩ none 0 0))
  clear h
  have ZB := Lib.hid hz
  have AT := Lib.hid (fun W g => ats_any p cap zs 0 W g (by decide))
  have MD := Lib.hid (fun a (ha : -9223372036854775808 ≤ a ∧ a ≤ 9223372036854775807) W => mod_any a 1048576 W ha.1 ha.2 (by decide) (by decide))
  have BG := Lib.hid begin_any
  clear hz
  have z0 := Lib.hid (getD_bdsL ZB.out 0)
  go_enter Tryd.func37, Tryd.ntmps37
  go_upto_region 1 with (fail)
  obtain ⟨r, hr⟩ : ∃ r, w.heap.size = r := ⟨_, rfl⟩
  rw [hr] at HP ⊢
  have BR := Lib.hid hr
  generalize w.alloc (ptO ⟨#[]⟩ none 0 0) = y at *
  clear hr
  go_wp2_with fail
  refine (AT.out _ HL.out).mono ?_
  rintro e w1 ⟨rfl, rfl⟩
  clear AT
  generalize zs.getD 0 0 = a at *
  go_wp2_with fail
  refine (MD.out a z0.out _).mono ?_
  rintro e w2 ⟨rfl, rfl⟩
  rename World => y1
  have a0 : 0 ≤ a % 1048576 := by omega
  have a1 : a % 1048576 ≤ 1048576 := by omega
  generalize a % 1048576 = A at *
  clear z0
  go_wp2_with fail
  refine (BG.out A ⟨a0, a1⟩ _).mono ?_
  rintro e w3 ⟨b, nm, rfl, hnm, hna, hfy⟩
  have FY := Lib.hid hfy
  have NS := Lib.hid hnm
  have NA := Lib.hid hna
  clear hfy hnm hna BG a0 a1
  have OT := Lib.hid (fun l q c m pl op dt => other_any y1 b nm l q c m pl op dt)
  have LI := Lib.hid (fun l q c m pl op dt => liga_any y1 b nm l q c m pl op dt)
  have NT := Lib.hid (fun l q c m pl op dt => note_any y1 b nm l q c m pl op dt)
  have AB := Lib.hid above_any
  have PU := Lib.hid (show ∀ l q c m pl op dt s, oneE s = 0 → (s.kind == 4) = false → ∀ d, l.length ≤ 90 → ∀ W, FrX y1 W b nm l q c m pl op dt → Calls Tryd.prog 59 #[.pointer (some ⟨b, 0, none⟩), sgv s, .bool d] W fun e w' => e = .returned (.tuple #[]) ∧ ∃ q' c', FrX y1 w' b nm (l ++ [s]) q' c' m pl op d from
    fun l q c m pl op dt s h0 hk d hl W g => fput_any y1 b nm l q c m pl op dt s h0 hk d (by omega) W g)
  go_wp2_with fail
  go_loopw [4] (fun i wr => ∃ k : Nat, 1 ≤ k ∧ (k ≤ zs.length ∨ k = 1) ∧ i = .int .i64 k ∧ Hid (FrY y1 wr b nm 2 57)) (fun i _ => zs.length - (intOf i).toNat)
  case atStart =>
    obtain ⟨l, q, c, m, pl, op, dt, g, g1, g2⟩ := FY.out
    exact ⟨1, by omega, .inr rfl, rfl, Lib.hid (g.any g1 (by omega))⟩
  case round =>
    rename World => wr
    clear FY
    obtain ⟨k, hk1, hk2, rfl, FY⟩ := hrel
    obtain ⟨l, q, c, m, pl, op, dt, hx, hl1, hl2⟩ := FY.out
    have FX := Lib.hid hx
    clear hx FY
    have c1 := FX.out.cells.2.1
    have hk0 : (0 : Int) ≤ k := by omega
    by_cases hlt : k < zs.length
    · have hlt' : (k : Int) < zs.length := by omega
      by_cases h55 : l.length < 55
      · have h55' : (l.length : Int) < 55 := by omega
        obtain ⟨b0, off, rfl, -, hc⟩ := (HL.out.later FX.out.x.bel).at_ (by omega)
        obtain ⟨zk, e0, hzk⟩ : ∃ z : Int, wr.cell? ⟨b0, off + k, none⟩ = some (.int .i64 z) ∧ (-9223372036854775808 ≤ z ∧ z ≤ 9223372036854775807) := ⟨zs[k], hc k _ (by simp [List.getElem?_map, List.getElem?_eq_getElem hlt]), ZB.out _ (List.getElem_mem hlt)⟩
        clear hc
        have HB := Lib.hid hzk
        clear hzk
        go_wp2_with fail
        refine (MD.out zk HB.out _).mono ?_
        rintro e w4 ⟨rfl, rfl⟩
        rename World => w4
        have n0 : 0 ≤ zk % 1048576 := by omega
        have n1 : zk % 1048576 ≤ 1048576 := by omega
        generalize zk % 1048576 = N at *
        have v0 : 0 ≤ N / 16 := by omega
        have v1 : N / 16 ≤ 1048576 := by omega
        have v2 : 0 ≤ N / 16 % 6 := by omega
        have v3 : N / 16 % 6 ≤ 5 := by omega
        have v4 : 0 ≤ N / 96 := by omega
        have v5 : N / 96 ≤ 1048576 := by omega
        clear e0 HB MD
        have hK : N % 16 = 0 ∨ N % 16 = 1 ∨ N % 16 = 2 ∨ N % 16 = 3 ∨ N % 16 = 4 ∨ N % 16 = 5 ∨ N % 16 = 6 ∨ N % 16 = 7 ∨ (8 ≤ N % 16 ∧ N % 16 ≤ 15) := by omega
        rcases hK with hK | hK | hK | hK | hK | hK | hK | hK | hK
        · clear LI NT AB PU
          go_wp2_with fail
          refine (OT.out l q c m pl op dt (by omega) (N / 16) ⟨v0, v1⟩ _ FX.out).mono ?_
          rintro e w5 ⟨rfl, hfy⟩
          have FN := Lib.hid (hfy.widen (lo := 2) (hi := 57) (by omega) (by omega))
          clear hfy
          clear FX c1 OT
          go_wp2_with fail
          go_roundw
          case rel => exact ⟨k + 1, by omega, .inl (by omega), by go_num, FN⟩
          case measure => simp [intOf]; omega
        · clear LI NT AB PU
          go_wp2_with fail
          refine (OT.out l q c m pl op dt (by omega) (N / 16) ⟨v0, v1⟩ _ FX.out).mono ?_
          rintro e w5 ⟨rfl, hfy⟩
          have FN := Lib.hid (hfy.widen (lo := 2) (hi := 57) (by omega) (by omega))
          clear hfy
          clear FX c1 OT
          go_wp2_with fail
          go_roundw
          case rel => exact ⟨k + 1, by omega, .inl (by omega), by go_num, FN⟩
          case measure => simp [intOf]; omega
        · clear OT NT AB PU
          go_wp2_with fail
          refine (LI.out l q c m pl op dt (by omega) (N / 16) ⟨v0, v1⟩ _ FX.out).mono ?_
          rintro e w5 ⟨rfl, hfy⟩
          have FN := Lib.hid (hfy.widen (lo := 2) (hi := 57) (by omega) (by omega))
          clear hfy
          clear FX c1 LI
          go_wp2_with fail
          go_roundw
          case rel => exact ⟨k + 1, by omega, .inl (by omega), by go_num, FN⟩
          case measure => simp [intOf]; omega
        · clear OT NT LI
          obtain ⟨-, -, c2, c3, c4, c5, -, -, -⟩ := FX.out.cells
          obtain ⟨m0, m1, m2, m3⟩ := m
          go_wp2_with (first | (refine wl_buildS _ (rS (2 + N / 16 % 6)) (by kernel_rfl) ?_) | fail)
          refine (AB.out (m0, m1, m2, m3) (2 + N / 16 % 6) ⟨by omega, by omega⟩ _).mono ?_
          rintro e w5 ⟨⟨d, rfl⟩, hb⟩
          replace FX := Lib.hid (FX.out.later hb)
          clear hb c1 c2 c3 c4 c5 AB
          go_wp2_with fail
          refine (PU.out l q c (m0, m1, m2, m3) pl op dt (rS (2 + N / 16 % 6)) (one_rS ⟨by omega, by omega⟩) rfl d (by omega) _ FX.out).mono ?_
          rintro e w6 ⟨rfl, q', c', hx⟩
          have FN := Lib.hid (hx.any (lo := 2) (hi := 57) (by simp; omega) (by simp; omega))
          clear hx FX PU
          go_wp2_with fail
          go_roundw
          case rel => exact ⟨k + 1, by omega, .inl (by omega), by go_num, FN⟩
          case measure => simp [intOf]; omega
        · clear OT NT LI
          obtain ⟨-, -, c2, c3, c4, c5, -, -, -⟩ := FX.out.cells
          obtain ⟨m0, m1, m2, m3⟩ := m
          go_wp2_with (first | (refine wl_buildS _ (rS (2 + N / 16 % 6)) (by kernel_rfl) ?_) | fail)
          refine (AB.out (m0, m1, m2, m3) (2 + N / 16 % 6) ⟨by omega, by omega⟩ _).mono ?_
          rintro e w5 ⟨⟨d, rfl⟩, hb⟩
          replace FX := Lib.hid (FX.out.later hb)
          clear hb c1 c2 c3 c4 c5 AB
          go_wp2_with fail
          refine (PU.out l q c (m0, m1, m2, m3) pl op dt (rS (2 + N / 16 % 6)) (one_rS ⟨by omega, by omega⟩) rfl d (by omega) _ FX.out).mono ?_
          rintro e w6 ⟨rfl, q', c', hx⟩
          have FN := Lib.hid (hx.any (lo := 2) (hi := 57) (by simp; omega) (by simp; omega))
          clear hx FX PU
          go_wp2_with fail
          go_roundw
          case rel => exact ⟨k + 1, by omega, .inl (by omega), by go_num, FN⟩
          case measure => simp [intOf]; omega
        · clear OT NT LI AB
          have c8 := FX.out.cells.2.2.2.2.2.2.2.2
          cases dt with
          | false =>
            have FN := Lib.hid (FX.out.any (lo := 2) (hi := 57) (by omega) (by omega))
            go_wp2_with fail
            go_roundw
            case rel => exact ⟨k + 1, by omega, .inl (by omega), by go_num, FN⟩
            case measure => simp [intOf]; omega
          | true =>
            go_wp2_with (first | (refine wl_buildS _ dS (by kernel_rfl) ?_) | fail)
            refine (PU.out l q c m pl op true dS one_bare.2.2.2 rfl false (by omega) _ FX.out).mono ?_
            rintro e w6 ⟨rfl, q', c', hx⟩
            have FN := Lib.hid (hx.any (lo := 2) (hi := 57) (by simp; omega) (by simp; omega))
            clear hx FX PU c1 c8
            go_wp2_with fail
            go_roundw
            case rel => exact ⟨k + 1, by omega, .inl (by omega), by go_num, FN⟩
            case measure => simp [intOf]; omega
        · clear OT NT LI AB
          have c8 := FX.out.cells.2.2.2.2.2.2.2.2
          cases dt with
          | false =>
            have FN := Lib.hid (FX.out.any (lo := 2) (hi := 57) (by omega) (by omega))
            go_wp2_with fail
            go_roundw
            case rel => exact ⟨k + 1, by omega, .inl (by omega), by go_num, FN⟩
            case measure => simp [intOf]; omega
          | true =>
            go_wp2_with (first | (refine wl_buildS _ dS (by kernel_rfl) ?_) | fail)
            refine (PU.out l q c m pl op true dS one_bare.2.2.2 rfl false (by omega) _ FX.out).mono ?_
            rintro e w6 ⟨rfl, q', c', hx⟩
            have FN := Lib.hid (hx.any (lo := 2) (hi := 57) (by simp; omega) (by simp; omega))
            clear hx FX PU c1 c8
            go_wp2_with fail
            go_roundw
            case rel => exact ⟨k + 1, by omega, .inl (by omega), by go_num, FN⟩
            case measure => simp [intOf]; omega
        · clear OT NT LI AB
          have c8 := FX.out.cells.2.2.2.2.2.2.2.2
          cases dt with
          | false =>
            have FN := Lib.hid (FX.out.any (lo := 2) (hi := 57) (by omega) (by omega))
            go_wp2_with fail
            go_roundw
            case rel => exact ⟨k + 1, by omega, .inl (by omega), by go_num, FN⟩
            case measure => simp [intOf]; omega
          | true =>
            go_wp2_with (first | (refine wl_buildS _ dS (by kernel_rfl) ?_) | fail)
            refine (PU.out l q c m pl op true dS one_bare.2.2.2 rfl false (by omega) _ FX.out).mono ?_
            rintro e w6 ⟨rfl, q', c', hx⟩
            have FN := Lib.hid (hx.any (lo := 2) (hi := 57) (by simp; omega) (by simp; omega))
            clear hx FX PU c1 c8
            go_wp2_with fail
            go_roundw
            case rel => exact ⟨k + 1, by omega, .inl (by omega), by go_num, FN⟩
            case measure => simp [intOf]; omega
        · obtain ⟨K, hK9⟩ : ∃ K, N % 16 = K := ⟨_, rfl⟩
          have hK8 : 8 ≤ K := by omega
          have k0 : (K == 0) = false := by simp; omega
          have k1 : (K == 1) = false := by simp; omega
          have k2 : (K == 2) = false := by simp; omega
          have k3 : (K == 3) = false := by simp; omega
          have k4 : (K == 4) = false := by simp; omega
          have k5 : (K == 5) = false := by simp; omega
          have k6 : (K == 6) = false := by simp; omega
          have k7 : (K == 7) = false := by simp; omega
          clear OT LI AB PU hK hK8
          go_wp2_with fail
          refine (NT.out l q c m pl op dt (by omega) (2 + N / 16 % 6) (N / 96) ⟨by omega, by omega⟩ ⟨v4, v5⟩ _ FX.out).mono ?_
          rintro e w5 ⟨rfl, hfy⟩
          have FN := Lib.hid (hfy.widen (lo := 2) (hi := 57) (by omega) (by omega))
          clear hfy
          clear FX c1 NT
          go_wp2_with fail
          go_roundw
          case rel => exact ⟨k + 1, by omega, .inl (by omega), by go_num, FN⟩
          case measure => simp [intOf]; omega
      · have h55' : ¬ (l.length : Int) < 55 := by omega
        clear OT LI NT AB MD
        have c7 := FX.out.cells.2.2.2.2.2.2.2.1
        cases op with
        | false =>
          go_upto_region 24 with (fail)
          clear c7 c1
          obtain ⟨c0, c1, -⟩ := FX.out.cells
          have HR := Lib.hid (HP.out.later FX.out.x.bel)
          have r0 := HR.out.cell (j := 0) rfl
          have r1 := HR.out.cell (j := 1) rfl
          have g0 := HR.out.frozen 0
          have g1 := HR.out.frozen 1
          have hrb : r < b + 1 := by have := HP.out.lt; have := FX.out.x.le; omega
          have hrw : w.heap.size ≤ r := by have := BR.out; omega
          have HZ := Lib.hid ((HR.out.set 0 (.string nm)).set 1 (.slice q l.length c))
          have OZ := Lib.hid (own_base (own_other (own_other FX.out.x.row hrb 0 (.string nm)) hrb 1 (.slice q l.length c)) (show w.heap.size ≤ b + 1 by omega))
          have BZ := Lib.hid (w_put (w_put (w_below BW.out FX.out.x.bel) hrw 0 (.string nm)) hrw 1 (.slice q l.length c))
          have SZ := FX.out.s
          have d0 := HZ.out.cell (j := 0) rfl
          have d1 := HZ.out.cell (j := 1) rfl
          go_wp2_with fail
          refine bodyPost_ret (v := ptv nm q l.length c) (by simp [results, Tryd.results37, go_sem, d0, d1]) rfl ⟨_, rfl, nm, l, q, c, rfl, NS.out, NA.out, SZ, hl1, by omega, BZ.out, OZ.out⟩
        | true =>
          go_wp2_with (first | (refine wl_buildS _ (xP 2) (by kernel_rfl) ?_) | fail)
          refine (PU.out l q c m pl true dt (xP 2) (one_xP ⟨by decide, by decide⟩) rfl false (by omega) _ FX.out).mono ?_
          rintro e w9 ⟨rfl, q', c', hx⟩
          replace FX := Lib.hid hx
          have HL3 := Lib.hid (show 2 ≤ (l ++ [xP 2]).length ∧ (l ++ [xP 2]).length ≤ 60 by rw [List.length_append]; simp; omega)
          clear hx c7 c1
          generalize l ++ [xP 2] = l3 at *
          obtain ⟨c0, c1, -⟩ := FX.out.cells
          have HR := Lib.hid (HP.out.later FX.out.x.bel)
          have r0 := HR.out.cell (j := 0) rfl
          have r1 := HR.out.cell (j := 1) rfl
          have g0 := HR.out.frozen 0
          have g1 := HR.out.frozen 1
          have hrb : r < b + 1 := by have := HP.out.lt; have := FX.out.x.le; omega
          have hrw : w.heap.size ≤ r := by have := BR.out; omega
          have HZ := Lib.hid ((HR.out.set 0 (.string nm)).set 1 (.slice q' l3.length c'))
          have OZ := Lib.hid (own_base (own_other (own_other FX.out.x.row hrb 0 (.string nm)) hrb 1 (.slice q' l3.length c')) (show w.heap.size ≤ b + 1 by omega))
          have BZ := Lib.hid (w_put (w_put (w_below BW.out FX.out.x.bel) hrw 0 (.string nm)) hrw 1 (.slice q' l3.length c'))
          have SZ := FX.out.s
          have d0 := HZ.out.cell (j := 0) rfl
          have d1 := HZ.out.cell (j := 1) rfl
          go_wp2_with fail
          refine bodyPost_ret (v := ptv nm q' l3.length c') (by simp [results, Tryd.results37, go_sem, d0, d1]) rfl ⟨_, rfl, nm, l3, q', c', rfl, NS.out, NA.out, SZ, HL3.out.1, HL3.out.2, BZ.out, OZ.out⟩
    · have hlt' : ¬ (k : Int) < zs.length := by omega
      clear OT LI NT AB MD
      have c7 := FX.out.cells.2.2.2.2.2.2.2.1
      cases op with
      | false =>
        go_upto_region 24 with (fail)
        clear c7 c1
        obtain ⟨c0, c1, -⟩ := FX.out.cells
        have HR := Lib.hid (HP.out.later FX.out.x.bel)
        have r0 := HR.out.cell (j := 0) rfl
        have r1 := HR.out.cell (j := 1) rfl
        have g0 := HR.out.frozen 0
        have g1 := HR.out.frozen 1
        have hrb : r < b + 1 := by have := HP.out.lt; have := FX.out.x.le; omega
        have hrw : w.heap.size ≤ r := by have := BR.out; omega
        have HZ := Lib.hid ((HR.out.set 0 (.string nm)).set 1 (.slice q l.length c))
        have OZ := Lib.hid (own_base (own_other (own_other FX.out.x.row hrb 0 (.string nm)) hrb 1 (.slice q l.length c)) (show w.heap.size ≤ b + 1 by omega))
        have BZ := Lib.hid (w_put (w_put (w_below BW.out FX.out.x.bel) hrw 0 (.string nm)) hrw 1 (.slice q l.length c))
        have SZ := FX.out.s
        have d0 := HZ.out.cell (j := 0) rfl
        have d1 := HZ.out.cell (j := 1) rfl
        go_wp2_with fail
        refine bodyPost_ret (v := ptv nm q l.length c) (by simp [results, Tryd.results37, go_sem, d0, d1]) rfl ⟨_, rfl, nm, l, q, c, rfl, NS.out, NA.out, SZ, hl1, by omega, BZ.out, OZ.out⟩
      | true =>
        go_wp2_with (first | (refine wl_buildS _ (xP 2) (by kernel_rfl) ?_) | fail)
        refine (PU.out l q c m pl true dt (xP 2) (one_xP ⟨by decide, by decide⟩) rfl false (by omega) _ FX.out).mono ?_
        rintro e w9 ⟨rfl, q', c', hx⟩
        replace FX := Lib.hid hx
        have HL3 := Lib.hid (show 2 ≤ (l ++ [xP 2]).length ∧ (l ++ [xP 2]).length ≤ 60 by rw [List.length_append]; simp; omega)
        clear hx c7 c1
        generalize l ++ [xP 2] = l3 at *
        obtain ⟨c0, c1, -⟩ := FX.out.cells
        have HR := Lib.hid (HP.out.later FX.out.x.bel)
        have r0 := HR.out.cell (j := 0) rfl
        have r1 := HR.out.cell (j := 1) rfl
        have g0 := HR.out.frozen 0
        have g1 := HR.out.frozen 1
        have hrb : r < b + 1 := by have := HP.out.lt; have := FX.out.x.le; omega
        have hrw : w.heap.size ≤ r := by have := BR.out; omega
        have HZ := Lib.hid ((HR.out.set 0 (.string nm)).set 1 (.slice q' l3.length c'))
        have OZ := Lib.hid (own_base (own_other (own_other FX.out.x.row hrb 0 (.string nm)) hrb 1 (.slice q' l3.length c')) (show w.heap.size ≤ b + 1 by omega))
        have BZ := Lib.hid (w_put (w_put (w_below BW.out FX.out.x.bel) hrw 0 (.string nm)) hrw 1 (.slice q' l3.length c'))
        have SZ := FX.out.s
        have d0 := HZ.out.cell (j := 0) rfl
        have d1 := HZ.out.cell (j := 1) rfl
        go_wp2_with fail
        refine bodyPost_ret (v := ptv nm q' l3.length c') (by simp [results, Tryd.results37, go_sem, d0, d1]) rfl ⟨_, rfl, nm, l3, q', c', rfl, NS.out, NA.out, SZ, HL3.out.1, HL3.out.2, BZ.out, OZ.out⟩

end Go.Proofs.YtcomjcflllfobaaDoor

/- Pieces of a list of signs in memory, and an append at a step of a drawn region. -/
namespace Go.Proofs.YtcomjcflllfobaaDoor
open Go.RowKit

theorem flatG_take : ∀ (l : List Sg) (i : Nat), flatG (l.take i) = (flatG l).take (i * 17)
  | [], i => by simp [flatG]
  | s :: t, 0 => by simp [flatG]
  | s :: t, i + 1 => by
    show sgL s ++ flatG (t.take i) = (sgL s ++ flatG t).take ((i + 1) * 17)
    rw [flatG_take t i, show (i + 1) * 17 = (sgL s).length + i * 17 by rw [sgL_len]; omega, List.take_length_add_append]
theorem flatG_drop : ∀ (l : List Sg) (i : Nat), flatG (l.drop i) = (flatG l).drop (i * 17)
  | [], i => by simp [flatG]
  | s :: t, 0 => by simp
  | s :: t, i + 1 => by
    show flatG (t.drop i) = (sgL s ++ flatG t).drop ((i + 1) * 17)
    rw [flatG_drop t i, show (i + 1) * 17 = (sgL s).length + i * 17 by rw [sgL_len]; omega, List.drop_length_add_append]
theorem SlP.takeG {W : World} {q : Option Addr} {c : Nat} {l : List Sg} (h : SlP W 17 q l.length c (flatG l)) {i : Nat} (hi : i ≤ l.length) : SlP W 17 q i c (flatG (l.take i)) := by
  have f := h.fit
  refine ⟨by rw [flatG_len, List.length_take, Nat.min_eq_left hi], by omega, h.max, h.nil, flatG_one _, fun h0 => ?_⟩
  obtain ⟨b, off, e, hb, hc⟩ := h.at_ (by omega)
  refine ⟨b, off, e, hb, fun j u hj => hc j u ?_⟩
  rw [flatG_take] at hj
  have hlt := (List.getElem?_eq_some_iff.1 hj).1
  rw [List.length_take] at hlt
  rwa [List.getElem?_take, if_pos (by omega)] at hj
/-- Where a piece from i on lies. -/
def dropQ (q : Option Addr) (c i : Nat) : Option Addr := if c = i then q else q.map (·.add (i * 17))
theorem SlP.dropG {W : World} {q : Option Addr} {c : Nat} {l : List Sg} (h : SlP W 17 q l.length c (flatG l)) {i : Nat} (hi : i ≤ l.length) : SlP W 17 (dropQ q c i) (l.length - i) (c - i) (flatG (l.drop i)) := by
  have f := h.fit
  have m := h.max
  refine ⟨by rw [flatG_len, List.length_drop], by omega, by omega, fun e => ?_, flatG_one _, fun h0 => ?_⟩
  · unfold dropQ at e
    split at e
    · omega
    · cases q with
      | none => have := h.nil rfl; omega
      | some a => cases e
  · obtain ⟨b, off, rfl, hb, hc⟩ := h.at_ (by omega)
    refine ⟨b, off + i * 17, ?_, hb, fun j u hj => ?_⟩
    · unfold dropQ
      rw [if_neg (by omega), Option.map_some, add_none]
    · rw [flatG_drop, List.getElem?_drop] at hj
      rw [Nat.add_assoc]
      exact hc _ u hj
theorem own_val {w : World} {base : Nat} {e : TypeId} {k : Nat} {v : Value} {n : Nat} {cs : List Value} (h : w.ownsRow base e k v n cs) : ∃ q c, v = .slice q n c := by
  rcases h.2 with ⟨rfl, rfl⟩ | ⟨g, c, _, rfl, _⟩
  · exact ⟨none, 0, rfl⟩
  · exact ⟨_, c, rfl⟩
theorem own_sl {w : World} {base : Nat} {q : Option Addr} {n c : Nat} {l : List Sg} (h : w.ownsRow base 27 17 (.slice q n c) n (flatG l)) (hn : l.length = n) : SlP w 17 q n c (flatG l) := by
  obtain ⟨q', c', e, hs⟩ := SlP.of_own h (by rw [flatG_len, hn]) (flatG_one l)
  injection e with e1 e2 e3
  subst e1 e3
  exact hs
theorem step_append_sl {w : World} {ops : Array Oper} {o : Oper} {a : Act} {K : Act → World → Prop} {Q : Exit → Act → World → Prop} {E : Prop} (hgd : o.guard = none) (s x : Operand) (t : TypeId)
    (ho : o.op = .call { callee := .builtin .append, args := #[s, x], argTypes := #[t, t] })
    (base : Nat) (e : TypeId) (i : TypeInfo) (z : Value) (size bytes : Nat) (ht : Tryd.prog.underlying t = some (.slice e)) (hi : Tryd.prog.info? e = some i) (hz : i.zero = some z)
    (hsize : i.size = size) (hby : i.bytes = bytes) (hzs : z.cells.size = size) (hsz : 0 < size)
    (v : Value) (n : Nat) (xs : List Value) (hs : a.eval s = v) (hown : w.ownsRow base e size v n xs)
    (q : Option Addr) (m c : Nat) (cs : List Value) (hx : a.eval x = .slice q m c) (hsl : SlP w size q m c cs)
    (h63 : n + m ≤ maxLen) (hbytes : (n + m) * bytes ≤ 140737488355328) (hbase : base ≤ w.heap.size)
    (h : ∀ v' w', w'.ownsRow base e size v' (n + m) (xs ++ cs) → w.grownBy w' v.ownBlock → K (a.put o.dst v') w') :
    if Region.wanted o (yielded ops a.tmps) = true then Oper.wp Tryd.prog o a w K Q else E := by
  have hw : Region.wanted o (yielded ops a.tmps) = true := by simp [Region.wanted, hgd]
  rw [if_pos hw]
  cases q with
  | none =>
    obtain rfl := hsl.nil rfl
    obtain rfl : m = 0 := by have := hsl.fit; omega
    obtain rfl : cs = [] := List.eq_nil_of_length_eq_zero (by have := hsl.len; omega)
    have hrun := run_append_owned_none (P := Tryd.prog) (w := w) base t o.type e i size ht hi v n xs hown
    unfold Oper.wp
    simp [execOp, ho, resolve, invoke, builtin, hs, hx, hrun, Result.andThen]
    exact h v w (by simpa using hown) ⟨rfl, rfl, rfl, Nat.le_refl _, fun _ _ _ => rfl⟩
  | some ad =>
    refine wp_append_own w s x t ho base e i z size bytes ht hi hz hsize hby hzs hsz v n xs hs hown ad m c cs hx hsl.len ?_ hsl.one h63 hbytes hbase (fun v' w' h2 h3 _ => h v' w' h2 h3)
    intro j u hj
    by_cases h0 : 0 < m
    · obtain ⟨b, off, e2, _, hu⟩ := hsl.at_ h0
      cases e2
      rw [add_none]
      exact hu j u hj
    · obtain rfl : cs = [] := List.eq_nil_of_length_eq_zero (by have := hsl.len; rw [show m = 0 by omega] at this; omega)
      simp at hj
/-- Inside of a ligature. -/
theorem st_inside {l : List Sg} (h : stR false l = some false) {i : Nat} (hi : i ≤ l.length) (hp : pst l i = true) : i < l.length ∧ kB l i = true := by
  obtain ⟨h1, h2⟩ := st_take h hi
  rw [hp] at h2
  by_cases hlt : i < l.length
  · rw [List.drop_eq_getElem_cons hlt] at h2
    obtain ⟨_, ⟨_, b, _⟩ | ⟨a, _⟩ | ⟨a, _⟩⟩ := st_step h2
    · cases b
    all_goals
      refine ⟨hlt, ?_⟩
      unfold kB
      rw [List.getD_eq_getElem?_getD, List.getElem?_eq_getElem hlt]
      exact a
  · rw [List.drop_eq_nil_of_le (by omega), st_nil] at h2
    cases h2
/-- Each sign of a run is valid by itself. -/
theorem st_ones {l : List Sg} (h : stR false l = some false) {i : Nat} (hi : i < l.length) : oneE l[i] = 0 := by
  obtain ⟨_, h2⟩ := st_take h (Nat.le_of_lt hi)
  rw [List.drop_eq_getElem_cons hi] at h2
  exact (st_step h2).1

end Go.Proofs.YtcomjcflllfobaaDoor

/- A part in memory, the ends of runs, Check of a list of the call's own: what the laws of moved and first signs share. -/
namespace Go.Proofs.YtcomjcflllfobaaDoor
open Go.RowKit

/-- A part in block b8. -/
structure MvX (w y : World) (b8 : Nat) (nm : ByteArray) (l : List Sg) (q : Option Addr) (c : Nat) : Prop where
  h : HoldsB y b8 40 #[.string nm, .slice q l.length c]
  s : SlP y 17 q l.length c (flatG l)
  b : Below w.heap.size w y
theorem MvX.later {w y z : World} {b8 : Nat} {nm : ByteArray} {l : List Sg} {q : Option Addr} {c : Nat} (h : MvX w y b8 nm l q c) (k : Below y.heap.size y z) : MvX w z b8 nm l q c := ⟨h.h.later k, h.s.later k, w_below h.b k⟩
theorem st_end0 {l : List Sg} (h : stR false l = some false) : pst l l.length = false := by
  obtain ⟨_, h2⟩ := st_take h (Nat.le_refl _)
  rw [List.drop_length, st_nil] at h2
  injection h2
theorem run_field_part (nm : ByteArray) (q : Option Addr) (n c : Nat) (W : World) : (Instr.field 40 (ptv nm q n c) 1).run Tryd.prog W = .ok (.slice q n c) W := by
  simp [Instr.field, asAgg, go_sem]
theorem pst_succ (l : List Sg) (j : Nat) : pst l (j + 1) = (kB l j && !(laB l j)) := rfl
theorem kB_at {l : List Sg} {j : Nat} (h : j < l.length) : kB l j = (l[j].kind == 4) := by unfold kB; rw [List.getD_eq_getElem?_getD, List.getElem?_eq_getElem h]; rfl
theorem laB_at {l : List Sg} {j : Nat} (h : j < l.length) : laB l j = l[j].last := by unfold laB; rw [List.getD_eq_getElem?_getD, List.getElem?_eq_getElem h]; rfl
/-- Check of a list of the call's own. -/
theorem pchk_own (nm : ByteArray) (h1 : nm.size ≤ 1) (h2 : nameV nm.data.toList = true) (L : List Sg) (n : Nat) (hn : L.length = n) (r : Int × Nat) (hr : chkV true L = r) (q : Option Addr) (c : Nat) (W : World) (hs : SlP W 17 q n c (flatG L)) (T : TabS W) :
    Calls Tryd.prog 19 #[.agg #[.string nm, .slice q n c]] W fun e w' => e = .returned (.tuple #[.int .i64 r.1, .int .i64 r.2]) ∧ Below W.heap.size W w' := by
  subst hn
  have := pchk_any nm (by unfold maxLen; omega) L q c W hs T
  rw [h2, hr] at this
  exact this


end Go.Proofs.YtcomjcflllfobaaDoor

/- Steps of a drawn region whose operands the kernel reckons: calls, allocations, loads, slices, stores of parts; no walk opens the frame. -/
namespace Go.Proofs.YtcomjcflllfobaaDoor
open Go.RowKit

section
variable {ops : Array Oper} {o : Oper} {a : Act} {w : World} {K : Act → World → Prop} {Q : Exit → Act → World → Prop} {E : Prop} {S : World → Prop}
theorem wanted_plain (hgd : o.guard = none) : Region.wanted o (yielded ops a.tmps) = true := by simp [Region.wanted, hgd]
theorem step_callTo (hgd : o.guard = none) (f : FuncId) (args : Array Value) (hrun : (execOp a.eval o).run Tryd.prog w = .ok (.enter f args) w) (h : Calls Tryd.prog f args w fun e w' => ∃ r, e = .returned r ∧ K (a.put o.dst r) w') :
    if Region.wanted o (yielded ops a.tmps) = true then Oper.wp Tryd.prog o a w K Q else E := by
  rw [if_pos (wanted_plain hgd)]
  unfold Oper.wp
  rw [hrun, Oper.upon_enter]
  refine h.mono fun e w' hh => ?_
  obtain ⟨r, rfl, hk⟩ := hh
  exact hk
theorem step_runTo (hgd : o.guard = none) (v : Value) (w' : World) (hrun : (execOp a.eval o).run Tryd.prog w = .ok (.value v) w') (h : K (a.put o.dst v) w') :
    if Region.wanted o (yielded ops a.tmps) = true then Oper.wp Tryd.prog o a w K Q else E := by
  rw [if_pos (wanted_plain hgd)]
  unfold Oper.wp
  rw [hrun, Oper.upon_value]
  exact h
theorem step_storeTo (hgd : o.guard = none) (ty : TypeId) (x y : Operand) (ho : o.op = .store ty x y) (g : Nat) (cells : Array Value) (hx : a.eval x = .pointer (some ⟨g, 0, none⟩)) (hy : a.eval y = .agg cells)
    (t : TypeId) (old : Array Value) (hg : HoldsB w g t old) (hi : (Tryd.prog.info? ty).map (·.size) = some cells.size) (hold : old.size = cells.size) (h1 : cells.all (·.oneCell') = true)
    (h : ∀ W', HoldsB W' g t cells → (∀ B w0, Below B w0 w → B ≤ g → Below B w0 W') → (∀ c, c ≠ g → W'.heap[c]? = w.heap[c]?) → K (a.put o.dst undef) W') :
    if Region.wanted o (yielded ops a.tmps) = true then Oper.wp Tryd.prog o a w K Q else E := by
  rw [if_pos (wanted_plain hgd)]
  refine wp_store_row ty x y ho g cells hx hy t old hg hi hold h1 ?_
  exact h _ (setRow_heap w g old cells t (0, 0) hg) (fun B w0 hb hB => below_setRow hb hB cells) (fun c hc => setRow_other w g c cells hc)
theorem run_yields (v : Value) (hw : Region.wanted o (yielded ops a.tmps) = true) (hrun : ∀ W, S W → (execOp a.eval o).run Tryd.prog W = .ok (.value v) W) : YieldsIf Tryd.prog ops S o v a := .inl ⟨hw, hrun⟩
theorem ld_yields (ty : TypeId) (x : Operand) (p : Addr) (v : Value) (hw : Region.wanted o (yielded ops a.tmps) = true) (ho : o.op = .load ty x) (hx : a.eval x = .pointer (some p))
    (h1 : ∀ W : World, W.cell? p = some v → (Instr.loadAt ty (.pointer (some p))).run Tryd.prog W = .ok v W) (hS : ∀ W, S W → W.cell? p = some v) : YieldsIf Tryd.prog ops S o v a :=
  .inl ⟨hw, fun W hW => by
    unfold execOp
    simp only [ho, hx, Sem.run_bind, h1 W (hS W hW), Result.andThen_ok]
    rfl⟩
theorem sl_yields (t : TypeId) (x : Operand) (lo hi : Option Operand) (u : Value) (lo' hi' : Option Value) (v : Value) (hw : Region.wanted o (yielded ops a.tmps) = true) (ho : o.op = .slice t x lo hi none) (hx : a.eval x = u) (hl : lo.map a.eval = lo') (hh : hi.map a.eval = hi')
    (h1 : ∀ W : World, (Instr.sliceAt t u lo' hi' none).run Tryd.prog W = .ok v W) : YieldsIf Tryd.prog ops S o v a :=
  .inl ⟨hw, fun W _ => by
    unfold execOp
    simp only [ho, hx, hl, hh, Option.map_none, Sem.run_bind, h1 W, Result.andThen_ok]
    rfl⟩
theorem ix_yields (t : TypeId) (x y : Operand) (u : Value) (z : Int) (v : Value) (hw : Region.wanted o (yielded ops a.tmps) = true) (ho : o.op = .indexAddr t x y) (hx : a.eval x = u) (hy : a.eval y = .int .i64 z)
    (h1 : ∀ W : World, (Instr.indexAt t u (.int .i64 z)).run Tryd.prog W = .ok v W) : YieldsIf Tryd.prog ops S o v a :=
  .inl ⟨hw, fun W _ => by
    unfold execOp
    simp only [ho, hx, hy, Sem.run_bind, h1 W, Result.andThen_ok]
    rfl⟩
end
theorem ix_int (b o n c k : Nat) (z : Int) (hz : z = (k : Int)) (hk : k < n) (W : World) : (Instr.indexAt 45 (.slice (some ⟨b, o, none⟩) n c) (.int .i64 z)).run Tryd.prog W = .ok (.pointer (some ⟨b, o + k, none⟩)) W := by
  subst hz
  have h0 : (0 : Int) ≤ k := by omega
  have h1 : (k : Int) < n := by omega
  go_simp
theorem ix_sgn (b o n c k : Nat) (z : Int) (hz : z = (k : Int)) (hk : k < n) (W : World) : (Instr.indexAt 38 (.slice (some ⟨b, o, none⟩) n c) (.int .i64 z)).run Tryd.prog W = .ok (.pointer (some ⟨b, o + k * 17, none⟩)) W := by
  subst hz
  have h0 : (0 : Int) ≤ k := by omega
  have h1 : (k : Int) < n := by omega
  go_simp
theorem ld_str (p : Addr) (s : ByteArray) (W : World) (h : W.cell? p = some (.string s)) : (Instr.loadAt 9 (.pointer (some p))).run Tryd.prog W = .ok (.string s) W := by go_simp
theorem ld_int (p : Addr) (z : Int) (W : World) (h : W.cell? p = some (.int .i64 z)) : (Instr.loadAt 3 (.pointer (some p))).run Tryd.prog W = .ok (.int .i64 z) W := by go_simp
theorem ld_sgs (p : Addr) (q : Option Addr) (n c : Nat) (W : World) (h : W.cell? p = some (.slice q n c)) : (Instr.loadAt 38 (.pointer (some p))).run Tryd.prog W = .ok (.slice q n c) W := by go_simp
theorem sl_to (bq oq n c i : Nat) (hi : i ≤ c) (W : World) : (Instr.sliceAt 38 (.slice (some ⟨bq, oq, none⟩) n c) none (some (.int .i64 (i : Int))) none).run Tryd.prog W = .ok (.slice (some ⟨bq, oq, none⟩) i c) W := by
  have h1 : (i : Int) ≤ (c : Int) := by omega
  have h0 : (0 : Int) ≤ i := by omega
  go_simp
theorem sl_from (bq oq n c i : Nat) (z : Int) (hz : z = (i : Int)) (hi : i ≤ n) (W : World) : (Instr.sliceAt 38 (.slice (some ⟨bq, oq, none⟩) n c) (some (.int .i64 z)) none none).run Tryd.prog W = .ok (.slice (dropQ (some ⟨bq, oq, none⟩) c i) (n - i) (c - i)) W := by
  subst hz
  have h1 : (i : Int) ≤ (n : Int) := by omega
  have h0 : (0 : Int) ≤ i := by omega
  have hdq : (if c = i then (some ⟨bq, oq, none⟩ : Option Addr) else some ⟨bq, oq + i * 17, none⟩) = dropQ (some ⟨bq, oq, none⟩) c i := by unfold dropQ; split <;> simp [add_none]
  generalize dropQ (some ⟨bq, oq, none⟩) c i = pd at *
  go_simp
/-- A list of the call's own over a store elsewhere. -/
theorem own_rest {A A' : World} {base c : Nat} {e : TypeId} {k : Nat} {v : Value} {n : Nat} {cs : List Value} (h : A.ownsRow base e k v n cs) (hne : some c ≠ v.ownBlock) (h3 : ∀ x, x ≠ c → A'.heap[x]? = A.heap[x]?) : A'.ownsRow base e k v n cs := by
  refine ⟨h.1, ?_⟩
  rcases h.2 with h2 | ⟨g, cap, cur, rfl, hb, hh, r⟩
  · exact .inl h2
  · exact .inr ⟨g, cap, cur, rfl, hb, (h3 g (fun e => hne (by rw [e]; rfl))).trans hh, r⟩
theorem part_size : (Tryd.prog.info? 40).map (·.size) = some 2 := by kernel_rfl

end Go.Proofs.YtcomjcflllfobaaDoor
