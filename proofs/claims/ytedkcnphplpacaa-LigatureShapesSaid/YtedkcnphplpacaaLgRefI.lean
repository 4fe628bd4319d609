/- The reference's before: which of two shapes of the same notes comes first. -/
import Derived.Test.YtedkcnphplpacaaLgV2
import Derived.Test.YtedkcnphplpacaaLgLate
import Derived.Test.YtedkcnphplpacaaLgProgM
namespace Go.Proofs.Ytedkcnphplpacaa
open Go.RowKit
attribute [local go_sem] sgA_g0 sgA_g1 sgA_g2 sgA_g3 sgA_g4 sgA_g5 sgA_g6 sgA_g7 sgA_g8 sgA_g9 sgA_g10 sgA_g11 sgA_g12 sgA_g13 sgA_g14 sgA_g15 sgA_g16 v2_neq v2_guard v2_eqs

def lexF (a b : List Sg) : Nat → Nat → Bool
  | 0, _ => false
  | f + 1, i => if (a.getD i zS).obl = (b.getD i zS).obl then (if (a.getD i zS).stem = (b.getD i zS).stem then lexF a b f (i + 1) else decide ((a.getD i zS).stem < (b.getD i zS).stem)) else (b.getD i zS).obl
def befG (a b : List Sg) (n : Nat) : Bool :=
  if obN a n = obN b n ∧ rtN a n = rtN b n then (if (a.getD 0 zS).stem = (b.getD 0 zS).stem then lexF a b n 0 else decide ((a.getD 0 zS).stem < (b.getD 0 zS).stem))
  else decide (obN a n < obN b n ∨ (obN a n = obN b n ∧ rtN a n < rtN b n))
theorem obN_add (l : List Sg) (k : Nat) : ((obN l (k + 1) : Nat) : Int) = addB (obN l k : Int) (l.getD k zS).obl := by
  show ((obN l k + (if (l.getD k zS).obl = true then 1 else 0) : Nat) : Int) = _
  unfold addB
  split <;> simp
theorem rtN_add (l : List Sg) (k : Nat) : ((rtN l (k + 1) : Nat) : Int) = addB (rtN l k : Int) ((l.getD k zS).stem == 3) := by
  show ((rtN l k + (if ((l.getD k zS).stem == 3) = true then 1 else 0) : Nat) : Int) = _
  unfold addB
  split <;> simp

set_option maxRecDepth 100000 in
set_option maxHeartbeats 4000000 in
theorem before_any (a b : List Sg) (n : Nat) (h0 : 0 < n) (hm : n ≤ 1000) (ha : a.length = n) (hb : b.length = n) (p q : Option Addr) (cp cq : Nat) (w : World) (hp : SlP w 17 p n cp (flatG a)) (hq : SlP w 17 q n cq (flatG b)) :
    Calls Try.prog 53 #[.slice p n cp, .slice q n cq] w fun e w' => e = .returned (.bool (befG a b n)) ∧ Below w.heap.size w w' := by
  have f1 := hp.fit
  have f2 := hp.max
  have g1 := hq.fit
  have g2 := hq.max
  obtain ⟨pa, oa, rfl, -, -⟩ := hp.at_ h0
  obtain ⟨pb, ob, rfl, -, -⟩ := hq.at_ h0
  have HA := Lib.hid (show ∀ i, i < n → ∀ W, Below w.heap.size w W → SgAt W pa (oa + i * 17) (a.getD i zS) from fun i hi W hb => by
    obtain ⟨_, _, e9, _, h⟩ := SlP.sg (l := a) (by rw [ha]; exact hp.later hb) (sg_some (show i < a.length by omega))
    injection e9 with e9; injection e9 with e9 e10 _; subst e9 e10; exact h)
  have HB := Lib.hid (show ∀ i, i < n → ∀ W, Below w.heap.size w W → SgAt W pb (ob + i * 17) (b.getD i zS) from fun i hi W hb' => by
    obtain ⟨_, _, e9, _, h⟩ := SlP.sg (l := b) (by rw [hb]; exact hq.later hb') (sg_some (show i < b.length by omega))
    injection e9 with e9; injection e9 with e9 e10 _; subst e9 e10; exact h)
  clear hp hq ha hb
  have F0 := Lib.hid (show HoldsB ((w.alloc (c2O 0 0)).alloc (c2O 0 0)) w.heap.size 87 #[.int .i64 (obN a 0 : Int), .int .i64 (rtN a 0 : Int)] ∧ HoldsB ((w.alloc (c2O 0 0)).alloc (c2O 0 0)) (w.heap.size + 1) 87 #[.int .i64 (obN b 0 : Int), .int .i64 (rtN b 0 : Int)] ∧ Below w.heap.size w ((w.alloc (c2O 0 0)).alloc (c2O 0 0)) from
    ⟨(HoldsB.new w 87 #[.int .i64 0, .int .i64 0]).al (c2O 0 0), (by have := HoldsB.new (w.alloc (c2O 0 0)) 87 #[.int .i64 0, .int .i64 0]; rwa [World.size_alloc] at this), w_alloc (w_alloc (w_refl w) _) _⟩)
  go_enter Try.func53, Try.ntmps53
  go_wp2_with fail
  obtain ⟨kx, hkx⟩ : ∃ k, w.heap.size = k := ⟨_, rfl⟩
  obtain ⟨ky, hky⟩ : ∃ k, w.heap.size + 1 = k := ⟨_, rfl⟩
  have hxy := Lib.hid (show kx ≠ ky by omega)
  have hxw := Lib.hid (show w.heap.size ≤ kx by omega)
  have hyw := Lib.hid (show w.heap.size ≤ ky by omega)
  have F1 := Lib.hid (show HoldsB ((w.alloc (c2O 0 0)).alloc (c2O 0 0)) kx 87 #[.int .i64 (obN a 0 : Int), .int .i64 (rtN a 0 : Int)] ∧ HoldsB ((w.alloc (c2O 0 0)).alloc (c2O 0 0)) ky 87 #[.int .i64 (obN b 0 : Int), .int .i64 (rtN b 0 : Int)] ∧ Below w.heap.size w ((w.alloc (c2O 0 0)).alloc (c2O 0 0)) from ⟨hkx ▸ F0.out.1, hky ▸ F0.out.2.1, F0.out.2.2⟩)
  rw [hky]
  rw [hkx]
  clear hkx hky F0
  go_loopw [7] (fun s7 wr => ∃ i : Nat, i ≤ n ∧ s7 = .int .i64 (i : Int) ∧ Hid (HoldsB wr kx 87 #[.int .i64 (obN a i : Int), .int .i64 (rtN a i : Int)] ∧ HoldsB wr ky 87 #[.int .i64 (obN b i : Int), .int .i64 (rtN b i : Int)] ∧ Below w.heap.size w wr)) (fun s7 _ => n - (intOf s7).toNat)
  case atStart => exact ⟨0, by omega, rfl, F1⟩
  case round =>
    clear F1
    rename World => wr
    obtain ⟨i, hi, rfl, hF⟩ := hrel
    by_cases hlt : i < n
    · have hlt' : (i : Int) < n := by omega
      have hi0 : (0 : Int) ≤ i := by omega
      have b1 := obN_le a i
      have b2 := rtN_le a i
      have b3 := obN_le b i
      have b4 := rtN_le b i
      have CA := Lib.hid (fun W => counted_any (obN a i : Int) (rtN a i : Int) (a.getD i zS) W (by omega) (by omega) (by omega) (by omega))
      have CB := Lib.hid (fun W => counted_any (obN b i : Int) (rtN b i : Int) (b.getD i zS) W (by omega) (by omega) (by omega) (by omega))
      rw [← obN_add, ← rtN_add] at CA CB
      clear b1 b2 b3 b4
      go_wp2_with fail
      refine wp_region_late (S := fun W => W.cell? ⟨kx, 0, none⟩ = some (.int .i64 (obN a i : Int)) ∧ W.cell? ⟨kx, 1, none⟩ = some (.int .i64 (rtN a i : Int)) ∧ W.cell? ⟨ky, 0, none⟩ = some (.int .i64 (obN b i : Int)) ∧ W.cell? ⟨ky, 1, none⟩ = some (.int .i64 (rtN b i : Int)) ∧ SgAt W pa (oa + i * 17) (a.getD i zS) ∧ SgAt W pb (ob + i * 17) (b.getD i zS)) ([12, 13]) (by kernel_rfl) ?_
      have FX := Lib.hid (show HoldsB (World.drew wr) kx 87 #[.int .i64 (obN a i : Int), .int .i64 (rtN a i : Int)] ∧ HoldsB (World.drew wr) ky 87 #[.int .i64 (obN b i : Int), .int .i64 (rtN b i : Int)] ∧ Below w.heap.size w (World.drew wr) from ⟨hF.out.1.later (w_refl wr).drew, hF.out.2.1.later (w_refl wr).drew, w_below hF.out.2.2 (w_refl wr).drew⟩)
      clear hF
      generalize World.drew wr = y at *
      refine wpL_loadT (i := 0) (v := v2 (obN a i : Int) (rtN a i : Int)) rfl (by kernel_rfl) (by kernel_rfl) (by kernel_rfl) (by kernel_rfl) (by kernel_rfl) (by kernel_rfl) (fun _ _ _ h => h) (Or.inl ⟨by kernel_rfl, fun W hW => by (obtain ⟨c1, c2, c3, c4, c5, c6⟩ := hW; go_simp)⟩) ⟨FX.out.1.cell (j := 0) rfl, FX.out.1.cell (j := 1) rfl, FX.out.2.1.cell (j := 0) rfl, FX.out.2.1.cell (j := 1) rfl, HA.out i hlt _ FX.out.2.2, HB.out i hlt _ FX.out.2.2⟩ (by kernel_rfl) ?_
      refine wpL_take (i := 1) (v := .slice (some ⟨pa, oa, none⟩) n cp) rfl (by kernel_rfl) (by kernel_rfl) (by kernel_rfl) (by kernel_rfl) (fun _ _ _ h => h) (Or.inl ⟨by kernel_rfl, fun _ => by go_simp⟩) (.inl ⟨FX.out.1.cell (j := 0) rfl, FX.out.1.cell (j := 1) rfl, FX.out.2.1.cell (j := 0) rfl, FX.out.2.1.cell (j := 1) rfl, HA.out i hlt _ FX.out.2.2, HB.out i hlt _ FX.out.2.2⟩) ?_
      refine wpL_take (i := 2) (v := .int .i64 (i : Int)) rfl (by kernel_rfl) (by kernel_rfl) (by kernel_rfl) (by kernel_rfl) (fun _ _ _ h => h) (Or.inl ⟨by kernel_rfl, fun _ => by go_simp⟩) (.inl ⟨FX.out.1.cell (j := 0) rfl, FX.out.1.cell (j := 1) rfl, FX.out.2.1.cell (j := 0) rfl, FX.out.2.1.cell (j := 1) rfl, HA.out i hlt _ FX.out.2.2, HB.out i hlt _ FX.out.2.2⟩) ?_
      refine wpL_take (i := 3) (v := .pointer (some ⟨pa, oa + i * 17, none⟩)) rfl (by kernel_rfl) (by kernel_rfl) (by kernel_rfl) (by kernel_rfl) (fun _ _ _ h => h) (Or.inl ⟨by kernel_rfl, fun _ => by go_simp⟩) (.inl ⟨FX.out.1.cell (j := 0) rfl, FX.out.1.cell (j := 1) rfl, FX.out.2.1.cell (j := 0) rfl, FX.out.2.1.cell (j := 1) rfl, HA.out i hlt _ FX.out.2.2, HB.out i hlt _ FX.out.2.2⟩) ?_
      refine wpL_loadT (i := 4) (v := sgv (a.getD i zS)) rfl (by kernel_rfl) (by kernel_rfl) (by kernel_rfl) (by kernel_rfl) (by kernel_rfl) (by kernel_rfl) (fun _ _ _ h => h) (sg_yields (.tmp 18) pa (oa + i * 17) (a.getD i zS) (by kernel_rfl) rfl (by kernel_rfl) (fun _ h => h.2.2.2.2.1)) ⟨FX.out.1.cell (j := 0) rfl, FX.out.1.cell (j := 1) rfl, FX.out.2.1.cell (j := 0) rfl, FX.out.2.1.cell (j := 1) rfl, HA.out i hlt _ FX.out.2.2, HB.out i hlt _ FX.out.2.2⟩ (by kernel_rfl) ?_
      refine wpL_loadT (i := 6) (v := v2 (obN b i : Int) (rtN b i : Int)) rfl (by kernel_rfl) (by kernel_rfl) (by kernel_rfl) (by kernel_rfl) (by kernel_rfl) (by kernel_rfl) (fun _ _ _ h => h) (Or.inl ⟨by kernel_rfl, fun W hW => by (obtain ⟨c1, c2, c3, c4, c5, c6⟩ := hW; go_simp)⟩) ⟨FX.out.1.cell (j := 0) rfl, FX.out.1.cell (j := 1) rfl, FX.out.2.1.cell (j := 0) rfl, FX.out.2.1.cell (j := 1) rfl, HA.out i hlt _ FX.out.2.2, HB.out i hlt _ FX.out.2.2⟩ (by kernel_rfl) ?_
      refine wpL_take (i := 7) (v := .slice (some ⟨pb, ob, none⟩) n cq) rfl (by kernel_rfl) (by kernel_rfl) (by kernel_rfl) (by kernel_rfl) (fun _ _ _ h => h) (Or.inl ⟨by kernel_rfl, fun _ => by go_simp⟩) (.inl ⟨FX.out.1.cell (j := 0) rfl, FX.out.1.cell (j := 1) rfl, FX.out.2.1.cell (j := 0) rfl, FX.out.2.1.cell (j := 1) rfl, HA.out i hlt _ FX.out.2.2, HB.out i hlt _ FX.out.2.2⟩) ?_
      refine wpL_take (i := 8) (v := .int .i64 (i : Int)) rfl (by kernel_rfl) (by kernel_rfl) (by kernel_rfl) (by kernel_rfl) (fun _ _ _ h => h) (Or.inl ⟨by kernel_rfl, fun _ => by go_simp⟩) (.inl ⟨FX.out.1.cell (j := 0) rfl, FX.out.1.cell (j := 1) rfl, FX.out.2.1.cell (j := 0) rfl, FX.out.2.1.cell (j := 1) rfl, HA.out i hlt _ FX.out.2.2, HB.out i hlt _ FX.out.2.2⟩) ?_
      refine wpL_take (i := 9) (v := .pointer (some ⟨pb, ob + i * 17, none⟩)) rfl (by kernel_rfl) (by kernel_rfl) (by kernel_rfl) (by kernel_rfl) (fun _ _ _ h => h) (Or.inl ⟨by kernel_rfl, fun _ => by go_simp⟩) (.inl ⟨FX.out.1.cell (j := 0) rfl, FX.out.1.cell (j := 1) rfl, FX.out.2.1.cell (j := 0) rfl, FX.out.2.1.cell (j := 1) rfl, HA.out i hlt _ FX.out.2.2, HB.out i hlt _ FX.out.2.2⟩) ?_
      refine wpL_loadT (i := 10) (v := sgv (b.getD i zS)) rfl (by kernel_rfl) (by kernel_rfl) (by kernel_rfl) (by kernel_rfl) (by kernel_rfl) (by kernel_rfl) (fun _ _ _ h => h) (sg_yields (.tmp 24) pb (ob + i * 17) (b.getD i zS) (by kernel_rfl) rfl (by kernel_rfl) (fun _ h => h.2.2.2.2.2)) ⟨FX.out.1.cell (j := 0) rfl, FX.out.1.cell (j := 1) rfl, FX.out.2.1.cell (j := 0) rfl, FX.out.2.1.cell (j := 1) rfl, HA.out i hlt _ FX.out.2.2, HB.out i hlt _ FX.out.2.2⟩ (by kernel_rfl) ?_
      refine wpL_ready (rs := [5]) (by kernel_rfl) (by simp) ?_
      refine AllL.cons rfl (fun K hK => ?_) AllL.nil
      rw [if_pos (by kernel_rfl)]
      go_simp
      go_at_call 67
      refine (CA.out _).mono ?_
      rintro e y1 ⟨rfl, hb⟩
      replace FX := Lib.hid (show HoldsB y1 kx 87 #[.int .i64 (obN a i : Int), .int .i64 (rtN a i : Int)] ∧ HoldsB y1 ky 87 #[.int .i64 (obN b i : Int), .int .i64 (rtN b i : Int)] ∧ Below w.heap.size w y1 from ⟨FX.out.1.later hb, FX.out.2.1.later hb, w_below FX.out.2.2 hb⟩)
      clear hb
      go_simp
      refine hK.out _ _ (.inl ⟨FX.out.1.cell (j := 0) rfl, FX.out.1.cell (j := 1) rfl, FX.out.2.1.cell (j := 0) rfl, FX.out.2.1.cell (j := 1) rfl, HA.out i hlt _ FX.out.2.2, HB.out i hlt _ FX.out.2.2⟩) ?_
      clear hK K
      refine wpL_ready (rs := [11]) (by kernel_rfl) (by simp) ?_
      refine AllL.cons rfl (fun K hK => ?_) AllL.nil
      rw [if_pos (by kernel_rfl)]
      go_simp
      go_at_call 67
      refine (CB.out _).mono ?_
      rintro e y2 ⟨rfl, hb⟩
      replace FX := Lib.hid (show HoldsB y2 kx 87 #[.int .i64 (obN a i : Int), .int .i64 (rtN a i : Int)] ∧ HoldsB y2 ky 87 #[.int .i64 (obN b i : Int), .int .i64 (rtN b i : Int)] ∧ Below w.heap.size w y2 from ⟨FX.out.1.later hb, FX.out.2.1.later hb, w_below FX.out.2.2 hb⟩)
      clear hb
      go_simp
      refine hK.out _ _ (.inl ⟨FX.out.1.cell (j := 0) rfl, FX.out.1.cell (j := 1) rfl, FX.out.2.1.cell (j := 0) rfl, FX.out.2.1.cell (j := 1) rfl, HA.out i hlt _ FX.out.2.2, HB.out i hlt _ FX.out.2.2⟩) ?_
      clear hK K
      refine wpL_ready (rs := [12]) (by kernel_rfl) (by simp) ?_
      refine AllL.cons rfl (fun K hK => ?_) AllL.nil
      have c0 := FX.out.1.cell (j := 0) rfl
      have c1 := FX.out.1.cell (j := 1) rfl
      have r0 := FX.out.1.frozen 0
      have r1 := FX.out.1.frozen 1
      rw [if_pos (by kernel_rfl)]
      go_simp
      have FY := Lib.hid (show HoldsB ((World.setCell y2 ⟨kx, 0, none⟩ (.int .i64 (obN a (i + 1) : Int))).setCell ⟨kx, 1, none⟩ (.int .i64 (rtN a (i + 1) : Int))) kx 87 #[.int .i64 (obN a (i + 1) : Int), .int .i64 (rtN a (i + 1) : Int)] ∧ HoldsB ((World.setCell y2 ⟨kx, 0, none⟩ (.int .i64 (obN a (i + 1) : Int))).setCell ⟨kx, 1, none⟩ (.int .i64 (rtN a (i + 1) : Int))) ky 87 #[.int .i64 (obN b i : Int), .int .i64 (rtN b i : Int)] ∧ Below w.heap.size w ((World.setCell y2 ⟨kx, 0, none⟩ (.int .i64 (obN a (i + 1) : Int))).setCell ⟨kx, 1, none⟩ (.int .i64 (rtN a (i + 1) : Int))) from ⟨(FX.out.1.set 0 _).set 1 _, (FX.out.2.1.other (fun e => hxy.out e.symm) _ _).other (fun e => hxy.out e.symm) _ _, w_put (w_put FX.out.2.2 hxw.out 0 _) hxw.out 1 _⟩)
      refine hK.out _ ((World.setCell y2 ⟨kx, 0, none⟩ (.int .i64 (obN a (i + 1) : Int))).setCell ⟨kx, 1, none⟩ (.int .i64 (rtN a (i + 1) : Int))) (.inr (by kernel_rfl)) ?_
      clear hK K c0 c1 r0 r1 FX
      generalize ((World.setCell y2 ⟨kx, 0, none⟩ (.int .i64 (obN a (i + 1) : Int))).setCell ⟨kx, 1, none⟩ (.int .i64 (rtN a (i + 1) : Int))) = y3 at *
      refine wpL_ready (rs := [13]) (by kernel_rfl) (by simp) ?_
      refine AllL.cons rfl (fun K hK => ?_) AllL.nil
      have c0 := FY.out.2.1.cell (j := 0) rfl
      have c1 := FY.out.2.1.cell (j := 1) rfl
      have r0 := FY.out.2.1.frozen 0
      have r1 := FY.out.2.1.frozen 1
      rw [if_pos (by kernel_rfl)]
      go_simp
      have FZ := Lib.hid (show HoldsB ((World.setCell y3 ⟨ky, 0, none⟩ (.int .i64 (obN b (i + 1) : Int))).setCell ⟨ky, 1, none⟩ (.int .i64 (rtN b (i + 1) : Int))) kx 87 #[.int .i64 (obN a (i + 1) : Int), .int .i64 (rtN a (i + 1) : Int)] ∧ HoldsB ((World.setCell y3 ⟨ky, 0, none⟩ (.int .i64 (obN b (i + 1) : Int))).setCell ⟨ky, 1, none⟩ (.int .i64 (rtN b (i + 1) : Int))) ky 87 #[.int .i64 (obN b (i + 1) : Int), .int .i64 (rtN b (i + 1) : Int)] ∧ Below w.heap.size w ((World.setCell y3 ⟨ky, 0, none⟩ (.int .i64 (obN b (i + 1) : Int))).setCell ⟨ky, 1, none⟩ (.int .i64 (rtN b (i + 1) : Int))) from ⟨(FY.out.1.other hxy.out _ _).other hxy.out _ _, (FY.out.2.1.set 0 _).set 1 _, w_put (w_put FY.out.2.2 hyw.out 0 _) hyw.out 1 _⟩)
      refine hK.out _ ((World.setCell y3 ⟨ky, 0, none⟩ (.int .i64 (obN b (i + 1) : Int))).setCell ⟨ky, 1, none⟩ (.int .i64 (rtN b (i + 1) : Int))) (.inr (by kernel_rfl)) ?_
      clear hK K c0 c1 r0 r1 FY
      generalize ((World.setCell y3 ⟨ky, 0, none⟩ (.int .i64 (obN b (i + 1) : Int))).setCell ⟨ky, 1, none⟩ (.int .i64 (rtN b (i + 1) : Int))) = y4 at *
      refine wpL_done (by kernel_rfl) ?_ _
      go_wp2_with fail
      go_roundw
      case rel => exact ⟨i + 1, by omega, by go_num, FZ⟩
      case measure => simp [intOf]; omega
    · obtain rfl : n = i := by omega
      have hlt' : ¬ ((n : Int) < n) := by omega
      have c0 := hF.out.1.cell (j := 0) rfl
      have c1 := hF.out.1.cell (j := 1) rfl
      have d0 := hF.out.2.1.cell (j := 0) rfl
      have d1 := hF.out.2.1.cell (j := 1) rfl
      have B := Lib.hid hF.out.2.2
      obtain ⟨R, hR⟩ : ∃ R, befG a b n = R := ⟨_, rfl⟩
      have HR := Lib.hid hR
      have HQ := Lib.hid hR
      unfold befG at HR
      clear hR hF
      have sa := HA.out 0 h0 _ B.out
      have sb := HB.out 0 h0 _ B.out
      have a5 := sa.e5
      have b5 := sb.e5
      rw [Nat.zero_mul, Nat.add_zero] at a5 b5
      clear sa sb
      have hn0 : (0 : Int) < n := by omega
      by_cases e : obN a n = obN b n ∧ rtN a n = rtN b n
      · rw [if_pos e] at HR
        rw [e.1] at c0
        rw [e.2] at c1
        clear e
        generalize (obN b n : Int) = x0 at *
        generalize (rtN b n : Int) = x1 at *
        by_cases es : (a.getD 0 zS).stem = (b.getD 0 zS).stem
        · rw [if_pos es] at HR
          rw [es] at a5
          clear es
          generalize (b.getD 0 zS).stem = s0 at *
          go_wp2_with fail
          go_quiet (fail)
          go_wp2_with fail
          clear c0 c1 d0 d1 a5 b5
          go_loopw [8] (fun s8 wz => ∃ i : Nat, i ≤ n ∧ s8 = .int .i64 (i : Int) ∧ Hid (lexF a b (n - i) i = R) ∧ Hid (Below w.heap.size w wz)) (fun s8 _ => n - (intOf s8).toNat)
          case atStart => exact ⟨0, by omega, rfl, Lib.hid HR.out, Lib.hid (w_below B.out ⟨rfl, rfl, rfl, Nat.le_refl _, fun _ _ => rfl⟩)⟩
          case round =>
            clear B HR
            rename World => wz
            obtain ⟨i, hi, rfl, hL, hB⟩ := hrel
            by_cases hlt : i < n
            · have hlt2 : (i : Int) < n := by omega
              have hi0 : (0 : Int) ≤ i := by omega
              have sa := HA.out i hlt _ hB.out
              have sb := HB.out i hlt _ hB.out
              have a5 := sa.e5
              have b5 := sb.e5
              have a6 := sa.e6
              have b6 := sb.e6
              clear sa sb
              rw [show lexF a b (n - i) i = if (a.getD i zS).obl = (b.getD i zS).obl then (if (a.getD i zS).stem = (b.getD i zS).stem then lexF a b (n - (i + 1)) (i + 1) else decide ((a.getD i zS).stem < (b.getD i zS).stem)) else (b.getD i zS).obl from by rw [show n - i = (n - (i + 1)) + 1 by omega]; rfl] at hL
              by_cases eo : (a.getD i zS).obl = (b.getD i zS).obl
              · rw [if_pos eo] at hL
                rw [eo] at a6
                clear eo
                generalize (b.getD i zS).obl = o0 at *
                by_cases es : (a.getD i zS).stem = (b.getD i zS).stem
                · rw [if_pos es] at hL
                  rw [es] at a5
                  clear es
                  generalize (b.getD i zS).stem = t0 at *
                  go_wp2_with fail
                  go_quiet (fail)
                  go_wp2_with fail
                  go_quiet (fail)
                  go_wp2_with fail
                  go_roundw
                  case rel => exact ⟨i + 1, by omega, by go_num, hL, Lib.hid (w_below hB.out ⟨rfl, rfl, rfl, Nat.le_refl _, fun _ _ => rfl⟩)⟩
                  case measure => simp [intOf]; omega
                · rw [if_neg es] at hL
                  have ed : ((a.getD i zS).stem == (b.getD i zS).stem) = false := beq_eq_false_iff_ne.2 es
                  clear es
                  generalize (a.getD i zS).stem = t0 at *
                  generalize (b.getD i zS).stem = t1 at *
                  obtain rfl := hL.out
                  clear hL
                  go_wp2_with fail
                  go_quiet (fail)
                  go_wp2_with fail
                  go_quiet (fail)
                  go_wp2_with fail
                  go_quiet (fail)
                  go_wp2_with fail
                  go_ret
                  exact ⟨by rw [HQ.out]; rfl, w_below hB.out ⟨rfl, rfl, rfl, Nat.le_refl _, fun _ _ => rfl⟩⟩
              · rw [if_neg eo] at hL
                have ed : ((a.getD i zS).obl == (b.getD i zS).obl) = false := beq_eq_false_iff_ne.2 eo
                clear eo a5 b5
                generalize (a.getD i zS).obl = o0 at *
                generalize (b.getD i zS).obl = o1 at *
                obtain rfl := hL.out
                clear hL
                go_wp2_with fail
                go_quiet (fail)
                go_wp2_with fail
                go_ret
                exact ⟨by rw [HQ.out]; rfl, w_below hB.out ⟨rfl, rfl, rfl, Nat.le_refl _, fun _ _ => rfl⟩⟩
            · obtain rfl : n = i := by omega
              have hlt2 : ¬ ((n : Int) < n) := by omega
              rw [Nat.sub_self] at hL
              obtain rfl := hL.out
              clear hL
              go_wp2_with fail
              go_ret
              exact ⟨by rw [HQ.out]; rfl, hB.out⟩
        · rw [if_neg es] at HR
          have ed : ((a.getD 0 zS).stem == (b.getD 0 zS).stem) = false := beq_eq_false_iff_ne.2 es
          clear es
          generalize (a.getD 0 zS).stem = s0 at *
          generalize (b.getD 0 zS).stem = s1 at *
          obtain rfl := HR.out
          go_wp2_with fail
          go_quiet (fail)
          go_wp2_with fail
          go_quiet (fail)
          go_wp2_with fail
          go_ret
          exact ⟨by rw [HQ.out]; rfl, w_below B.out ⟨rfl, rfl, rfl, Nat.le_refl _, fun _ _ => rfl⟩⟩
      · rw [if_neg e] at HR
        clear a5 b5
        have hx : ((obN a n : Int) == (obN b n : Int) && (rtN a n : Int) == (rtN b n : Int)) = false := by
          cases h : ((obN a n : Int) == (obN b n : Int) && (rtN a n : Int) == (rtN b n : Int)) with
          | false => rfl
          | true => rw [Bool.and_eq_true, beq_iff_eq, beq_iff_eq] at h; exact absurd ⟨by omega, by omega⟩ e
        by_cases l0 : obN a n < obN b n
        · have l0' : (obN a n : Int) < (obN b n : Int) := by omega
          rw [decide_eq_true (Or.inl l0)] at HR
          obtain rfl := HR.out
          have q0 : ((obN a n : Int) == (obN b n : Int)) = false := by simp; omega
          clear HR e l0 hx
          generalize (obN a n : Int) = x0 at *
          generalize (rtN a n : Int) = x1 at *
          generalize (obN b n : Int) = y0 at *
          generalize (rtN b n : Int) = y1 at *
          go_wp2_with fail
          go_ret
          exact ⟨by rw [HQ.out]; rfl, B.out⟩
        · by_cases q : obN a n = obN b n
          · have l0' : ¬ (obN b n : Int) < (obN b n : Int) := by omega
            have q1 : ((rtN a n : Int) == (rtN b n : Int)) = false := by simp; omega
            rw [q] at c0
            have HR2 := Lib.hid (show decide (rtN a n < rtN b n) = R from by
              rw [← HR.out]
              by_cases k : rtN a n < rtN b n
              · rw [decide_eq_true k, decide_eq_true (.inr ⟨q, k⟩)]
              · rw [decide_eq_false k, decide_eq_false (by rintro (z | z); exact l0 z; exact k z.2)])
            clear HR e l0 hx q
            by_cases k : rtN a n < rtN b n
            · have k' : (rtN a n : Int) < (rtN b n : Int) := by omega
              rw [decide_eq_true k] at HR2
              obtain rfl := HR2.out
              clear HR2 k
              generalize (obN b n : Int) = y0 at *
              generalize (rtN a n : Int) = x1 at *
              generalize (rtN b n : Int) = y1 at *
              go_wp2_with fail
              go_ret
              exact ⟨by rw [HQ.out]; rfl, B.out⟩
            · have k' : ¬ (rtN a n : Int) < (rtN b n : Int) := by omega
              rw [decide_eq_false k] at HR2
              obtain rfl := HR2.out
              clear HR2 k
              generalize (obN b n : Int) = y0 at *
              generalize (rtN a n : Int) = x1 at *
              generalize (rtN b n : Int) = y1 at *
              go_wp2_with fail
              go_ret
              exact ⟨by rw [HQ.out]; rfl, B.out⟩
          · have l0' : ¬ (obN a n : Int) < (obN b n : Int) := by omega
            have q0 : ((obN a n : Int) == (obN b n : Int)) = false := by simp; omega
            rw [decide_eq_false (by rintro (z | z); exact l0 z; exact q z.1)] at HR
            obtain rfl := HR.out
            clear HR e l0 hx q
            generalize (obN a n : Int) = x0 at *
            generalize (rtN a n : Int) = x1 at *
            generalize (obN b n : Int) = y0 at *
            generalize (rtN b n : Int) = y1 at *
            go_wp2_with fail
            go_ret
            exact ⟨by rw [HQ.out]; rfl, B.out⟩

end Go.Proofs.Ytedkcnphplpacaa
