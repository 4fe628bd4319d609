/- What every statement asks for: texts with a fault; the chapter's examples. -/
import Derived.Test.YtdmedealdhadcaaGreatDoorG27

namespace Go.Proofs.YtdmedealdhadcaaGreatDoor
open Go.RowKit
theorem samP_refl (a : ByteArray) (l : List Sg) : samP a a l l = true := by unfold samP eqG; simp
set_option maxRecDepth 100000 in
set_option maxHeartbeats 4000000 in
theorem lfault_any (X : ByteArray) (hX : X.size ≤ 1000000) (er at_ : Int) (h : prsV X = (noP, (er, at_))) (w : World) (T : TabN w) : Calls Tryz.prog 27 #[.string X, .int .i64 er, .int .i64 at_] w fun e w' => e = .returned (.bool true) ∧ Below w.heap.size w w' := by
  have PP := Lib.hid (pparse_any X hX w T.s)
  unfold PrP at PP
  rw [h] at PP
  have SM := Lib.hid (fun (p : Option Addr) (cp : Nat) (V : World) (hp : SlP V 17 p ([] : List Sg).length cp (flatG [])) (hq : SlP V 17 none ([] : List Sg).length 0 (flatG [])) => rsam_any emp emp p none cp 0 [] [] V hp hq)
  rw [samP_refl] at SM
  clear h T
  simp only [noP] at PP
  go_enter Tryz.func27, Tryz.ntmps27
  go_wp2_with fail
  refine PP.out.mono ?_
  rintro e w1 ⟨p, cap, rfl, hs, hb⟩
  have B1 := Lib.hid (w_alloc (w_alloc hb (ptO emp p 0 cap)) (.cells #[.int .i64 er, .int .i64 at_] 43))
  have P1 := Lib.hid ((pt_new w1 emp p 0 cap).al (.cells #[.int .i64 er, .int .i64 at_] 43))
  have F1 := Lib.hid (HoldsB.new (w1.alloc (ptO emp p 0 cap)) 43 #[.int .i64 er, .int .i64 at_])
  have S1 := Lib.hid (hs.later (w_alloc (w_alloc (w_refl w1) (ptO emp p 0 cap)) (.cells #[.int .i64 er, .int .i64 at_] 43)))
  rw [World.size_alloc] at F1
  have k0 := P1.out.cell (j := 0) rfl
  have k1 := P1.out.cell (j := 1) rfl
  have j0 := F1.out.cell (j := 0) rfl
  have j1 := F1.out.cell (j := 1) rfl
  clear hb hs PP
  unfold ftV
  go_wp2_with fail
  refine (SM.out p cap _ S1.out (slP_nil _)).mono ?_
  rintro e w2 ⟨rfl, hb⟩
  have B2 := Lib.hid (w_below B1.out hb)
  replace j0 := cell_later hb j0
  replace j1 := cell_later hb j1
  clear hb SM S1 P1 F1 B1 k0 k1
  go_wp2_with fail
  go_ret
  exact ⟨rfl, B2.out⟩
--END FAULT
def textA : ByteArray := ⟨#[112, 97, 114, 116, 32, 97, 10, 40, 79, 41, 32, 83, 52, 32, 46, 32, 59, 32, 120, 10, 77, 51, 10, 101, 110, 100, 10]⟩
def outA : ByteArray := ⟨#[112, 97, 114, 116, 32, 97, 10, 40, 79, 41, 32, 83, 52, 32, 46, 32, 77, 51, 10, 101, 110, 100, 10]⟩
def sX : Sg := { zS with kind := 1, val := 4, place := -2, acc := -1, col := true }
theorem prs_A : prsV textA = ((aB, shL), (0, 0)) := by kernel_rfl
theorem txt_A : txtV aB shL = (outA, 0) := by kernel_rfl
theorem one_X : oneE sX = 0 := by kernel_rfl
theorem word_X : wordT sX = [83, 45, 50, 98, 42] := by kernel_rfl
set_option maxRecDepth 100000 in
set_option maxHeartbeats 8000000 in
theorem awake_any (w : World) (T : TabN w) : Calls Tryz.prog 10 #[] w fun e w' => e = .returned (.bool true) ∧ Below w.heap.size w w' := by
  have PP := Lib.hid (pparse_any textA (by decide) w T.s)
  unfold PrP at PP
  rw [prs_A] at PP
  have SH := Lib.hid (fun V => lshown_any V)
  have TX := Lib.hid (fun (b : Nat) (V : World) (h : SlP V 17 (some ⟨b, 0, none⟩) 4 4 (flatG shL)) (T : TabN V) => show Calls Tryz.prog 16 #[ptv aB (some ⟨b, 0, none⟩) 4 4] V (TxPost aB shL V) from ptext_any aB (by decide) (some ⟨b, 0, none⟩) 4 shL V h T)
  unfold TxPost at TX
  rw [txt_A] at TX
  have WR := Lib.hid (fun V T => lwritten_any sX one_X V T)
  rw [word_X] at WR
  have SM := Lib.hid (fun (p : Option Addr) (cp b : Nat) (V : World) (hp : SlP V 17 p 4 cp (flatG shL)) (hq : SlP V 17 (some ⟨b, 0, none⟩) 4 4 (flatG shL)) => show Calls Tryz.prog 18 #[ptv aB p 4 cp, ptv aB (some ⟨b, 0, none⟩) 4 4] V fun e w' => e = .returned (.bool true) ∧ Below V.heap.size V w' from by
    have := rsam_any aB aB p (some ⟨b, 0, none⟩) cp 4 shL shL V hp hq
    rwa [samP_refl] at this)
  have HT := Lib.hid (fun V (b : Below w.heap.size w V) => T.later b)
  clear T
  simp only at PP TX
  unfold textA at PP
  go_enter Tryz.func10, Tryz.ntmps10
  go_wp2_with fail
  refine PP.out.mono ?_
  rintro e w1 ⟨p, cap, rfl, hs, hb⟩
  replace hs : SlP w1 17 p 4 cap (flatG shL) := hs
  have B1 := Lib.hid (w_alloc (w_alloc hb (ptO aB p 4 cap)) (.cells #[.int .i64 0, .int .i64 0] 43))
  have P1 := Lib.hid ((pt_new w1 aB p 4 cap).al (.cells #[.int .i64 0, .int .i64 0] 43))
  have F1 := Lib.hid (HoldsB.new (w1.alloc (ptO aB p 4 cap)) 43 #[.int .i64 0, .int .i64 0])
  have S1 := Lib.hid (hs.later (w_alloc (w_alloc (w_refl w1) (ptO aB p 4 cap)) (.cells #[.int .i64 0, .int .i64 0] 43)))
  rw [World.size_alloc] at F1
  clear hb hs PP
  unfold ftV
  rw [show (shL : List Sg).length = 4 from rfl]
  go_wp2_with fail
  refine (SH.out _).mono ?_
  rintro e w2 ⟨b2, rfl, hs2, hb⟩
  replace B1 := Lib.hid (w_below B1.out hb)
  replace P1 := Lib.hid (P1.out.later hb)
  replace F1 := Lib.hid (F1.out.later hb)
  replace S1 := Lib.hid (S1.out.later hb)
  have HS2 := Lib.hid hs2
  clear hb hs2
  go_wp2_with fail
  refine (TX.out b2 _ HS2.out (HT.out _ B1.out)).mono ?_
  rintro e w3 ⟨rfl, hb⟩
  replace B1 := Lib.hid (w_below B1.out hb)
  replace P1 := Lib.hid (P1.out.later hb)
  replace F1 := Lib.hid (F1.out.later hb)
  replace S1 := Lib.hid (S1.out.later hb)
  clear hb HS2 TX
  obtain ⟨m1, hm1⟩ : ∃ m1, w1.heap.size = m1 := ⟨_, rfl⟩
  rw [hm1] at P1 F1
  go_wp2_with fail
  try rw [hm1]
  clear hm1
  refine wp_region_held (S := fun W => W.cell? ⟨m1, 0, none⟩ = some (.string aB) ∧ W.cell? ⟨m1, 1, none⟩ = some (.slice p 4 cap) ∧ W.cell? ⟨m1 + 1, 0, none⟩ = some (.int .i64 0)) (by kernel_rfl) ?_
  change wpAnyH _ _ _ _ _ _ _ _ (World.drew _)
  replace B1 := Lib.hid B1.out.drew
  replace P1 := Lib.hid (P1.out.later (w_refl _).drew)
  replace F1 := Lib.hid (F1.out.later (w_refl _).drew)
  replace S1 := Lib.hid (S1.out.later (w_refl _).drew)
  generalize World.drew w3 = y at *

  refine wpAnyH_take (i := 0) (v := .pointer (some ⟨m1 + 1, 0, none⟩)) rfl (by kernel_rfl) (by kernel_rfl) (by kernel_rfl) (fun _ _ _ h => h) (run_yields _ (by kernel_rfl) (fun W hW => by kernel_rfl)) ⟨P1.out.cell rfl, P1.out.cell rfl, F1.out.cell rfl⟩ ?_
  refine wpAnyH_take (i := 1) (v := .int .i64 0) rfl (by kernel_rfl) (by kernel_rfl) (by kernel_rfl) (fun _ _ _ h => h) (Or.inl ⟨by kernel_rfl, fun W hW => by (obtain ⟨x1, x2, x3⟩ := hW; go_simp)⟩) ⟨P1.out.cell rfl, P1.out.cell rfl, F1.out.cell rfl⟩ ?_
  refine wpAnyH_take (i := 2) (v := .bool true) rfl (by kernel_rfl) (by kernel_rfl) (by kernel_rfl) (fun _ _ _ h => h) (run_yields _ (by kernel_rfl) (fun W hW => by kernel_rfl)) ⟨P1.out.cell rfl, P1.out.cell rfl, F1.out.cell rfl⟩ ?_
  refine wpAnyH_take (i := 3) (v := .bool true) rfl (by kernel_rfl) (by kernel_rfl) (by kernel_rfl) (fun _ _ _ h => h) (run_yields _ (by kernel_rfl) (fun W hW => by kernel_rfl)) ⟨P1.out.cell rfl, P1.out.cell rfl, F1.out.cell rfl⟩ ?_
  refine wpAnyH_take (i := 4) (v := .agg #[.string aB, .slice p 4 cap]) rfl (by kernel_rfl) (by kernel_rfl) (by kernel_rfl) (fun _ _ _ h => h) (Or.inl ⟨by kernel_rfl, fun W hW => by (obtain ⟨x1, x2, x3⟩ := hW; go_simp)⟩) ⟨P1.out.cell rfl, P1.out.cell rfl, F1.out.cell rfl⟩ ?_
  refine wpAnyH_ready (rs := [5]) (by kernel_rfl) (by simp) ?_
  refine AllReadyH.cons rfl (fun K hK => ?_) AllReadyH.nil
  rw [if_pos (by kernel_rfl)]
  go_simp
  go_at_call 33
  refine (SH.out _).mono ?_
  rintro e y ⟨b3, rfl, hs3, hb⟩
  replace B1 := Lib.hid (w_below B1.out hb)
  replace P1 := Lib.hid (P1.out.later hb)
  replace F1 := Lib.hid (F1.out.later hb)
  replace S1 := Lib.hid (S1.out.later hb)
  have HS3 := Lib.hid hs3
  clear hs3 SH
  clear hb
  go_simp
  refine hK.out _ _ ⟨P1.out.cell rfl, P1.out.cell rfl, F1.out.cell rfl⟩ (fun _ => ?_)
  clear hK K
  refine wpAnyH_ready (rs := [6]) (by kernel_rfl) (by simp) ?_
  refine AllReadyH.cons rfl (fun K hK => ?_) AllReadyH.nil
  rw [if_pos (by kernel_rfl)]
  go_simp
  go_at_call 18
  refine (SM.out p cap b3 _ S1.out HS3.out).mono ?_
  rintro e y ⟨rfl, hb⟩
  replace B1 := Lib.hid (w_below B1.out hb)
  replace P1 := Lib.hid (P1.out.later hb)
  replace F1 := Lib.hid (F1.out.later hb)
  replace S1 := Lib.hid (S1.out.later hb)
  clear SM HS3
  clear hb
  go_simp
  refine hK.out _ _ ⟨P1.out.cell rfl, P1.out.cell rfl, F1.out.cell rfl⟩ (fun _ => ?_)
  clear hK K
  refine wpAnyH_take (i := 7) (v := .bool true) rfl (by kernel_rfl) (by kernel_rfl) (by kernel_rfl) (fun _ _ _ h => h) (run_yields _ (by kernel_rfl) (fun W hW => by kernel_rfl)) ⟨P1.out.cell rfl, P1.out.cell rfl, F1.out.cell rfl⟩ ?_
  refine wpAnyH_take (i := 8) (v := .bool true) rfl (by kernel_rfl) (by kernel_rfl) (by kernel_rfl) (fun _ _ _ h => h) (run_yields _ (by kernel_rfl) (fun W hW => by kernel_rfl)) ⟨P1.out.cell rfl, P1.out.cell rfl, F1.out.cell rfl⟩ ?_
  refine wpAnyH_take (i := 9) (v := .int .i64 0) rfl (by kernel_rfl) (by kernel_rfl) (by kernel_rfl) (fun _ _ _ h => h) (run_yields _ (by kernel_rfl) (fun W hW => by kernel_rfl)) ⟨P1.out.cell rfl, P1.out.cell rfl, F1.out.cell rfl⟩ ?_
  refine wpAnyH_take (i := 10) (v := .bool true) rfl (by kernel_rfl) (by kernel_rfl) (by kernel_rfl) (fun _ _ _ h => h) (run_yields _ (by kernel_rfl) (fun W hW => by kernel_rfl)) ⟨P1.out.cell rfl, P1.out.cell rfl, F1.out.cell rfl⟩ ?_
  refine wpAnyH_take (i := 11) (v := .bool true) rfl (by kernel_rfl) (by kernel_rfl) (by kernel_rfl) (fun _ _ _ h => h) (run_yields _ (by kernel_rfl) (fun W hW => by kernel_rfl)) ⟨P1.out.cell rfl, P1.out.cell rfl, F1.out.cell rfl⟩ ?_
  refine wpAnyH_take (i := 12) (v := .bool true) rfl (by kernel_rfl) (by kernel_rfl) (by kernel_rfl) (fun _ _ _ h => h) (run_yields _ (by kernel_rfl) (fun W hW => by kernel_rfl)) ⟨P1.out.cell rfl, P1.out.cell rfl, F1.out.cell rfl⟩ ?_
  refine wpAnyH_take (i := 13) (v := .string outA) rfl (by kernel_rfl) (by kernel_rfl) (by kernel_rfl) (fun _ _ _ h => h) (run_yields _ (by kernel_rfl) (fun W hW => by kernel_rfl)) ⟨P1.out.cell rfl, P1.out.cell rfl, F1.out.cell rfl⟩ ?_
  refine wpAnyH_take (i := 14) (v := .bool true) rfl (by kernel_rfl) (by kernel_rfl) (by kernel_rfl) (fun _ _ _ h => h) (run_yields _ (by kernel_rfl) (fun W hW => by kernel_rfl)) ⟨P1.out.cell rfl, P1.out.cell rfl, F1.out.cell rfl⟩ ?_
  refine wpAnyH_take (i := 15) (v := .bool true) rfl (by kernel_rfl) (by kernel_rfl) (by kernel_rfl) (fun _ _ _ h => h) (run_yields _ (by kernel_rfl) (fun W hW => by kernel_rfl)) ⟨P1.out.cell rfl, P1.out.cell rfl, F1.out.cell rfl⟩ ?_
  refine wpAnyH_take (i := 16) (v := .bool true) rfl (by kernel_rfl) (by kernel_rfl) (by kernel_rfl) (fun _ _ _ h => h) (run_yields _ (by kernel_rfl) (fun W hW => by kernel_rfl)) ⟨P1.out.cell rfl, P1.out.cell rfl, F1.out.cell rfl⟩ ?_
  refine wpAnyH_take (i := 17) (v := sgv sX) rfl (by kernel_rfl) (by kernel_rfl) (by kernel_rfl) (fun _ _ _ h => h) (run_yields _ (by kernel_rfl) (fun W hW => by kernel_rfl)) ⟨P1.out.cell rfl, P1.out.cell rfl, F1.out.cell rfl⟩ ?_
  refine wpAnyH_ready (rs := [18]) (by kernel_rfl) (by simp) ?_
  refine AllReadyH.cons rfl (fun K hK => ?_) AllReadyH.nil
  rw [if_pos (by kernel_rfl)]
  go_simp
  go_at_call 25
  refine (WR.out _ (HT.out _ B1.out)).mono ?_
  rintro e y ⟨rfl, hb⟩
  replace B1 := Lib.hid (w_below B1.out hb)
  replace P1 := Lib.hid (P1.out.later hb)
  replace F1 := Lib.hid (F1.out.later hb)
  replace S1 := Lib.hid (S1.out.later hb)
  clear WR
  clear hb
  go_simp
  refine hK.out _ _ ⟨P1.out.cell rfl, P1.out.cell rfl, F1.out.cell rfl⟩ (fun _ => ?_)
  clear hK K
  refine wpAnyH_take (i := 19) (v := .bool true) rfl (by kernel_rfl) (by kernel_rfl) (by kernel_rfl) (fun _ _ _ h => h) (run_yields _ (by kernel_rfl) (fun W hW => by kernel_rfl)) ⟨P1.out.cell rfl, P1.out.cell rfl, F1.out.cell rfl⟩ ?_
  refine wpAnyH_take (i := 20) (v := .bool true) rfl (by kernel_rfl) (by kernel_rfl) (by kernel_rfl) (fun _ _ _ h => h) (run_yields _ (by kernel_rfl) (fun W hW => by kernel_rfl)) ⟨P1.out.cell rfl, P1.out.cell rfl, F1.out.cell rfl⟩ ?_
  refine wpAnyH_done (by kernel_rfl) ?_ _
  go_wp2_with fail
  refine bodyPost_ret (v := .bool true) (by kernel_rfl) rfl ⟨rfl, B1.out⟩
end Go.Proofs.YtdmedealdhadcaaGreatDoor
