/- What every statement asks for: texts with a fault; the chapter's examples. NotateKnown: the chapter's examples. The kit's small helpers: Mod, At, Mens, Parts; lists of signs without ligatures are valid. -/
import Derived.Test.YtdmedealdhadcaaGreatDoorG26
import Derived.Test.YtdmedealdhadcaaGreatDoorG03

namespace Go.Proofs.YtdmedealdhadcaaGreatDoor
open Go.RowKit
theorem samP_refl (a : ByteArray) (l : List Sg) : samP a a l l = true := by unfold samP eqG; simp
set_option maxRecDepth 100000 in
set_option maxHeartbeats 4000000 in
theorem lfault_any (X : ByteArray) (hX : X.size ≤ 1000000) (er at_ : Int) (h : prsV X = (noP, (er, at_))) (w : World) (T : TabN w) : Calls Tryz.prog 27 #[.string X, .int .i64 er, .int .i64 at_] w fun e w' => e = .returned (.bool true) ∧ Below w.heap.size w w' := by
  have PP := Lib.hid (pparse_any X hX w T.s)
  unfold PrP at PP
  rw [h] at PP
  have SM := Lib.hid (fun (p : Option Addr) (cp : Nat) (V : World) (hp : SlP V 17 p ([] : List Sg).length cp (flatG [])) (hq : SlP V 17 none ([] : List Sg).length 0 (flatG [])) => rsam_any emp emp p none cp 0 [] [] V hp hq)
  rw [samP_refl] at SM
  clear h T
  simp only [noP] at PP
  go_enter Tryz.func27, Tryz.ntmps27
  go_wp2_with fail
  refine PP.out.mono ?_
  rintro e w1 ⟨p, cap, rfl, hs, hb⟩
  have B1 := Lib.hid (w_alloc (w_alloc hb (ptO emp p 0 cap)) (.cells #[.int .i64 er, .int .i64 at_] 43))
  have P1 := Lib.hid ((pt_new w1 emp p 0 cap).al (.cells #[.int .i64 er, .int .i64 at_] 43))
  have F1 := Lib.hid (HoldsB.new (w1.alloc (ptO emp p 0 cap)) 43 #[.int .i64 er, .int .i64 at_])
  have S1 := Lib.hid (hs.later (w_alloc (w_alloc (w_refl w1) (ptO emp p 0 cap)) (.cells #[.int .i64 er, .int .i64 at_] 43)))
  rw [World.size_alloc] at F1
  have k0 := P1.out.cell (j := 0) rfl
  have k1 := P1.out.cell (j := 1) rfl
  have j0 := F1.out.cell (j := 0) rfl
  have j1 := F1.out.cell (j := 1) rfl
  clear hb hs PP
  unfold ftV
  go_wp2_with fail
  refine (SM.out p cap _ S1.out (slP_nil _)).mono ?_
  rintro e w2 ⟨rfl, hb⟩
  have B2 := Lib.hid (w_below B1.out hb)
  replace j0 := cell_later hb j0
  replace j1 := cell_later hb j1
  clear hb SM S1 P1 F1 B1 k0 k1
  go_wp2_with fail
  go_ret
  exact ⟨rfl, B2.out⟩
--END FAULT
def textA : ByteArray := ⟨#[112, 97, 114, 116, 32, 97, 10, 40, 79, 41, 32, 83, 52, 32, 46, 32, 59, 32, 120, 10, 77, 51, 10, 101, 110, 100, 10]⟩
def outA : ByteArray := ⟨#[112, 97, 114, 116, 32, 97, 10, 40, 79, 41, 32, 83, 52, 32, 46, 32, 77, 51, 10, 101, 110, 100, 10]⟩
def sX : Sg := { zS with kind := 1, val := 4, place := -2, acc := -1, col := true }
theorem prs_A : prsV textA = ((aB, shL), (0, 0)) := by kernel_rfl
theorem txt_A : txtV aB shL = (outA, 0) := by kernel_rfl
theorem one_X : oneE sX = 0 := by kernel_rfl
theorem word_X : wordT sX = [83, 45, 50, 98, 42] := by kernel_rfl
set_option maxRecDepth 100000 in
set_option maxHeartbeats 8000000 in
theorem awake_any (w : World) (T : TabN w) : Calls Tryz.prog 10 #[] w fun e w' => e = .returned (.bool true) ∧ Below w.heap.size w w' := by
  have PP := Lib.hid (pparse_any textA (by decide) w T.s)
  unfold PrP at PP
  rw [prs_A] at PP
  have SH := Lib.hid (fun V => lshown_any V)
  have TX := Lib.hid (fun (b : Nat) (V : World) (h : SlP V 17 (some ⟨b, 0, none⟩) 4 4 (flatG shL)) (T : TabN V) => show Calls Tryz.prog 16 #[ptv aB (some ⟨b, 0, none⟩) 4 4] V (TxPost aB shL V) from ptext_any aB (by decide) (some ⟨b, 0, none⟩) 4 shL V h T)
  unfold TxPost at TX
  rw [txt_A] at TX
  have WR := Lib.hid (fun V T => lwritten_any sX one_X V T)
  rw [word_X] at WR
  have SM := Lib.hid (fun (p : Option Addr) (cp b : Nat) (V : World) (hp : SlP V 17 p 4 cp (flatG shL)) (hq : SlP V 17 (some ⟨b, 0, none⟩) 4 4 (flatG shL)) => show Calls Tryz.prog 18 #[ptv aB p 4 cp, ptv aB (some ⟨b, 0, none⟩) 4 4] V fun e w' => e = .returned (.bool true) ∧ Below V.heap.size V w' from by
    have := rsam_any aB aB p (some ⟨b, 0, none⟩) cp 4 shL shL V hp hq
    rwa [samP_refl] at this)
  have HT := Lib.hid (fun V (b : Below w.heap.size w V) => T.later b)
  clear T
  simp only at PP TX
  unfold textA at PP
  go_enter Tryz.func10, Tryz.ntmps10
  go_wp2_with fail
  refine PP.out.mono ?_
  rintro e w1 ⟨p, cap, rfl, hs, hb⟩
  replace hs : SlP w1 17 p 4 cap (flatG shL) := hs
  have B1 := Lib.hid (w_alloc (w_alloc hb (ptO aB p 4 cap)) (.cells #[.int .i64 0, .int .i64 0] 43))
  have P1 := Lib.hid ((pt_new w1 aB p 4 cap).al (.cells #[.int .i64 0, .int .i64 0] 43))
  have F1 := Lib.hid (HoldsB.new (w1.alloc (ptO aB p 4 cap)) 43 #[.int .i64 0, .int .i64 0])
  have S1 := Lib.hid (hs.later (w_alloc (w_alloc (w_refl w1) (ptO aB p 4 cap)) (.cells #[.int .i64 0, .int .i64 0] 43)))
  rw [World.size_alloc] at F1
  clear hb hs PP
  unfold ftV
  rw [show (shL : List Sg).length = 4 from rfl]
  go_wp2_with fail
  refine (SH.out _).mono ?_
  rintro e w2 ⟨b2, rfl, hs2, hb⟩
  replace B1 := Lib.hid (w_below B1.out hb)
  replace P1 := Lib.hid (P1.out.later hb)
  replace F1 := Lib.hid (F1.out.later hb)
  replace S1 := Lib.hid (S1.out.later hb)
  have HS2 := Lib.hid hs2
  clear hb hs2
  go_wp2_with fail
  refine (TX.out b2 _ HS2.out (HT.out _ B1.out)).mono ?_
  rintro e w3 ⟨rfl, hb⟩
  replace B1 := Lib.hid (w_below B1.out hb)
  replace P1 := Lib.hid (P1.out.later hb)
  replace F1 := Lib.hid (F1.out.later hb)
  replace S1 := Lib.hid (S1.out.later hb)
  clear hb HS2 TX
  obtain ⟨m1, hm1⟩ : ∃ m1, w1.heap.size = m1 := ⟨_, rfl⟩
  rw [hm1] at P1 F1
  go_wp2_with fail
  try rw [hm1]
  clear hm1
  refine wp_region_held (S := fun W => W.cell? ⟨m1, 0, none⟩ = some (.string aB) ∧ W.cell? ⟨m1, 1, none⟩ = some (.slice p 4 cap) ∧ W.cell? ⟨m1 + 1, 0, none⟩ = some (.int .i64 0)) (by kernel_rfl) ?_
  change wpAnyH _ _ _ _ _ _ _ _ (World.drew _)
  replace B1 := Lib.hid B1.out.drew
  replace P1 := Lib.hid (P1.out.later (w_refl _).drew)
  replace F1 := Lib.hid (F1.out.later (w_refl _).drew)
  replace S1 := Lib.hid (S1.out.later (w_refl _).drew)
  generalize World.drew w3 = y at *

  refine wpAnyH_take (i := 0) (v := .pointer (some ⟨m1 + 1, 0, none⟩)) rfl (by kernel_rfl) (by kernel_rfl) (by kernel_rfl) (fun _ _ _ h => h) (run_yields _ (by kernel_rfl) (fun W hW => by kernel_rfl)) ⟨P1.out.cell rfl, P1.out.cell rfl, F1.out.cell rfl⟩ ?_
  refine wpAnyH_take (i := 1) (v := .int .i64 0) rfl (by kernel_rfl) (by kernel_rfl) (by kernel_rfl) (fun _ _ _ h => h) (Or.inl ⟨by kernel_rfl, fun W hW => by (obtain ⟨x1, x2, x3⟩ := hW; go_simp)⟩) ⟨P1.out.cell rfl, P1.out.cell rfl, F1.out.cell rfl⟩ ?_
  refine wpAnyH_take (i := 2) (v := .bool true) rfl (by kernel_rfl) (by kernel_rfl) (by kernel_rfl) (fun _ _ _ h => h) (run_yields _ (by kernel_rfl) (fun W hW => by kernel_rfl)) ⟨P1.out.cell rfl, P1.out.cell rfl, F1.out.cell rfl⟩ ?_
  refine wpAnyH_take (i := 3) (v := .bool true) rfl (by kernel_rfl) (by kernel_rfl) (by kernel_rfl) (fun _ _ _ h => h) (run_yields _ (by kernel_rfl) (fun W hW => by kernel_rfl)) ⟨P1.out.cell rfl, P1.out.cell rfl, F1.out.cell rfl⟩ ?_
  refine wpAnyH_take (i := 4) (v := .agg #[.string aB, .slice p 4 cap]) rfl (by kernel_rfl) (by kernel_rfl) (by kernel_rfl) (fun _ _ _ h => h) (Or.inl ⟨by kernel_rfl, fun W hW => by (obtain ⟨x1, x2, x3⟩ := hW; go_simp)⟩) ⟨P1.out.cell rfl, P1.out.cell rfl, F1.out.cell rfl⟩ ?_
  refine wpAnyH_ready (rs := [5]) (by kernel_rfl) (by simp) ?_
  refine AllReadyH.cons rfl (fun K hK => ?_) AllReadyH.nil
  rw [if_pos (by kernel_rfl)]
  go_simp
  go_at_call 33
  refine (SH.out _).mono ?_
  rintro e y ⟨b3, rfl, hs3, hb⟩
  replace B1 := Lib.hid (w_below B1.out hb)
  replace P1 := Lib.hid (P1.out.later hb)
  replace F1 := Lib.hid (F1.out.later hb)
  replace S1 := Lib.hid (S1.out.later hb)
  have HS3 := Lib.hid hs3
  clear hs3 SH
  clear hb
  go_simp
  refine hK.out _ _ ⟨P1.out.cell rfl, P1.out.cell rfl, F1.out.cell rfl⟩ (fun _ => ?_)
  clear hK K
  refine wpAnyH_ready (rs := [6]) (by kernel_rfl) (by simp) ?_
  refine AllReadyH.cons rfl (fun K hK => ?_) AllReadyH.nil
  rw [if_pos (by kernel_rfl)]
  go_simp
  go_at_call 18
  refine (SM.out p cap b3 _ S1.out HS3.out).mono ?_
  rintro e y ⟨rfl, hb⟩
  replace B1 := Lib.hid (w_below B1.out hb)
  replace P1 := Lib.hid (P1.out.later hb)
  replace F1 := Lib.hid (F1.out.later hb)
  replace S1 := Lib.hid (S1.out.later hb)
  clear SM HS3
  clear hb
  go_simp
  refine hK.out _ _ ⟨P1.out.cell rfl, P1.out.cell rfl, F1.out.cell rfl⟩ (fun _ => ?_)
  clear hK K
  refine wpAnyH_take (i := 7) (v := .bool true) rfl (by kernel_rfl) (by kernel_rfl) (by kernel_rfl) (fun _ _ _ h => h) (run_yields _ (by kernel_rfl) (fun W hW => by kernel_rfl)) ⟨P1.out.cell rfl, P1.out.cell rfl, F1.out.cell rfl⟩ ?_
  refine wpAnyH_take (i := 8) (v := .bool true) rfl (by kernel_rfl) (by kernel_rfl) (by kernel_rfl) (fun _ _ _ h => h) (run_yields _ (by kernel_rfl) (fun W hW => by kernel_rfl)) ⟨P1.out.cell rfl, P1.out.cell rfl, F1.out.cell rfl⟩ ?_
  refine wpAnyH_take (i := 9) (v := .int .i64 0) rfl (by kernel_rfl) (by kernel_rfl) (by kernel_rfl) (fun _ _ _ h => h) (run_yields _ (by kernel_rfl) (fun W hW => by kernel_rfl)) ⟨P1.out.cell rfl, P1.out.cell rfl, F1.out.cell rfl⟩ ?_
  refine wpAnyH_take (i := 10) (v := .bool true) rfl (by kernel_rfl) (by kernel_rfl) (by kernel_rfl) (fun _ _ _ h => h) (run_yields _ (by kernel_rfl) (fun W hW => by kernel_rfl)) ⟨P1.out.cell rfl, P1.out.cell rfl, F1.out.cell rfl⟩ ?_
  refine wpAnyH_take (i := 11) (v := .bool true) rfl (by kernel_rfl) (by kernel_rfl) (by kernel_rfl) (fun _ _ _ h => h) (run_yields _ (by kernel_rfl) (fun W hW => by kernel_rfl)) ⟨P1.out.cell rfl, P1.out.cell rfl, F1.out.cell rfl⟩ ?_
  refine wpAnyH_take (i := 12) (v := .bool true) rfl (by kernel_rfl) (by kernel_rfl) (by kernel_rfl) (fun _ _ _ h => h) (run_yields _ (by kernel_rfl) (fun W hW => by kernel_rfl)) ⟨P1.out.cell rfl, P1.out.cell rfl, F1.out.cell rfl⟩ ?_
  refine wpAnyH_take (i := 13) (v := .string outA) rfl (by kernel_rfl) (by kernel_rfl) (by kernel_rfl) (fun _ _ _ h => h) (run_yields _ (by kernel_rfl) (fun W hW => by kernel_rfl)) ⟨P1.out.cell rfl, P1.out.cell rfl, F1.out.cell rfl⟩ ?_
  refine wpAnyH_take (i := 14) (v := .bool true) rfl (by kernel_rfl) (by kernel_rfl) (by kernel_rfl) (fun _ _ _ h => h) (run_yields _ (by kernel_rfl) (fun W hW => by kernel_rfl)) ⟨P1.out.cell rfl, P1.out.cell rfl, F1.out.cell rfl⟩ ?_
  refine wpAnyH_take (i := 15) (v := .bool true) rfl (by kernel_rfl) (by kernel_rfl) (by kernel_rfl) (fun _ _ _ h => h) (run_yields _ (by kernel_rfl) (fun W hW => by kernel_rfl)) ⟨P1.out.cell rfl, P1.out.cell rfl, F1.out.cell rfl⟩ ?_
  refine wpAnyH_take (i := 16) (v := .bool true) rfl (by kernel_rfl) (by kernel_rfl) (by kernel_rfl) (fun _ _ _ h => h) (run_yields _ (by kernel_rfl) (fun W hW => by kernel_rfl)) ⟨P1.out.cell rfl, P1.out.cell rfl, F1.out.cell rfl⟩ ?_
  refine wpAnyH_take (i := 17) (v := sgv sX) rfl (by kernel_rfl) (by kernel_rfl) (by kernel_rfl) (fun _ _ _ h => h) (run_yields _ (by kernel_rfl) (fun W hW => by kernel_rfl)) ⟨P1.out.cell rfl, P1.out.cell rfl, F1.out.cell rfl⟩ ?_
  refine wpAnyH_ready (rs := [18]) (by kernel_rfl) (by simp) ?_
  refine AllReadyH.cons rfl (fun K hK => ?_) AllReadyH.nil
  rw [if_pos (by kernel_rfl)]
  go_simp
  go_at_call 25
  refine (WR.out _ (HT.out _ B1.out)).mono ?_
  rintro e y ⟨rfl, hb⟩
  replace B1 := Lib.hid (w_below B1.out hb)
  replace P1 := Lib.hid (P1.out.later hb)
  replace F1 := Lib.hid (F1.out.later hb)
  replace S1 := Lib.hid (S1.out.later hb)
  clear WR
  clear hb
  go_simp
  refine hK.out _ _ ⟨P1.out.cell rfl, P1.out.cell rfl, F1.out.cell rfl⟩ (fun _ => ?_)
  clear hK K
  refine wpAnyH_take (i := 19) (v := .bool true) rfl (by kernel_rfl) (by kernel_rfl) (by kernel_rfl) (fun _ _ _ h => h) (run_yields _ (by kernel_rfl) (fun W hW => by kernel_rfl)) ⟨P1.out.cell rfl, P1.out.cell rfl, F1.out.cell rfl⟩ ?_
  refine wpAnyH_take (i := 20) (v := .bool true) rfl (by kernel_rfl) (by kernel_rfl) (by kernel_rfl) (fun _ _ _ h => h) (run_yields _ (by kernel_rfl) (fun W hW => by kernel_rfl)) ⟨P1.out.cell rfl, P1.out.cell rfl, F1.out.cell rfl⟩ ?_
  refine wpAnyH_done (by kernel_rfl) ?_ _
  go_wp2_with fail
  refine bodyPost_ret (v := .bool true) (by kernel_rfl) rfl ⟨rfl, B1.out⟩
end Go.Proofs.YtdmedealdhadcaaGreatDoor

namespace Go.Proofs.YtdmedealdhadcaaGreatDoor
open Go.RowKit
set_option maxRecDepth 100000 in
set_option maxHeartbeats 4000000 in
theorem wl_buildG {ops : Array Oper} {rest : List Oper} {t : TypeId} {ps : String} {af : Array Edge} {a : Act} {Q : Exit → Act → World → Prop} {w : World} {d : Tmp} {g : Option (Nat × Bool)} (parts : Array (Nat × Operand)) (s : Sg)
    (hw : Region.wanted { dst := some d, op := .build 27 parts, type := t, pos := ps, after := af, guard := g } (yielded ops a.tmps) = true)
    (hb : Tryz.prog.built 27 (parts.map fun (i, x) => (i, a.eval x)).toList = some (sgA s)) (h : wpList Tryz.prog ops Q rest (a.put (some d) (sgv s)) w) :
    wpList Tryz.prog ops Q ({ dst := some d, op := .build 27 parts, type := t, pos := ps, after := af, guard := g } :: rest) a w := by
  refine wpList_step fun K hK => ?_
  rw [if_pos hw]
  have e : (Tryz.prog.built 27 (parts.map fun (i, x) => (i, a.eval x)).toList).isSome = true := by rw [hb]; rfl
  have hk : K (a.put (some d) (.agg ((Tryz.prog.built 27 (parts.map fun (i, x) => (i, a.eval x)).toList).getD #[]))) w := by rw [hb]; exact hK _ _ h
  generalize hv : Tryz.prog.built 27 (parts.map fun (i, x) => (i, a.eval x)).toList = v at *
  subst hv
  exact wp_build (P := Tryz.prog) 27 parts rfl e hk
def kW0 : Sg := { zS with kind := 2, val := 3 }
theorem kW0_one : oneE kW0 = 0 := by kernel_rfl
theorem kW0_word : wordT kW0 = [114, 66] := by kernel_rfl
def kW1 : Sg := { zS with kind := 4, place := 4, stem := 1, last := true }
theorem kW1_one : oneE kW1 = 0 := by kernel_rfl
theorem kW1_word : wordT kW1 = [116, 52, 94, 33] := by kernel_rfl
def kW2 : Sg := { zS with kind := 5, m0 := 2, m1 := 2, m2 := 3, m3 := 3, stk := true }
theorem kW2_one : oneE kW2 = 0 := by kernel_rfl
theorem kW2_word : wordT kW2 = [40, 79, 46, 41, 124] := by kernel_rfl
def kW3 : Sg := { zS with kind := 6, n := 3, d := 2 }
theorem kW3_one : oneE kW3 = 0 := by kernel_rfl
theorem kW3_word : wordT kW3 = [51, 47, 50] := by kernel_rfl
def kW4 : Sg := { zS with kind := 7, c1 := 3 }
theorem kW4_one : oneE kW4 = 0 := by kernel_rfl
theorem kW4_word : wordT kW4 = [64, 67, 51] := by kernel_rfl
def kW5 : Sg := { zS with kind := 10, n := 2 }
theorem kW5_one : oneE kW5 = 0 := by kernel_rfl
theorem kW5_word : wordT kW5 = [93, 50] := by kernel_rfl
def kW6 : Sg := { zS with kind := 11 }
theorem kW6_one : oneE kW6 = 0 := by kernel_rfl
theorem kW6_word : wordT kW6 = [116, 117, 114, 110] := by kernel_rfl
theorem kE0 : signV [77, 49, 51] = (zS, 2) := by kernel_rfl
theorem kE1 : signV [77, 48, 52] = (zS, 3) := by kernel_rfl
theorem kE2 : signV [115, 52] = (zS, 3) := by kernel_rfl
theorem kE3 : signV [116, 52, 33, 126] = (zS, 3) := by kernel_rfl
theorem kE4 : signV [116, 52, 126, 33] = (zS, 3) := by kernel_rfl
theorem kE5 : signV [48, 47, 50] = (zS, 2) := by kernel_rfl
theorem kE6 : signV [91, 50] = (zS, 3) := by kernel_rfl
theorem kE7 : signV [93, 49] = (zS, 2) := by kernel_rfl
theorem kE8 : signV [40, 50, 50, 79, 41] = (zS, 3) := by kernel_rfl
theorem kE9 : signV [64, 68, 51] = (zS, 3) := by kernel_rfl
theorem kF0 : prsV ⟨#[]⟩ = (noP, (9, 0)) := by kernel_rfl
theorem kF1 : prsV ⟨#[112, 97, 114, 116, 32, 97, 10, 83, 52, 10]⟩ = (noP, (9, 10)) := by kernel_rfl
theorem kF2 : prsV ⟨#[112, 97, 114, 116, 32, 65, 10, 101, 110, 100, 10]⟩ = (noP, (7, 5)) := by kernel_rfl
theorem kF3 : prsV ⟨#[112, 97, 114, 116, 32, 97, 10, 116, 52, 32, 83, 51, 10, 101, 110, 100, 10]⟩ = (noP, (3, 7)) := by kernel_rfl
theorem kF4 : prsV ⟨#[112, 97, 114, 116, 32, 97, 10, 101, 110, 100, 10, 32, 101, 110, 100, 10]⟩ = (noP, (3, 12)) := by kernel_rfl
set_option maxRecDepth 100000 in
set_option maxHeartbeats 8000000 in
theorem lknown_any (w : World) (T : TabN w) : Calls Tryz.prog 7 #[] w fun e w' => e = .returned (.bool true) ∧ Below w.heap.size w w' := by
  have W0 := Lib.hid (show ∀ V, Below w.heap.size w V → Calls Tryz.prog 25 #[sgv kW0, .string ⟨#[114, 66]⟩] V fun e w' => e = .returned (.bool true) ∧ Below V.heap.size V w' from fun V b => by have := lwritten_any kW0 kW0_one V (T.later b); rwa [kW0_word] at this)
  have W1 := Lib.hid (show ∀ V, Below w.heap.size w V → Calls Tryz.prog 25 #[sgv kW1, .string ⟨#[116, 52, 94, 33]⟩] V fun e w' => e = .returned (.bool true) ∧ Below V.heap.size V w' from fun V b => by have := lwritten_any kW1 kW1_one V (T.later b); rwa [kW1_word] at this)
  have W2 := Lib.hid (show ∀ V, Below w.heap.size w V → Calls Tryz.prog 25 #[sgv kW2, .string ⟨#[40, 79, 46, 41, 124]⟩] V fun e w' => e = .returned (.bool true) ∧ Below V.heap.size V w' from fun V b => by have := lwritten_any kW2 kW2_one V (T.later b); rwa [kW2_word] at this)
  have W3 := Lib.hid (show ∀ V, Below w.heap.size w V → Calls Tryz.prog 25 #[sgv kW3, .string ⟨#[51, 47, 50]⟩] V fun e w' => e = .returned (.bool true) ∧ Below V.heap.size V w' from fun V b => by have := lwritten_any kW3 kW3_one V (T.later b); rwa [kW3_word] at this)
  have W4 := Lib.hid (show ∀ V, Below w.heap.size w V → Calls Tryz.prog 25 #[sgv kW4, .string ⟨#[64, 67, 51]⟩] V fun e w' => e = .returned (.bool true) ∧ Below V.heap.size V w' from fun V b => by have := lwritten_any kW4 kW4_one V (T.later b); rwa [kW4_word] at this)
  have W5 := Lib.hid (show ∀ V, Below w.heap.size w V → Calls Tryz.prog 25 #[sgv kW5, .string ⟨#[93, 50]⟩] V fun e w' => e = .returned (.bool true) ∧ Below V.heap.size V w' from fun V b => by have := lwritten_any kW5 kW5_one V (T.later b); rwa [kW5_word] at this)
  have W6 := Lib.hid (show ∀ V, Below w.heap.size w V → Calls Tryz.prog 25 #[sgv kW6, .string ⟨#[116, 117, 114, 110]⟩] V fun e w' => e = .returned (.bool true) ∧ Below V.heap.size V w' from fun V b => by have := lwritten_any kW6 kW6_one V (T.later b); rwa [kW6_word] at this)
  have E0 := Lib.hid (show ∀ V, Below w.heap.size w V → Calls Tryz.prog 26 #[.string ⟨#[77, 49, 51]⟩, .int .i64 2] V fun e w' => e = .returned (.bool true) ∧ Below V.heap.size V w' from fun V b => lrefused_any [77, 49, 51] (by decide) 2 kE0 V (T.later b))
  have E1 := Lib.hid (show ∀ V, Below w.heap.size w V → Calls Tryz.prog 26 #[.string ⟨#[77, 48, 52]⟩, .int .i64 3] V fun e w' => e = .returned (.bool true) ∧ Below V.heap.size V w' from fun V b => lrefused_any [77, 48, 52] (by decide) 3 kE1 V (T.later b))
  have E2 := Lib.hid (show ∀ V, Below w.heap.size w V → Calls Tryz.prog 26 #[.string ⟨#[115, 52]⟩, .int .i64 3] V fun e w' => e = .returned (.bool true) ∧ Below V.heap.size V w' from fun V b => lrefused_any [115, 52] (by decide) 3 kE2 V (T.later b))
  have E3 := Lib.hid (show ∀ V, Below w.heap.size w V → Calls Tryz.prog 26 #[.string ⟨#[116, 52, 33, 126]⟩, .int .i64 3] V fun e w' => e = .returned (.bool true) ∧ Below V.heap.size V w' from fun V b => lrefused_any [116, 52, 33, 126] (by decide) 3 kE3 V (T.later b))
  have E4 := Lib.hid (show ∀ V, Below w.heap.size w V → Calls Tryz.prog 26 #[.string ⟨#[116, 52, 126, 33]⟩, .int .i64 3] V fun e w' => e = .returned (.bool true) ∧ Below V.heap.size V w' from fun V b => lrefused_any [116, 52, 126, 33] (by decide) 3 kE4 V (T.later b))
  have E5 := Lib.hid (show ∀ V, Below w.heap.size w V → Calls Tryz.prog 26 #[.string ⟨#[48, 47, 50]⟩, .int .i64 2] V fun e w' => e = .returned (.bool true) ∧ Below V.heap.size V w' from fun V b => lrefused_any [48, 47, 50] (by decide) 2 kE5 V (T.later b))
  have E6 := Lib.hid (show ∀ V, Below w.heap.size w V → Calls Tryz.prog 26 #[.string ⟨#[91, 50]⟩, .int .i64 3] V fun e w' => e = .returned (.bool true) ∧ Below V.heap.size V w' from fun V b => lrefused_any [91, 50] (by decide) 3 kE6 V (T.later b))
  have E7 := Lib.hid (show ∀ V, Below w.heap.size w V → Calls Tryz.prog 26 #[.string ⟨#[93, 49]⟩, .int .i64 2] V fun e w' => e = .returned (.bool true) ∧ Below V.heap.size V w' from fun V b => lrefused_any [93, 49] (by decide) 2 kE7 V (T.later b))
  have E8 := Lib.hid (show ∀ V, Below w.heap.size w V → Calls Tryz.prog 26 #[.string ⟨#[40, 50, 50, 79, 41]⟩, .int .i64 3] V fun e w' => e = .returned (.bool true) ∧ Below V.heap.size V w' from fun V b => lrefused_any [40, 50, 50, 79, 41] (by decide) 3 kE8 V (T.later b))
  have E9 := Lib.hid (show ∀ V, Below w.heap.size w V → Calls Tryz.prog 26 #[.string ⟨#[64, 68, 51]⟩, .int .i64 3] V fun e w' => e = .returned (.bool true) ∧ Below V.heap.size V w' from fun V b => lrefused_any [64, 68, 51] (by decide) 3 kE9 V (T.later b))
  have F0 := Lib.hid (show ∀ V, Below w.heap.size w V → Calls Tryz.prog 27 #[.string ⟨#[]⟩, .int .i64 9, .int .i64 0] V fun e w' => e = .returned (.bool true) ∧ Below V.heap.size V w' from fun V b => lfault_any ⟨#[]⟩ (by decide) 9 0 kF0 V (T.later b))
  have F1 := Lib.hid (show ∀ V, Below w.heap.size w V → Calls Tryz.prog 27 #[.string ⟨#[112, 97, 114, 116, 32, 97, 10, 83, 52, 10]⟩, .int .i64 9, .int .i64 10] V fun e w' => e = .returned (.bool true) ∧ Below V.heap.size V w' from fun V b => lfault_any ⟨#[112, 97, 114, 116, 32, 97, 10, 83, 52, 10]⟩ (by decide) 9 10 kF1 V (T.later b))
  have F2 := Lib.hid (show ∀ V, Below w.heap.size w V → Calls Tryz.prog 27 #[.string ⟨#[112, 97, 114, 116, 32, 65, 10, 101, 110, 100, 10]⟩, .int .i64 7, .int .i64 5] V fun e w' => e = .returned (.bool true) ∧ Below V.heap.size V w' from fun V b => lfault_any ⟨#[112, 97, 114, 116, 32, 65, 10, 101, 110, 100, 10]⟩ (by decide) 7 5 kF2 V (T.later b))
  have F3 := Lib.hid (show ∀ V, Below w.heap.size w V → Calls Tryz.prog 27 #[.string ⟨#[112, 97, 114, 116, 32, 97, 10, 116, 52, 32, 83, 51, 10, 101, 110, 100, 10]⟩, .int .i64 3, .int .i64 7] V fun e w' => e = .returned (.bool true) ∧ Below V.heap.size V w' from fun V b => lfault_any ⟨#[112, 97, 114, 116, 32, 97, 10, 116, 52, 32, 83, 51, 10, 101, 110, 100, 10]⟩ (by decide) 3 7 kF3 V (T.later b))
  have F4 := Lib.hid (show ∀ V, Below w.heap.size w V → Calls Tryz.prog 27 #[.string ⟨#[112, 97, 114, 116, 32, 97, 10, 101, 110, 100, 10, 32, 101, 110, 100, 10]⟩, .int .i64 3, .int .i64 12] V fun e w' => e = .returned (.bool true) ∧ Below V.heap.size V w' from fun V b => lfault_any ⟨#[112, 97, 114, 116, 32, 97, 10, 101, 110, 100, 10, 32, 101, 110, 100, 10]⟩ (by decide) 3 12 kF4 V (T.later b))
  have AW := Lib.hid (show ∀ V, Below w.heap.size w V → Calls Tryz.prog 10 #[] V fun e w' => e = .returned (.bool true) ∧ Below V.heap.size V w' from fun V b => awake_any V (T.later b))
  have B := Lib.hid (w_refl w)
  clear T
  go_enter Tryz.func7, Tryz.ntmps7
  go_wp2_with (first | (refine wl_buildS (d := 4) _ kW0 (by kernel_rfl) ?_) | fail)
  refine (W0.out _ B.out).mono ?_
  rintro e w1 ⟨rfl, hb⟩
  replace B := Lib.hid (w_below B.out hb)
  clear hb W0
  go_wp2_with (first | (refine wl_buildG (d := 7) _ kW1 (by kernel_rfl) (by kernel_rfl) ?_) | fail)
  refine (W1.out _ B.out).mono ?_
  rintro e w1 ⟨rfl, hb⟩
  replace B := Lib.hid (w_below B.out hb)
  clear hb W1
  go_wp2_with (first | (refine wl_buildG (d := 12) _ kW2 (by kernel_rfl) (by kernel_rfl) ?_) | fail)
  refine (W2.out _ B.out).mono ?_
  rintro e w1 ⟨rfl, hb⟩
  replace B := Lib.hid (w_below B.out hb)
  clear hb W2
  go_wp2_with (first | (refine wl_buildG (d := 16) _ kW3 (by kernel_rfl) (by kernel_rfl) ?_) | fail)
  refine (W3.out _ B.out).mono ?_
  rintro e w1 ⟨rfl, hb⟩
  replace B := Lib.hid (w_below B.out hb)
  clear hb W3
  go_wp2_with (first | (refine wl_buildG (d := 21) _ kW4 (by kernel_rfl) (by kernel_rfl) ?_) | fail)
  refine (W4.out _ B.out).mono ?_
  rintro e w1 ⟨rfl, hb⟩
  replace B := Lib.hid (w_below B.out hb)
  clear hb W4
  go_wp2_with (first | (refine wl_buildG (d := 25) _ kW5 (by kernel_rfl) (by kernel_rfl) ?_) | fail)
  refine (W5.out _ B.out).mono ?_
  rintro e w1 ⟨rfl, hb⟩
  replace B := Lib.hid (w_below B.out hb)
  clear hb W5
  go_wp2_with (first | (refine wl_buildG (d := 29) _ kW6 (by kernel_rfl) (by kernel_rfl) ?_) | fail)
  refine (W6.out _ B.out).mono ?_
  rintro e w1 ⟨rfl, hb⟩
  replace B := Lib.hid (w_below B.out hb)
  clear hb W6
  go_wp2_with fail
  refine (E0.out _ B.out).mono ?_
  rintro e w1 ⟨rfl, hb⟩
  replace B := Lib.hid (w_below B.out hb)
  clear hb E0
  go_wp2_with fail
  refine (E1.out _ B.out).mono ?_
  rintro e w1 ⟨rfl, hb⟩
  replace B := Lib.hid (w_below B.out hb)
  clear hb E1
  go_wp2_with fail
  refine (E2.out _ B.out).mono ?_
  rintro e w1 ⟨rfl, hb⟩
  replace B := Lib.hid (w_below B.out hb)
  clear hb E2
  go_wp2_with fail
  refine (E3.out _ B.out).mono ?_
  rintro e w1 ⟨rfl, hb⟩
  replace B := Lib.hid (w_below B.out hb)
  clear hb E3
  go_wp2_with fail
  refine (E4.out _ B.out).mono ?_
  rintro e w1 ⟨rfl, hb⟩
  replace B := Lib.hid (w_below B.out hb)
  clear hb E4
  go_wp2_with fail
  refine (E5.out _ B.out).mono ?_
  rintro e w1 ⟨rfl, hb⟩
  replace B := Lib.hid (w_below B.out hb)
  clear hb E5
  go_wp2_with fail
  refine (E6.out _ B.out).mono ?_
  rintro e w1 ⟨rfl, hb⟩
  replace B := Lib.hid (w_below B.out hb)
  clear hb E6
  go_wp2_with fail
  refine (E7.out _ B.out).mono ?_
  rintro e w1 ⟨rfl, hb⟩
  replace B := Lib.hid (w_below B.out hb)
  clear hb E7
  go_wp2_with fail
  refine (E8.out _ B.out).mono ?_
  rintro e w1 ⟨rfl, hb⟩
  replace B := Lib.hid (w_below B.out hb)
  clear hb E8
  go_wp2_with fail
  refine (E9.out _ B.out).mono ?_
  rintro e w1 ⟨rfl, hb⟩
  replace B := Lib.hid (w_below B.out hb)
  clear hb E9
  go_wp2_with fail
  refine (F0.out _ B.out).mono ?_
  rintro e w1 ⟨rfl, hb⟩
  replace B := Lib.hid (w_below B.out hb)
  clear hb F0
  go_wp2_with fail
  refine (F1.out _ B.out).mono ?_
  rintro e w1 ⟨rfl, hb⟩
  replace B := Lib.hid (w_below B.out hb)
  clear hb F1
  go_wp2_with fail
  refine (F2.out _ B.out).mono ?_
  rintro e w1 ⟨rfl, hb⟩
  replace B := Lib.hid (w_below B.out hb)
  clear hb F2
  go_wp2_with fail
  refine (F3.out _ B.out).mono ?_
  rintro e w1 ⟨rfl, hb⟩
  replace B := Lib.hid (w_below B.out hb)
  clear hb F3
  go_wp2_with fail
  refine (F4.out _ B.out).mono ?_
  rintro e w1 ⟨rfl, hb⟩
  replace B := Lib.hid (w_below B.out hb)
  clear hb F4
  go_wp2_with fail
  refine (AW.out _ B.out).mono ?_
  rintro e w1 ⟨rfl, hb⟩
  replace B := Lib.hid (w_below B.out hb)
  clear hb AW
  go_wp2_with fail
  go_ret
  exact ⟨rfl, B.out⟩
end Go.Proofs.YtdmedealdhadcaaGreatDoor

namespace Go.Proofs.YtdmedealdhadcaaGreatDoor
open Go.RowKit
set_option maxHeartbeats 4000000 in
theorem kparts_any (q : Q4) (v : Int) (w : World) : Calls Tryz.prog 154 #[mv q, .int .i64 v] w fun e w' => (∃ r, e = .returned (.int .i64 r)) ∧ Below w.heap.size w w' := by
  have K := Lib.hid (Cell4.made w q 23)
  have B := Lib.hid (w_alloc (w_refl w) (mO q))
  obtain ⟨a, b, c, d⟩ := q
  obtain ⟨_, c0, c1, c2, c3, _, _, _, _⟩ := K.out
  clear K
  by_cases h1 : v = 1
  · subst h1
    go_enter Tryz.func154, Tryz.ntmps154
    go_wp2_with fail
    go_ret
    exact ⟨⟨_, rfl⟩, B.out⟩
  by_cases h2 : v = 2
  · subst h2
    go_enter Tryz.func154, Tryz.ntmps154
    go_wp2_with fail
    go_ret
    exact ⟨⟨_, rfl⟩, B.out⟩
  by_cases h3 : v = 3
  · subst h3
    go_enter Tryz.func154, Tryz.ntmps154
    go_wp2_with fail
    go_ret
    exact ⟨⟨_, rfl⟩, B.out⟩
  by_cases h4 : v = 4
  · subst h4
    go_enter Tryz.func154, Tryz.ntmps154
    go_wp2_with fail
    go_ret
    exact ⟨⟨_, rfl⟩, B.out⟩
  · go_enter Tryz.func154, Tryz.ntmps154
    go_wp2_with fail
    go_ret
    exact ⟨⟨_, rfl⟩, B.out⟩
def nP (v p a : Int) (c : Bool) : Sg := ⟨1, v, p, a, c, 0, false, false, 0, 0, 0, 0, false, 0, 0, 0, 0⟩
def mP (q : Q4) (k : Bool) : Sg := ⟨5, 0, 0, 0, false, 0, false, false, q.1, q.2.1, q.2.2.1, q.2.2.2, k, 0, 0, 0, 0⟩
def pP (n d : Int) : Sg := ⟨6, 0, 0, 0, false, 0, false, false, 0, 0, 0, 0, false, n, d, 0, 0⟩
def cP (a b : Int) : Sg := ⟨7, 0, 0, 0, false, 0, false, false, 0, 0, 0, 0, false, 0, 0, a, b⟩
def reP (v : Int) : Sg := ⟨2, v, 0, 0, false, 0, false, false, 0, 0, 0, 0, false, 0, 0, 0, 0⟩
def doP : Sg := ⟨3, 0, 0, 0, false, 0, false, false, 0, 0, 0, 0, false, 0, 0, 0, 0⟩
def bP (k : Int) : Sg := ⟨k, 0, 0, 0, false, 0, false, false, 0, 0, 0, 0, false, 0, 0, 0, 0⟩
def xP (n : Int) : Sg := ⟨10, 0, 0, 0, false, 0, false, false, 0, 0, 0, 0, false, n, 0, 0, 0⟩
theorem one_of {s : Sg} (k : kOk s.kind) (u : s = useS s) (m : s.kind = 5 → okM (mq s)) (r : rngB s = true) (o : (s.obl && s.last) = false) : oneE s = 0 := by
  unfold oneE
  rw [if_neg (fun h => h k), if_neg (by rw [(sgE_iff _ _).2 u]; decide), if_neg (fun h => h.2 (m h.1)), if_neg (by rw [r]; decide), if_neg (by rw [o]; decide)]
theorem one_nP {v p a : Int} (c : Bool) (hv : 1 ≤ v ∧ v ≤ 8) (hp : -4 ≤ p ∧ p ≤ 12) (ha : -1 ≤ a ∧ a ≤ 2) : oneE (nP v p a c) = 0 :=
  one_of (show kOk 1 by decide) (by cases c <;> rfl) (fun h => by cases h) (by
    show (inB v 1 8 && (inB p (-4) 12 && inB a (-1) 2)) = true
    rw [inB_iff.2 hv, inB_iff.2 hp, inB_iff.2 ha]; rfl) rfl
theorem one_reP {v : Int} (hv : 1 ≤ v ∧ v ≤ 8) : oneE (reP v) = 0 :=
  one_of (show kOk 2 by decide) rfl (fun h => by cases h) (by show inB v 1 8 = true; exact inB_iff.2 hv) rfl
theorem one_mP {q : Q4} (k : Bool) (h : okM q) : oneE (mP q k) = 0 :=
  one_of (show kOk 5 by decide) (by cases k <;> rfl) (fun _ => h) rfl rfl
theorem one_pP {n d : Int} (hn : 1 ≤ n ∧ n ≤ 100) (hd : 1 ≤ d ∧ d ≤ 100) : oneE (pP n d) = 0 :=
  one_of (show kOk 6 by decide) rfl (fun h => by cases h) (by
    show (inB n 1 100 && inB d 1 100) = true
    rw [inB_iff.2 hn, inB_iff.2 hd]; rfl) rfl
theorem one_cP {a b : Int} (ha : stepOk a) (hb : 1 ≤ b ∧ b ≤ 5) : oneE (cP a b) = 0 :=
  one_of (show kOk 7 by decide) rfl (fun h => by cases h) (by
    show (chkC (a, b) == 0) = true
    rw [chkC_ok ⟨ha, hb⟩]; rfl) rfl
theorem one_xP {n : Int} (hn : 2 ≤ n ∧ n ≤ 4) : oneE (xP n) = 0 :=
  one_of (show kOk 10 by decide) rfl (fun h => by cases h) (by show inB n 2 4 = true; exact inB_iff.2 hn) rfl
theorem one_bare : oneE (bP 9) = 0 ∧ oneE (bP 11) = 0 ∧ oneE (bP 12) = 0 ∧ oneE doP = 0 := by decide +kernel
theorem tq {n : Int} (h : 0 ≤ n) (h1 : n ≤ 1048576) (k : Int) (hk : 1 ≤ k) : IntKind.i64.wrap (n.tdiv k) = n / k := by
  rw [Int.tdiv_eq_ediv_of_nonneg h]
  have h2 : 0 ≤ n / k := Int.ediv_nonneg h (by omega)
  have h3 : n / k ≤ n := Int.ediv_le_self _ h
  exact IntWalk.i64_in _ (by omega)
theorem ofN_okM {n : Int} (h : 0 ≤ n ∧ n ≤ 15) : okM (ofN n) := by
  unfold okM ofN two
  simp only
  omega
set_option maxHeartbeats 4000000 in
theorem kmens_any (n : Int) (hn : -9223372036854775808 ≤ n ∧ n ≤ 9223372036854775807) (w : World) : Calls Tryz.prog 29 #[.int .i64 n] w fun e w' => (∃ q, okM q ∧ e = .returned (mv q)) ∧ Below w.heap.size w w' := by
  have M := Lib.hid (fun W => mod_any n 16 W hn.1 hn.2 (by decide) (by decide))
  obtain ⟨k, hk⟩ : ∃ k, n % 16 = k := ⟨_, rfl⟩
  rw [hk] at M
  have h1 : 0 ≤ k ∧ k ≤ 15 := by omega
  have hq := Lib.hid (ofN_okM h1)
  obtain ⟨h1, h2⟩ := h1
  have z1 : 0 ≤ k / 4 ∧ k / 4 ≤ 3 := by omega
  have z2 : 0 ≤ k / 2 ∧ k / 2 ≤ 7 := by omega
  have z3 : 0 ≤ k / 8 ∧ k / 8 ≤ 1 := by omega
  clear hk hn
  go_enter Tryz.func29, Tryz.ntmps29
  go_wp2_with fail
  refine (M.out _).mono ?_
  rintro e w1 ⟨rfl, rfl⟩
  clear M
  go_wp2_with fail
  refine bodyPost_ret (v := mv (ofN k)) (by simp [results, Tryz.results29, go_sem, ofN]) rfl ⟨⟨_, hq.out, rfl⟩, ?_⟩
  exact w_alloc (w_refl w) _
theorem ats_any (p : Option Addr) (cap : Nat) (zs : List Int) (i : Nat) (w : World) (h : SlP w 1 p zs.length cap (ints zs)) (hi : i ≤ 1000000) :
    Calls Tryz.prog 32 #[.slice p zs.length cap, .int .i64 i] w fun e w' => e = .returned (.int .i64 (zs.getD i 0)) ∧ w' = w := by
  have f1 := h.fit
  have f2 := h.max
  by_cases hlt : i < zs.length
  · obtain ⟨b, off, rfl, -, hc⟩ := h.at_ (by omega)
    have c0 : w.cell? ⟨b, off + i, none⟩ = some (.int .i64 (zs.getD i 0)) := hc i _ (by simp [List.getElem?_map, List.getElem?_eq_getElem hlt, List.getD])
    have hlt' : (i : Int) < zs.length := by omega
    have hi0 : (0 : Int) ≤ i := by omega
    obtain ⟨z, hz⟩ : ∃ z, zs.getD i 0 = z := ⟨_, rfl⟩
    rw [hz] at c0 ⊢
    clear h hz hc
    go_enter Tryz.func32, Tryz.ntmps32
    go_wp2_with fail
    go_ret
    exact ⟨rfl, rfl⟩
  · have e : zs.getD i 0 = 0 := by rw [List.getD, List.getElem?_eq_none (by omega)]; rfl
    have hlt' : ¬ (i : Int) < zs.length := by omega
    have hi0 : ¬ (i : Int) < 0 := by omega
    rw [e]
    clear h e hlt
    go_enter Tryz.func32, Tryz.ntmps32
    go_wp2_with fail
    go_ret
    exact ⟨rfl, rfl⟩
theorem getD_bdsL {zs : List Int} (h : ∀ z ∈ zs, -9223372036854775808 ≤ z ∧ z ≤ 9223372036854775807) (i : Nat) : -9223372036854775808 ≤ zs.getD i 0 ∧ zs.getD i 0 ≤ 9223372036854775807 := by
  by_cases hi : i < zs.length
  · have e : zs.getD i 0 = zs[i] := by simp [List.getD, List.getElem?_eq_getElem hi]
    rw [e]; exact h _ (List.getElem_mem hi)
  · have e : zs.getD i 0 = 0 := by rw [List.getD, List.getElem?_eq_none (by omega)]; rfl
    rw [e]; omega
/-- A valid sign that belongs to no ligature. -/
def PlS (s : Sg) : Prop := oneE s = 0 ∧ (s.kind == 4) = false
theorem pl_chk {l : List Sg} (h : ∀ s ∈ l, PlS s) (hn : l.length ≤ 400) : chkV true l = (0, 0) :=
  chk_ok (by omega) fun k hk => by
    have hm : l.getD k zS ∈ l := by rw [List.getD_eq_getElem?_getD, List.getElem?_eq_getElem hk]; exact List.getElem_mem hk
    exact sgn_ok (h _ hm).1 (jn_free (h _ hm).2)
theorem pl_add {l : List Sg} (h : ∀ s ∈ l, PlS s) {s : Sg} (k : PlS s) : ∀ x ∈ l ++ [s], PlS x := fun x hx => by
  rcases List.mem_append.1 hx with hx | hx
  · exact h x hx
  · rw [List.mem_singleton.1 hx]; exact k
end Go.Proofs.YtdmedealdhadcaaGreatDoor
