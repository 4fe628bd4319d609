/- SignParts: which parts are valid, their notes and rests, ligatures and counts. -/
import Derived.Test.YtcomjcflllfobaaDoorSAwake
import Derived.Test.YtcomjcflllfobaaDoorSSame
import Derived.Test.YtcomjcflllfobaaDoorSNum
import Derived.Test.YtcomjcflllfobaaDoorSLig
namespace Go.Proofs.YtcomjcflllfobaaDoor
open Go.RowKit

/-- A copy of a part. -/
theorem opart_any (nm : ByteArray) (l : List Sg) (hl : l.length ≤ 1000) (p : Option Addr) (cap : Nat) (w : World) (h : SlP w 17 p l.length cap (flatG l)) :
    Calls Tryd.prog 18 #[ptv nm p l.length cap] w fun e w' => ∃ q c, e = .returned (ptv nm q l.length c) ∧ Below w.heap.size w w' ∧ SlP w' 17 q l.length c (flatG l) := by
  have HP := Lib.hid ((pt_new w nm p l.length cap).al (ptO (⟨#[]⟩ : ByteArray) none 0 0))
  have HZ := Lib.hid (pt_new (w.alloc (ptO nm p l.length cap)) (⟨#[]⟩ : ByteArray) none 0 0)
  rw [World.size_alloc] at HZ
  have B := Lib.hid (w_alloc (w_alloc (w_refl w) (ptO nm p l.length cap)) (ptO (⟨#[]⟩ : ByteArray) none 0 0))
  have OS := Lib.hid (fun W h => owns_any p cap l hl W h)
  have HL := Lib.hid (h.later B.out)
  clear h
  go_enter Tryd.func18, Tryd.ntmps18
  go_wp2_with fail
  generalize (w.alloc (ptO nm p l.length cap)).alloc (ptO (⟨#[]⟩ : ByteArray) none 0 0) = y at *
  have k0 := HP.out.cell (j := 0) rfl
  have k1 := HP.out.cell (j := 1) rfl
  have y0 := HZ.out.cell (j := 0) rfl
  have y1 := HZ.out.cell (j := 1) rfl
  clear y0 y1
  refine wp_region_held_drew (S := (fun W => W.cell? ⟨w.heap.size, 0, none⟩ = some (.string nm) ∧ W.cell? ⟨w.heap.size, 1, none⟩ = some (.slice p l.length cap))) (by kernel_rfl) ?_ (fun hHeld => ?_)
  · exact ⟨k0, k1⟩
  clear hHeld k0 k1
  have FX := Lib.hid (show HoldsB (World.drew y) w.heap.size 40 #[.string nm, .slice p l.length cap] ∧ HoldsB (World.drew y) (w.heap.size + 1) 40 #[.string (⟨#[]⟩ : ByteArray), .slice none 0 0] ∧ Below w.heap.size w (World.drew y) ∧ SlP (World.drew y) 17 p l.length cap (flatG l) from ⟨HP.out.later (w_refl _).drew, HZ.out.later (w_refl _).drew, B.out.drew, HL.out.later (w_refl _).drew⟩)
  clear HP HZ B HL
  generalize World.drew y = z0 at *
  refine wpAnyH_take (i := 0) (v := .pointer (some ⟨w.heap.size, 0, none⟩)) rfl (by kernel_rfl) (by kernel_rfl) (by kernel_rfl) (fun _ _ _ h => h) (Or.inl ⟨by kernel_rfl, fun _ _ => by go_simp⟩) ⟨FX.out.1.cell (j := 0) rfl, FX.out.1.cell (j := 1) rfl⟩ ?_
  refine wpAnyH_take (i := 1) (v := .string nm) rfl (by kernel_rfl) (by kernel_rfl) (by kernel_rfl) (fun _ _ _ h => h) (Or.inl ⟨by kernel_rfl, fun W hW => by (obtain ⟨c0, c1⟩ := hW; go_simp)⟩) ⟨FX.out.1.cell (j := 0) rfl, FX.out.1.cell (j := 1) rfl⟩ ?_
  refine wpAnyH_take (i := 2) (v := .pointer (some ⟨w.heap.size, 1, none⟩)) rfl (by kernel_rfl) (by kernel_rfl) (by kernel_rfl) (fun _ _ _ h => h) (Or.inl ⟨by kernel_rfl, fun _ _ => by go_simp⟩) ⟨FX.out.1.cell (j := 0) rfl, FX.out.1.cell (j := 1) rfl⟩ ?_
  refine wpAnyH_take (i := 3) (v := .slice p l.length cap) rfl (by kernel_rfl) (by kernel_rfl) (by kernel_rfl) (fun _ _ _ h => h) (Or.inl ⟨by kernel_rfl, fun W hW => by (obtain ⟨c0, c1⟩ := hW; go_simp)⟩) ⟨FX.out.1.cell (j := 0) rfl, FX.out.1.cell (j := 1) rfl⟩ ?_
  simp only [Act.put, List.getElem_toArray, List.getElem_cons_succ, List.getElem_cons_zero, List.setIfInBounds_toArray, List.set_cons_succ, List.set_cons_zero]
  refine wpAnyH_ready (rs := [4]) (by kernel_rfl) (by simp) ?_
  refine AllReadyH.cons rfl (fun K hK => ?_) AllReadyH.nil
  rw [if_pos (by kernel_rfl)]
  go_simp
  refine (OS.out _ FX.out.2.2.2).mono ?_
  rintro e w1 ⟨v, rfl, ho⟩
  obtain ⟨q, c, rfl, hsl⟩ := SlP.of_own ho.row (flatG_len l) (flatG_one l)
  replace FX := Lib.hid (show HoldsB w1 w.heap.size 40 #[.string nm, .slice p l.length cap] ∧ HoldsB w1 (w.heap.size + 1) 40 #[.string (⟨#[]⟩ : ByteArray), .slice none 0 0] ∧ Below w.heap.size w w1 ∧ (w1.ownsRow z0.heap.size 27 17 (.slice q l.length c) l.length (flatG l)) from ⟨FX.out.1.later ho.bel, FX.out.2.1.later ho.bel, w_below FX.out.2.2.1 ho.bel, ho.row⟩)
  clear ho hsl OS
  go_simp
  refine hK.out _ _ ⟨FX.out.1.cell (j := 0) rfl, FX.out.1.cell (j := 1) rfl⟩ (fun _ => ?_)
  clear hK K
  refine wpAnyH_take (i := 5) (v := .agg #[.string nm, .slice q l.length c]) rfl (by kernel_rfl) (by kernel_rfl) (by kernel_rfl) (fun _ _ _ h => h) (Or.inl ⟨by kernel_rfl, fun _ _ => by go_simp⟩) ⟨FX.out.1.cell (j := 0) rfl, FX.out.1.cell (j := 1) rfl⟩ ?_
  have x0 := FX.out.2.1.cell (j := 0) rfl
  have x1 := FX.out.2.1.cell (j := 1) rfl
  have ff := FX.out.2.1.frozen
  have nb : w.heap.size ≠ w.heap.size + 1 := by omega
  refine wpAnyH_ready (rs := [6]) (by kernel_rfl) (by simp) ?_
  refine AllReadyH.cons rfl (fun K hK => ?_) AllReadyH.nil
  rw [if_pos (by kernel_rfl)]
  go_simp
  have GX := Lib.hid (show HoldsB ((w1.setCell ⟨w.heap.size + 1, 0, none⟩ (.string nm)).setCell ⟨w.heap.size + 1, 1, none⟩ (.slice q l.length c)) w.heap.size 40 #[.string nm, .slice p l.length cap] ∧ HoldsB ((w1.setCell ⟨w.heap.size + 1, 0, none⟩ (.string nm)).setCell ⟨w.heap.size + 1, 1, none⟩ (.slice q l.length c)) (w.heap.size + 1) 40 #[.string nm, .slice q l.length c] ∧ Below w.heap.size w ((w1.setCell ⟨w.heap.size + 1, 0, none⟩ (.string nm)).setCell ⟨w.heap.size + 1, 1, none⟩ (.slice q l.length c)) ∧ ((w1.setCell ⟨w.heap.size + 1, 0, none⟩ (.string nm)).setCell ⟨w.heap.size + 1, 1, none⟩ (.slice q l.length c)).ownsRow z0.heap.size 27 17 (.slice q l.length c) l.length (flatG l) from
    ⟨(FX.out.1.other nb 0 (.string nm)).other nb 1 (.slice q l.length c), (FX.out.2.1.set 0 (.string nm)).set 1 (.slice q l.length c), w_put (b := w.heap.size + 1) (w_put (b := w.heap.size + 1) FX.out.2.2.1 (by omega) _ _) (by omega) _ _,
      own_put (own_put FX.out.2.2.2 (own_ne FX.out.2.2.2 FX.out.2.1 (by decide)) _ _) (own_ne (own_put FX.out.2.2.2 (own_ne FX.out.2.2.2 FX.out.2.1 (by decide)) _ _) (FX.out.2.1.set 0 (.string nm)) (by decide)) _ _⟩)
  refine hK.out _ _ ⟨GX.out.1.cell (j := 0) rfl, GX.out.1.cell (j := 1) rfl⟩ (fun _ => ?_)
  clear hK K FX x0 x1 ff
  generalize (w1.setCell ⟨w.heap.size + 1, 0, none⟩ (.string nm)).setCell ⟨w.heap.size + 1, 1, none⟩ (.slice q l.length c) = z2 at *
  refine wpAnyH_done (by kernel_rfl) ?_ _
  have d0 := GX.out.2.1.cell (j := 0) rfl
  have d1 := GX.out.2.1.cell (j := 1) rfl
  obtain ⟨q', c', e9, hsl⟩ := SlP.of_own GX.out.2.2.2 (flatG_len l) (flatG_one l)
  injection e9 with e9 _ e10
  subst e9 e10
  have HF := Lib.hid (show Below w.heap.size w z2 ∧ SlP z2 17 q l.length c (flatG l) from ⟨GX.out.2.2.1, hsl⟩)
  clear GX hsl
  go_wp2_with fail
  refine bodyPost_ret (v := ptv nm q l.length c) (by simp [results, Tryd.results18, go_sem, d0, d1]) rfl ?_
  exact ⟨q, c, rfl, HF.out.1, HF.out.2⟩

end Go.Proofs.YtcomjcflllfobaaDoor

/- SignParts: which parts are valid, their notes and rests, ligatures and counts. -/
namespace Go.Proofs.YtcomjcflllfobaaDoor
open Go.RowKit

/-- What stands in memory: a part and its copy. -/
structure PtX (w y : World) (b3 : Nat) (nm : ByteArray) (p : Option Addr) (cap : Nat) (q : Option Addr) (c : Nat) (l : List Sg) : Prop where
  h1 : HoldsB y w.heap.size 40 #[.string nm, .slice p l.length cap]
  h2 : HoldsB y b3 40 #[.string nm, .slice q l.length c]
  s1 : SlP y 17 p l.length cap (flatG l)
  s2 : SlP y 17 q l.length c (flatG l)
  b : Below w.heap.size w y
theorem PtX.later {w y z : World} {b3 : Nat} {nm : ByteArray} {p : Option Addr} {cap : Nat} {q : Option Addr} {c : Nat} {l : List Sg} (h : PtX w y b3 nm p cap q c l) (k : Below y.heap.size y z) : PtX w z b3 nm p cap q c l :=
  ⟨h.h1.later k, h.h2.later k, h.s1.later k, h.s2.later k, w_below h.b k⟩
theorem sam_refl2 (a : ByteArray) (l : List Sg) : samP a a l l = true := sam_refl a l

set_option maxRecDepth 100000 in
set_option maxHeartbeats 16000000 in
theorem lparts_any (nm : ByteArray) (hnm : nm.size ≤ maxLen) (l : List Sg) (p : Option Addr) (cap : Nat) (w : World) (h : SlP w 17 p l.length cap (flatG l)) (T : TabS w) :
    Calls Tryd.prog 4 #[ptv nm p l.length cap] w fun e w' => e = .returned (.bool true) ∧ Below w.heap.size w w' := by
  have f1 := h.fit
  have m1 := h.max
  have HP := Lib.hid (pt_new w nm p l.length cap)
  have B := Lib.hid (w_alloc (w_refl w) (ptO nm p l.length cap))
  have HL := Lib.hid (h.later B.out)
  have LT := Lib.hid (fun W => light_any nm p l.length cap 80 W)
  have AW := Lib.hid (show ∀ W, Below w.heap.size w W → Calls Tryd.prog 16 #[] W fun e w' => e = .returned (.bool true) ∧ Below W.heap.size W w' from fun W b => awake_any W (T.later b))
  have TT := Lib.hid (show ∀ W, Below w.heap.size w W → TabS W from fun W b => T.later b)
  have LE := Lib.hid (fun h => lit_le (nm := nm) (n := l.length) h)
  clear h T
  generalize litB nm l.length 80 = X at *
  cases X with
  | false =>
    clear LE TT HL
    go_enter Tryd.func4, Tryd.ntmps4
    go_upto_region 1 with (fail)
    generalize w.alloc (ptO nm p l.length cap) = y at *
    have k0 := HP.out.cell (j := 0) rfl
    have k1 := HP.out.cell (j := 1) rfl
    go_wp2_with fail
    refine (LT.out _).mono ?_
    rintro e w1 ⟨rfl, hb⟩
    replace B := Lib.hid (w_below B.out hb)
    clear hb LT k0 k1
    go_wp2_with fail
    refine (AW.out _ B.out).mono ?_
    rintro e w1 ⟨rfl, hb⟩
    replace B := Lib.hid (w_below B.out hb)
    clear hb AW
    go_wp2_with fail
    go_ret
    exact ⟨rfl, B.out⟩
  | true =>
    have hle := LE.out rfl
    have OP := Lib.hid (fun W h => opart_any nm l (by omega) p cap W h)
    have PC := Lib.hid (fun q c W h (b : Below w.heap.size w W) => pchk_any nm hnm l q c W h (TT.out W b))
    have RC := Lib.hid (fun W h => rchk_any nm hnm l p cap W h)
    have PT := Lib.hid (fun q c W h (b : Below w.heap.size w W) => ptim_any nm hnm l q c W h (TT.out W b))
    have RT := Lib.hid (fun W h => rtim_any nm hnm l p cap W h)
    have PL := Lib.hid (fun q c W h (b : Below w.heap.size w W) => plig_any nm hnm l q c W h (TT.out W b))
    have RL := Lib.hid (fun W h => rlig_any nm hnm l p cap W h)
    have PN := Lib.hid (fun q c W h (b : Below w.heap.size w W) => pcnt_any nm hnm l q c W h (TT.out W b))
    have RN := Lib.hid (fun W h => rcnt_any nm hnm l p cap W h)
    have SP := Lib.hid (fun q c W h1 h2 => rsam_any nm nm p q cap c l l W h1 h2)
    rw [sam_refl] at SP
    have SI := Lib.hid (fun p q cp cq zs W h1 h2 => samei_any p q cp cq zs W h1 h2)
    clear LE TT hnm
    generalize timR (nameV nm.data.toList) l = ZT at *
    generalize firR (nameV nm.data.toList) l = ZF at *
    generalize lasR (nameV nm.data.toList) l = ZL at *
    generalize cntR (nameV nm.data.toList) l = ZC at *
    generalize chkV (nameV nm.data.toList) l = E at *
    obtain ⟨e1, e2⟩ := E
    simp only at PC RC PT RT PL RL PN RN
    go_enter Tryd.func4, Tryd.ntmps4
    go_upto_region 1 with (fail)
    generalize w.alloc (ptO nm p l.length cap) = y at *
    have k0 := HP.out.cell (j := 0) rfl
    have k1 := HP.out.cell (j := 1) rfl
    go_wp2_with fail
    refine (LT.out _).mono ?_
    rintro e w1 ⟨rfl, hb⟩
    replace B := Lib.hid (w_below B.out hb)
    replace HP := Lib.hid (HP.out.later hb)
    replace HL := Lib.hid (HL.out.later hb)
    replace k0 := cell_later hb k0
    replace k1 := cell_later hb k1
    clear hb LT
    go_wp2_with fail
    refine (OP.out _ HL.out).mono ?_
    rintro e w2 ⟨q, c, rfl, hb, hsl⟩
    have FX := Lib.hid (show PtX w (w2.alloc (ptO nm q l.length c)) w2.heap.size nm p cap q c l from ⟨(HP.out.later hb).al _, pt_new w2 nm q l.length c, (HL.out.later hb).later (w_alloc (w_refl _) _), hsl.later (w_alloc (w_refl _) _), w_alloc (w_below B.out hb) _⟩)
    have f2 := hsl.fit
    have m2 := hsl.max
    clear hb hsl HP HL B OP k0 k1
    go_upto_region 4 with (fail)
    obtain ⟨b3, hb3⟩ : ∃ b3, w2.heap.size = b3 := ⟨_, rfl⟩
    rw [hb3] at FX ⊢
    clear hb3
    generalize w2.alloc (ptO nm q l.length c) = y2 at *
    have j0 := FX.out.h2.cell (j := 0) rfl
    have j1 := FX.out.h2.cell (j := 1) rfl
    go_wp2_with fail
    refine (PC.out _ _ _ FX.out.s2 FX.out.b).mono ?_
    rintro e w9 ⟨rfl, hb⟩
    replace FX := Lib.hid (FX.out.later hb)
    clear hb PC
    clear j0 j1
    have k0 := FX.out.h1.cell (j := 0) rfl
    have k1 := FX.out.h1.cell (j := 1) rfl
    go_wp2_with fail
    refine (RC.out _ FX.out.s1).mono ?_
    rintro e w9 ⟨rfl, hb⟩
    replace FX := Lib.hid (FX.out.later hb)
    clear hb RC
    clear k0 k1
    have j0 := FX.out.h2.cell (j := 0) rfl
    have j1 := FX.out.h2.cell (j := 1) rfl
    go_wp2_with fail
    refine (PT.out _ _ _ FX.out.s2 FX.out.b).mono ?_
    rintro e w9 ⟨v, rfl, ho⟩
    obtain ⟨pa, ca, rfl, hs⟩ := ho.sl
    have Sa := Lib.hid hs
    have hb := ho.bel
    replace FX := Lib.hid (FX.out.later hb)
    clear hb ho hs PT
    clear j0 j1
    have k0 := FX.out.h1.cell (j := 0) rfl
    have k1 := FX.out.h1.cell (j := 1) rfl
    go_wp2_with fail
    refine (RT.out _ FX.out.s1).mono ?_
    rintro e w9 ⟨v, rfl, ho⟩
    obtain ⟨pb, cb, rfl, hs⟩ := ho.sl
    have Sb := Lib.hid hs
    have hb := ho.bel
    replace FX := Lib.hid (FX.out.later hb)
    replace Sa := Lib.hid (Sa.out.later hb)
    clear hb ho hs RT
    clear k0 k1
    go_wp2_with fail
    refine (SI.out _ _ _ _ _ _ Sa.out Sb.out).mono ?_
    rintro e w9 ⟨rfl, hb⟩
    replace FX := Lib.hid (FX.out.later hb)
    clear hb 
    clear Sa Sb
    have j0 := FX.out.h2.cell (j := 0) rfl
    have j1 := FX.out.h2.cell (j := 1) rfl
    go_wp2_with fail
    refine (PL.out _ _ _ FX.out.s2 FX.out.b).mono ?_
    rintro e w9 ⟨v, u, rfl, ho, hu⟩
    obtain ⟨pd, cd, rfl, hs⟩ := ho.sl
    obtain ⟨pf, cf, rfl, hs2⟩ := hu.sl
    have Sd := Lib.hid hs
    have Sf := Lib.hid hs2
    have hb := ho.bel
    replace FX := Lib.hid (FX.out.later hb)
    clear hb ho hu hs hs2 PL
    clear j0 j1
    have k0 := FX.out.h1.cell (j := 0) rfl
    have k1 := FX.out.h1.cell (j := 1) rfl
    go_wp2_with fail
    refine (RL.out _ FX.out.s1).mono ?_
    rintro e w9 ⟨v, u, rfl, ho, hu⟩
    obtain ⟨pg, cg, rfl, hs⟩ := ho.sl
    obtain ⟨ph, ch, rfl, hs2⟩ := hu.sl
    have Sg := Lib.hid hs
    have Sh := Lib.hid hs2
    have hb := ho.bel
    replace FX := Lib.hid (FX.out.later hb)
    replace Sd := Lib.hid (Sd.out.later hb)
    replace Sf := Lib.hid (Sf.out.later hb)
    clear hb ho hu hs hs2 RL
    clear k0 k1
    go_wp2_with fail
    refine (SI.out _ _ _ _ _ _ Sd.out Sg.out).mono ?_
    rintro e w9 ⟨rfl, hb⟩
    replace FX := Lib.hid (FX.out.later hb)
    replace Sf := Lib.hid (Sf.out.later hb)
    replace Sh := Lib.hid (Sh.out.later hb)
    clear hb 
    clear Sd Sg
    go_wp2_with fail
    refine (SI.out _ _ _ _ _ _ Sf.out Sh.out).mono ?_
    rintro e w9 ⟨rfl, hb⟩
    replace FX := Lib.hid (FX.out.later hb)
    clear hb 
    clear Sf Sh
    have j0 := FX.out.h2.cell (j := 0) rfl
    have j1 := FX.out.h2.cell (j := 1) rfl
    go_wp2_with fail
    refine (PN.out _ _ _ FX.out.s2 FX.out.b).mono ?_
    rintro e w9 ⟨v, rfl, ho⟩
    obtain ⟨pi, ci, rfl, hs⟩ := ho.sl
    have Si := Lib.hid hs
    have hb := ho.bel
    replace FX := Lib.hid (FX.out.later hb)
    clear hb ho hs PN
    clear j0 j1
    have k0 := FX.out.h1.cell (j := 0) rfl
    have k1 := FX.out.h1.cell (j := 1) rfl
    go_wp2_with fail
    refine (RN.out _ FX.out.s1).mono ?_
    rintro e w9 ⟨v, rfl, ho⟩
    obtain ⟨pj, cj, rfl, hs⟩ := ho.sl
    have Sj := Lib.hid hs
    have hb := ho.bel
    replace FX := Lib.hid (FX.out.later hb)
    replace Si := Lib.hid (Si.out.later hb)
    clear hb ho hs RN
    clear k0 k1
    go_wp2_with fail
    refine (SI.out _ _ _ _ _ _ Si.out Sj.out).mono ?_
    rintro e w9 ⟨rfl, hb⟩
    replace FX := Lib.hid (FX.out.later hb)
    clear hb 
    clear Si Sj
    have k0 := FX.out.h1.cell (j := 0) rfl
    have k1 := FX.out.h1.cell (j := 1) rfl
    have j0 := FX.out.h2.cell (j := 0) rfl
    have j1 := FX.out.h2.cell (j := 1) rfl
    go_wp2_with fail
    refine (SP.out _ _ _ FX.out.s1 FX.out.s2).mono ?_
    rintro e w9 ⟨rfl, hb⟩
    replace FX := Lib.hid (FX.out.later hb)
    clear hb SP
    clear k0 k1 j0 j1
    go_wp2_with fail
    refine (AW.out _ FX.out.b).mono ?_
    rintro e w9 ⟨rfl, hb⟩
    replace FX := Lib.hid (FX.out.later hb)
    clear hb AW
    go_wp2_with fail
    go_ret
    exact ⟨rfl, FX.out.b⟩

end Go.Proofs.YtcomjcflllfobaaDoor
