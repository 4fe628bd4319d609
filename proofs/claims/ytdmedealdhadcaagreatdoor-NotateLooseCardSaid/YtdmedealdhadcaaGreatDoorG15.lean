/- Which sign a word is built like. The sign of a word; the sign of a word of a text. -/
import Derived.Test.YtdmedealdhadcaaGreatDoorG11
import Derived.Test.YtdmedealdhadcaaGreatDoorG01
import Derived.Test.YtdmedealdhadcaaGreatDoorG13
import Derived.Test.YtdmedealdhadcaaGreatDoorG07

namespace Go.Proofs.YtdmedealdhadcaaGreatDoor
open Go.RowKit
theorem cu_sg {W : World} {b : Nat} {x : Cu} (h : CuX W b x) : SgAt W b 1 x.2 :=
  ⟨HoldsB.cell h (j := 1) rfl, HoldsB.cell h (j := 2) rfl, HoldsB.cell h (j := 3) rfl, HoldsB.cell h (j := 4) rfl, HoldsB.cell h (j := 5) rfl, HoldsB.cell h (j := 6) rfl, HoldsB.cell h (j := 7) rfl, HoldsB.cell h (j := 8) rfl, HoldsB.cell h (j := 9) rfl, HoldsB.cell h (j := 10) rfl, HoldsB.cell h (j := 11) rfl, HoldsB.cell h (j := 12) rfl, HoldsB.cell h (j := 13) rfl, HoldsB.cell h (j := 14) rfl, HoldsB.cell h (j := 15) rfl, HoldsB.cell h (j := 16) rfl, HoldsB.cell h (j := 17) rfl⟩
theorem em_bytes (l : List UInt8) : (bytes l).toList.isEmpty = decide (l = []) := by
  rw [Lib.toList_data, bytes_data]
  cases l <;> rfl
theorem res_sg2 {fn : Func} {t u : Tmp} (h : fn.results = #[.cell t 27, .tmp u]) {tmps : Array Value} {w : World} {b o : Nat} {s : Sg} {v : Value} (ht : tmps.getD t undef = .pointer (some ⟨b, o, none⟩)) (hs : SgAt w b o s) (hu : tmps.getD u undef = v) :
    (results fn tmps).run Tryz.prog w = .ok (.tuple #[sgv s, v]) w := by
  have e := sg_loadVar hs
  simp only [Array.getD_eq_getD_getElem?] at ht hu
  have e2 : (asAddr (Value.pointer (some { block := b, off := o }))).run Tryz.prog w = .ok ⟨b, o, none⟩ w := by simp [asAddr]
  simp [results, h, ht, hu, Sem.run_bind, e2, e]
def BtPost (l : List UInt8) (w : World) (e : Ending) (w' : World) : Prop := ∃ s bo, e = .returned (.tuple #[sgv s, .bool bo]) ∧ Below w.heap.size w w' ∧ ((readS l = some s ∧ bo = true) ∨ (readS l = none ∧ s = zS ∧ bo = false))
/-- What the loop holds. -/
structure BtI (w W : World) (r a g3 g9 g11 g12 : Nat) : Prop where
  bel : Below w.heap.size w W
  res : HoldsB W r 27 (sgA zS)
  arr : HoldsB W a 79 (mannA g3 g9 g11 g12)
  man : Mann W w.heap.size g3 g9 g11 g12
  br : w.heap.size ≤ r
  hra : r ≠ a
theorem BtI.al {w W : World} {r a g3 g9 g11 g12 : Nat} (h : BtI w W r a g3 g9 g11 g12) (o : Obj) : BtI w (W.alloc o) r a g3 g9 g11 g12 :=
  ⟨w_alloc h.bel o, h.res.al o, h.arr.al o, h.man.later (w_alloc (w_refl W) o), h.br, h.hra⟩
theorem BtI.later {w W V : World} {r a g3 g9 g11 g12 : Nat} (h : BtI w W r a g3 g9 g11 g12) (k : Below W.heap.size W V) : BtI w V r a g3 g9 g11 g12 :=
  ⟨w_below h.bel k, h.res.later k, h.arr.later k, h.man.later k, h.br, h.hra⟩
theorem BtI.mv {w W V : World} {r a g3 g9 g11 g12 c : Nat} (h : BtI w W r a g3 g9 g11 g12) (k : Mv c W V) (h1 : r ≠ c) (h2 : a ≠ c) (h3 : g3 ≠ c) (h4 : g9 ≠ c) (h5 : g11 ≠ c) (h6 : g12 ≠ c) (hc : w.heap.size ≤ c) : BtI w V r a g3 g9 g11 g12 :=
  ⟨k.bel h.bel hc h.bel.size, h.res.mv k h1, h.arr.mv k h2, ⟨HoldsB.mv h.man.t3 k h3, HoldsB.mv h.man.t9 k h4, HoldsB.mv h.man.t11 k h5, HoldsB.mv h.man.t12 k h6, h.man.b3, h.man.b9, h.man.b11, h.man.b12⟩, h.br, h.hra⟩
set_option maxRecDepth 100000 in
set_option maxHeartbeats 20000000 in
theorem pbuilt_any (l : List UInt8) (hl : l.length ≤ 1000000) (w : World) : Calls Tryz.prog 42 #[.string (bytes l)] w (BtPost l w) := by
  have MA := Lib.hid (fun V => manners_any V)
  have HL := Lib.hid hl
  have R0 := Lib.hid (sg_new w zS)
  have B0 := Lib.hid (w_alloc (w_refl w) (sgO zS))
  have RO := Lib.hid (fun k s (h : rdK k l = some s) => read_of h)
  have RN := Lib.hid (fun h => read_none (l := l) h)
  clear hl
  unfold BtPost
  go_enter Tryz.func42, Tryz.ntmps42
  go_wp2_with fail
  refine (MA.out _).mono ?_
  rintro e w1 ⟨g3, g9, g11, g12, rfl, hm, hb⟩
  have hb' := Lib.hid (show Below (w.alloc (sgO zS)).heap.size (w.alloc (sgO zS)) w1 from hb)
  have hm' := Lib.hid (show Mann w1 (w.alloc (sgO zS)).heap.size g3 g9 g11 g12 from hm)
  clear hb hm
  go_wp2_with (first | (refine wl_row 79 w1.heap.size _ _ (mannA g3 g9 g11 g12) (HoldsB.new w1 _ _) (by kernel_rfl) (by kernel_rfl) (by kernel_rfl) rfl (by kernel_rfl) ?_) | fail)
  intro W2 h2 hB2 ho2
  have I0 := Lib.hid (show BtI w W2 w.heap.size w1.heap.size g3 g9 g11 g12 from by
    have hr : HoldsB w1 w.heap.size 27 (sgA zS) := R0.out.later hb'.out
    have hle : w.heap.size ≤ (w.alloc (sgO zS)).heap.size := B0.out.size
    have hk : ∀ c, c < w1.heap.size → W2.heap[c]? = w1.heap[c]? := fun c hc => (ho2 c (Nat.ne_of_lt hc)).trans (heap_alloc_old w1 _ hc)
    have m := hm'.out
    exact ⟨hB2 _ _ (w_alloc (w_below B0.out hb'.out) _) (Nat.le_of_lt hr.lt), (hk _ hr.lt).trans hr, h2, ⟨(hk _ (HoldsB.lt m.t3)).trans m.t3, (hk _ (HoldsB.lt m.t9)).trans m.t9, (hk _ (HoldsB.lt m.t11)).trans m.t11, (hk _ (HoldsB.lt m.t12)).trans m.t12, Nat.le_trans hle m.b3, Nat.le_trans hle m.b9, Nat.le_trans hle m.b11, Nat.le_trans hle m.b12⟩, Nat.le_refl _, Nat.ne_of_lt hr.lt⟩)
  clear h2 hB2 ho2 hb' hm' MA R0 B0
  generalize w1.heap.size = a at *
  clear w1
  go_wp2_with fail
  go_loopw [5] (fun s5 W => ∃ k : Nat, 1 ≤ k ∧ k ≤ 13 ∧ s5 = .int .i64 k ∧ Hid (∀ j, 1 ≤ j → j < k → rdK j l = none) ∧ Hid (BtI w W w.heap.size a g3 g9 g11 g12)) (fun s5 _ => 13 - (intOf s5).toNat)
  case atStart => exact ⟨1, by omega, by omega, rfl, Lib.hid (fun j h1 h2 => by omega), I0⟩
  case round =>
    clear I0
    obtain ⟨k, hk1, hk13, rfl, hno, I⟩ := hrel
    rename World => W
    by_cases hlt : k ≤ 12
    · have hlt' : (k : Int) ≤ 12 := by omega
      have hx1 : 1 ≤ (k : Int) := by omega
      have hkk := Lib.hid (⟨hk1, hlt⟩ : 1 ≤ k ∧ k ≤ 12)
      have e1 := I.out.res.lt
      have e2 := I.out.arr.lt
      have e3 := HoldsB.lt I.out.man.t3
      have e4 := HoldsB.lt I.out.man.t9
      have e5 := HoldsB.lt I.out.man.t11
      have e6 := HoldsB.lt I.out.man.t12
      have KP := Lib.hid (fun V U (hI : BtI w V w.heap.size a g3 g9 g11 g12) (hm : Mv W.heap.size V U) => hI.mv hm (Nat.ne_of_lt e1) (Nat.ne_of_lt e2) (Nat.ne_of_lt e3) (Nat.ne_of_lt e4) (Nat.ne_of_lt e5) (Nat.ne_of_lt e6) I.out.bel.size)
      clear e1 e2 e3 e4 e5 e6 hk13 hlt hk1
      go_wp2_with (first | (refine wl_row 123 W.heap.size _ _ (cuA l (kS k)) (HoldsB.new W _ _) (by kernel_rfl) (by kernel_rfl) (by kernel_rfl) rfl (by kernel_rfl) ?_) | fail)
      intro W3 hX3 hB3 _
      have I3 := Lib.hid (I.out.later (hB3 _ _ (w_alloc (w_refl W) _) (Nat.le_refl _)))
      have K3 := Lib.hid (fun U => KP.out W3 U I3.out)
      have X3 := Lib.hid (show CuX W3 W.heap.size (l, kS k) from hX3)
      clear hX3 hB3 KP I
      generalize W.heap.size = c at *
      go_upto_region 6 with fail
      go_cut [25] (fun s25 wx => ∃ bo, s25 = .bool bo ∧ Hid (BtI w wx w.heap.size a g3 g9 g11 g12) ∧ Hid ((bo = false ∧ rdK k l = none) ∨ (bo = true ∧ ∃ s2, rdK k l = some s2 ∧ SgAt wx c 1 s2)))
      case first =>
        clear hno RO RN
        have hk := hkk.out
        have cc : k = 1 ∨ k = 2 ∨ k = 3 ∨ k = 4 ∨ k = 5 ∨ k = 6 ∨ k = 7 ∨ k = 8 ∨ k = 9 ∨ k = 10 ∨ k = 11 ∨ k = 12 := by omega
        clear hk hkk hlt' hx1
        rcases cc with rfl | rfl | rfl | rfl | rfl | rfl | rfl | rfl | rfl | rfl | rfl | rfl
        · have T3 := Lib.hid (show Calls _ _ _ _ (PcPost (rdC 1 (l, kS 1)) c W3) from knote_any W3 c l HL.out X3.out)
          have hw : ∀ y, rdC 1 (l, kS 1) = some y → y.1 = [] → rdK 1 l = some y.2 := fun y e h => by unfold rdK whole; rw [e]; exact if_pos h
          have hv : ∀ y, rdC 1 (l, kS 1) = some y → y.1 ≠ [] → rdK 1 l = none := fun y e h => by unfold rdK whole; rw [e]; exact if_neg h
          have hu : rdC 1 (l, kS 1) = none → rdK 1 l = none := fun e => by unfold rdK whole; rw [e]; rfl
          have HW := Lib.hid hw
          have HV := Lib.hid hv
          have HU := Lib.hid hu
          have cf := I3.out.arr.cell (j := 3) (v := fn0 65) rfl
          unfold fn0 at cf
          clear hw hv hu X3 I3 HL
          generalize rdC 1 (l, kS 1) = R at *
          go_wp2_with fail
          cases hR : R with
          | none =>
            rw [hR] at T3
            have hn := Lib.hid (HU.out hR)
            clear HW HV HU hR
            refine T3.out.mono ?_
            rintro e w4 ⟨hm, _, he⟩
            obtain rfl := he rfl
            have I4 := Lib.hid (K3.out w4 hm)
            clear hm T3 K3 cf
            go_wp2_with fail
            go_meet
            exact ⟨false, rfl, I4, Lib.hid (.inl ⟨rfl, hn.out⟩)⟩
          | some y =>
            rw [hR] at T3
            obtain ⟨l2, s2⟩ := y
            refine T3.out.mono ?_
            rintro e w4 ⟨hm, he, _⟩
            obtain ⟨rfl, hc⟩ := he _ rfl
            have I4 := Lib.hid (K3.out w4 hm)
            have SG := Lib.hid (cu_sg hc)
            have c0 : w4.cell? ⟨c, 0, none⟩ = some (.string (bytes l2)) := hc.left
            have hem := em_bytes l2
            clear hm hc T3 K3 cf
            by_cases hl2 : l2 = []
            · have fin := Lib.hid (HW.out _ hR hl2)
              rw [decide_eq_true hl2] at hem
              clear HW HV HU hR hl2
              go_wp2_with fail
              go_meet
              exact ⟨true, rfl, I4, Lib.hid (.inr ⟨rfl, s2, fin.out, SG.out⟩)⟩
            · have hn := Lib.hid (HV.out _ hR hl2)
              rw [decide_eq_false hl2] at hem
              clear HW HV HU hR hl2 SG
              go_wp2_with fail
              go_meet
              exact ⟨false, rfl, I4, Lib.hid (.inl ⟨rfl, hn.out⟩)⟩
        · have T3 := Lib.hid (show Calls _ _ _ _ (PcPost (rdC 2 (l, kS 2)) c W3) from krest_any W3 c l HL.out X3.out)
          have hw : ∀ y, rdC 2 (l, kS 2) = some y → y.1 = [] → rdK 2 l = some y.2 := fun y e h => by unfold rdK whole; rw [e]; exact if_pos h
          have hv : ∀ y, rdC 2 (l, kS 2) = some y → y.1 ≠ [] → rdK 2 l = none := fun y e h => by unfold rdK whole; rw [e]; exact if_neg h
          have hu : rdC 2 (l, kS 2) = none → rdK 2 l = none := fun e => by unfold rdK whole; rw [e]; rfl
          have HW := Lib.hid hw
          have HV := Lib.hid hv
          have HU := Lib.hid hu
          have cf := I3.out.arr.cell (j := 5) (v := fn0 67) rfl
          unfold fn0 at cf
          clear hw hv hu X3 I3 HL
          generalize rdC 2 (l, kS 2) = R at *
          go_wp2_with fail
          cases hR : R with
          | none =>
            rw [hR] at T3
            have hn := Lib.hid (HU.out hR)
            clear HW HV HU hR
            refine T3.out.mono ?_
            rintro e w4 ⟨hm, _, he⟩
            obtain rfl := he rfl
            have I4 := Lib.hid (K3.out w4 hm)
            clear hm T3 K3 cf
            go_wp2_with fail
            go_meet
            exact ⟨false, rfl, I4, Lib.hid (.inl ⟨rfl, hn.out⟩)⟩
          | some y =>
            rw [hR] at T3
            obtain ⟨l2, s2⟩ := y
            refine T3.out.mono ?_
            rintro e w4 ⟨hm, he, _⟩
            obtain ⟨rfl, hc⟩ := he _ rfl
            have I4 := Lib.hid (K3.out w4 hm)
            have SG := Lib.hid (cu_sg hc)
            have c0 : w4.cell? ⟨c, 0, none⟩ = some (.string (bytes l2)) := hc.left
            have hem := em_bytes l2
            clear hm hc T3 K3 cf
            by_cases hl2 : l2 = []
            · have fin := Lib.hid (HW.out _ hR hl2)
              rw [decide_eq_true hl2] at hem
              clear HW HV HU hR hl2
              go_wp2_with fail
              go_meet
              exact ⟨true, rfl, I4, Lib.hid (.inr ⟨rfl, s2, fin.out, SG.out⟩)⟩
            · have hn := Lib.hid (HV.out _ hR hl2)
              rw [decide_eq_false hl2] at hem
              clear HW HV HU hR hl2 SG
              go_wp2_with fail
              go_meet
              exact ⟨false, rfl, I4, Lib.hid (.inl ⟨rfl, hn.out⟩)⟩
        · have T3 := Lib.hid (show Calls _ _ _ _ (PcPost (rdC 3 (l, kS 3)) c W3) from kalone_any [46] g3 c l (kS 3) W3 I3.out.man.t3 X3.out)
          have hw : ∀ y, rdC 3 (l, kS 3) = some y → y.1 = [] → rdK 3 l = some y.2 := fun y e h => by unfold rdK whole; rw [e]; exact if_pos h
          have hv : ∀ y, rdC 3 (l, kS 3) = some y → y.1 ≠ [] → rdK 3 l = none := fun y e h => by unfold rdK whole; rw [e]; exact if_neg h
          have hu : rdC 3 (l, kS 3) = none → rdK 3 l = none := fun e => by unfold rdK whole; rw [e]; rfl
          have HW := Lib.hid hw
          have HV := Lib.hid hv
          have HU := Lib.hid hu
          have cf := I3.out.arr.cell (j := 7) (v := fnC 126 g3) rfl
          unfold fnC at cf
          clear hw hv hu X3 I3 HL
          generalize rdC 3 (l, kS 3) = R at *
          go_wp2_with fail
          cases hR : R with
          | none =>
            rw [hR] at T3
            have hn := Lib.hid (HU.out hR)
            clear HW HV HU hR
            refine T3.out.mono ?_
            rintro e w4 ⟨hm, _, he⟩
            obtain rfl := he rfl
            have I4 := Lib.hid (K3.out w4 hm)
            clear hm T3 K3 cf
            go_wp2_with fail
            go_meet
            exact ⟨false, rfl, I4, Lib.hid (.inl ⟨rfl, hn.out⟩)⟩
          | some y =>
            rw [hR] at T3
            obtain ⟨l2, s2⟩ := y
            refine T3.out.mono ?_
            rintro e w4 ⟨hm, he, _⟩
            obtain ⟨rfl, hc⟩ := he _ rfl
            have I4 := Lib.hid (K3.out w4 hm)
            have SG := Lib.hid (cu_sg hc)
            have c0 : w4.cell? ⟨c, 0, none⟩ = some (.string (bytes l2)) := hc.left
            have hem := em_bytes l2
            clear hm hc T3 K3 cf
            by_cases hl2 : l2 = []
            · have fin := Lib.hid (HW.out _ hR hl2)
              rw [decide_eq_true hl2] at hem
              clear HW HV HU hR hl2
              go_wp2_with fail
              go_meet
              exact ⟨true, rfl, I4, Lib.hid (.inr ⟨rfl, s2, fin.out, SG.out⟩)⟩
            · have hn := Lib.hid (HV.out _ hR hl2)
              rw [decide_eq_false hl2] at hem
              clear HW HV HU hR hl2 SG
              go_wp2_with fail
              go_meet
              exact ⟨false, rfl, I4, Lib.hid (.inl ⟨rfl, hn.out⟩)⟩
        · have T3 := Lib.hid (show Calls _ _ _ _ (PcPost (rdC 4 (l, kS 4)) c W3) from ktied_any W3 c l HL.out X3.out)
          have hw : ∀ y, rdC 4 (l, kS 4) = some y → y.1 = [] → rdK 4 l = some y.2 := fun y e h => by unfold rdK whole; rw [e]; exact if_pos h
          have hv : ∀ y, rdC 4 (l, kS 4) = some y → y.1 ≠ [] → rdK 4 l = none := fun y e h => by unfold rdK whole; rw [e]; exact if_neg h
          have hu : rdC 4 (l, kS 4) = none → rdK 4 l = none := fun e => by unfold rdK whole; rw [e]; rfl
          have HW := Lib.hid hw
          have HV := Lib.hid hv
          have HU := Lib.hid hu
          have cf := I3.out.arr.cell (j := 9) (v := fn0 70) rfl
          unfold fn0 at cf
          clear hw hv hu X3 I3 HL
          generalize rdC 4 (l, kS 4) = R at *
          go_wp2_with fail
          cases hR : R with
          | none =>
            rw [hR] at T3
            have hn := Lib.hid (HU.out hR)
            clear HW HV HU hR
            refine T3.out.mono ?_
            rintro e w4 ⟨hm, _, he⟩
            obtain rfl := he rfl
            have I4 := Lib.hid (K3.out w4 hm)
            clear hm T3 K3 cf
            go_wp2_with fail
            go_meet
            exact ⟨false, rfl, I4, Lib.hid (.inl ⟨rfl, hn.out⟩)⟩
          | some y =>
            rw [hR] at T3
            obtain ⟨l2, s2⟩ := y
            refine T3.out.mono ?_
            rintro e w4 ⟨hm, he, _⟩
            obtain ⟨rfl, hc⟩ := he _ rfl
            have I4 := Lib.hid (K3.out w4 hm)
            have SG := Lib.hid (cu_sg hc)
            have c0 : w4.cell? ⟨c, 0, none⟩ = some (.string (bytes l2)) := hc.left
            have hem := em_bytes l2
            clear hm hc T3 K3 cf
            by_cases hl2 : l2 = []
            · have fin := Lib.hid (HW.out _ hR hl2)
              rw [decide_eq_true hl2] at hem
              clear HW HV HU hR hl2
              go_wp2_with fail
              go_meet
              exact ⟨true, rfl, I4, Lib.hid (.inr ⟨rfl, s2, fin.out, SG.out⟩)⟩
            · have hn := Lib.hid (HV.out _ hR hl2)
              rw [decide_eq_false hl2] at hem
              clear HW HV HU hR hl2 SG
              go_wp2_with fail
              go_meet
              exact ⟨false, rfl, I4, Lib.hid (.inl ⟨rfl, hn.out⟩)⟩
        · have T3 := Lib.hid (show Calls _ _ _ _ (PcPost (rdC 5 (l, kS 5)) c W3) from kmns_any W3 c l HL.out X3.out)
          have hw : ∀ y, rdC 5 (l, kS 5) = some y → y.1 = [] → rdK 5 l = some y.2 := fun y e h => by unfold rdK whole; rw [e]; exact if_pos h
          have hv : ∀ y, rdC 5 (l, kS 5) = some y → y.1 ≠ [] → rdK 5 l = none := fun y e h => by unfold rdK whole; rw [e]; exact if_neg h
          have hu : rdC 5 (l, kS 5) = none → rdK 5 l = none := fun e => by unfold rdK whole; rw [e]; rfl
          have HW := Lib.hid hw
          have HV := Lib.hid hv
          have HU := Lib.hid hu
          have cf := I3.out.arr.cell (j := 11) (v := fn0 72) rfl
          unfold fn0 at cf
          clear hw hv hu X3 I3 HL
          generalize rdC 5 (l, kS 5) = R at *
          go_wp2_with fail
          cases hR : R with
          | none =>
            rw [hR] at T3
            have hn := Lib.hid (HU.out hR)
            clear HW HV HU hR
            refine T3.out.mono ?_
            rintro e w4 ⟨hm, _, he⟩
            obtain rfl := he rfl
            have I4 := Lib.hid (K3.out w4 hm)
            clear hm T3 K3 cf
            go_wp2_with fail
            go_meet
            exact ⟨false, rfl, I4, Lib.hid (.inl ⟨rfl, hn.out⟩)⟩
          | some y =>
            rw [hR] at T3
            obtain ⟨l2, s2⟩ := y
            refine T3.out.mono ?_
            rintro e w4 ⟨hm, he, _⟩
            obtain ⟨rfl, hc⟩ := he _ rfl
            have I4 := Lib.hid (K3.out w4 hm)
            have SG := Lib.hid (cu_sg hc)
            have c0 : w4.cell? ⟨c, 0, none⟩ = some (.string (bytes l2)) := hc.left
            have hem := em_bytes l2
            clear hm hc T3 K3 cf
            by_cases hl2 : l2 = []
            · have fin := Lib.hid (HW.out _ hR hl2)
              rw [decide_eq_true hl2] at hem
              clear HW HV HU hR hl2
              go_wp2_with fail
              go_meet
              exact ⟨true, rfl, I4, Lib.hid (.inr ⟨rfl, s2, fin.out, SG.out⟩)⟩
            · have hn := Lib.hid (HV.out _ hR hl2)
              rw [decide_eq_false hl2] at hem
              clear HW HV HU hR hl2 SG
              go_wp2_with fail
              go_meet
              exact ⟨false, rfl, I4, Lib.hid (.inl ⟨rfl, hn.out⟩)⟩
        · have T3 := Lib.hid (show Calls _ _ _ _ (PcPost (rdC 6 (l, kS 6)) c W3) from kprop_any W3 c l HL.out X3.out)
          have hw : ∀ y, rdC 6 (l, kS 6) = some y → y.1 = [] → rdK 6 l = some y.2 := fun y e h => by unfold rdK whole; rw [e]; exact if_pos h
          have hv : ∀ y, rdC 6 (l, kS 6) = some y → y.1 ≠ [] → rdK 6 l = none := fun y e h => by unfold rdK whole; rw [e]; exact if_neg h
          have hu : rdC 6 (l, kS 6) = none → rdK 6 l = none := fun e => by unfold rdK whole; rw [e]; rfl
          have HW := Lib.hid hw
          have HV := Lib.hid hv
          have HU := Lib.hid hu
          have cf := I3.out.arr.cell (j := 13) (v := fn0 74) rfl
          unfold fn0 at cf
          clear hw hv hu X3 I3 HL
          generalize rdC 6 (l, kS 6) = R at *
          go_wp2_with fail
          cases hR : R with
          | none =>
            rw [hR] at T3
            have hn := Lib.hid (HU.out hR)
            clear HW HV HU hR
            refine T3.out.mono ?_
            rintro e w4 ⟨hm, _, he⟩
            obtain rfl := he rfl
            have I4 := Lib.hid (K3.out w4 hm)
            clear hm T3 K3 cf
            go_wp2_with fail
            go_meet
            exact ⟨false, rfl, I4, Lib.hid (.inl ⟨rfl, hn.out⟩)⟩
          | some y =>
            rw [hR] at T3
            obtain ⟨l2, s2⟩ := y
            refine T3.out.mono ?_
            rintro e w4 ⟨hm, he, _⟩
            obtain ⟨rfl, hc⟩ := he _ rfl
            have I4 := Lib.hid (K3.out w4 hm)
            have SG := Lib.hid (cu_sg hc)
            have c0 : w4.cell? ⟨c, 0, none⟩ = some (.string (bytes l2)) := hc.left
            have hem := em_bytes l2
            clear hm hc T3 K3 cf
            by_cases hl2 : l2 = []
            · have fin := Lib.hid (HW.out _ hR hl2)
              rw [decide_eq_true hl2] at hem
              clear HW HV HU hR hl2
              go_wp2_with fail
              go_meet
              exact ⟨true, rfl, I4, Lib.hid (.inr ⟨rfl, s2, fin.out, SG.out⟩)⟩
            · have hn := Lib.hid (HV.out _ hR hl2)
              rw [decide_eq_false hl2] at hem
              clear HW HV HU hR hl2 SG
              go_wp2_with fail
              go_meet
              exact ⟨false, rfl, I4, Lib.hid (.inl ⟨rfl, hn.out⟩)⟩
        · have T3 := Lib.hid (show Calls _ _ _ _ (PcPost (rdC 7 (l, kS 7)) c W3) from kclef_any W3 c l HL.out X3.out)
          have hw : ∀ y, rdC 7 (l, kS 7) = some y → y.1 = [] → rdK 7 l = some y.2 := fun y e h => by unfold rdK whole; rw [e]; exact if_pos h
          have hv : ∀ y, rdC 7 (l, kS 7) = some y → y.1 ≠ [] → rdK 7 l = none := fun y e h => by unfold rdK whole; rw [e]; exact if_neg h
          have hu : rdC 7 (l, kS 7) = none → rdK 7 l = none := fun e => by unfold rdK whole; rw [e]; rfl
          have HW := Lib.hid hw
          have HV := Lib.hid hv
          have HU := Lib.hid hu
          have cf := I3.out.arr.cell (j := 15) (v := fn0 76) rfl
          unfold fn0 at cf
          clear hw hv hu X3 I3 HL
          generalize rdC 7 (l, kS 7) = R at *
          go_wp2_with fail
          cases hR : R with
          | none =>
            rw [hR] at T3
            have hn := Lib.hid (HU.out hR)
            clear HW HV HU hR
            refine T3.out.mono ?_
            rintro e w4 ⟨hm, _, he⟩
            obtain rfl := he rfl
            have I4 := Lib.hid (K3.out w4 hm)
            clear hm T3 K3 cf
            go_wp2_with fail
            go_meet
            exact ⟨false, rfl, I4, Lib.hid (.inl ⟨rfl, hn.out⟩)⟩
          | some y =>
            rw [hR] at T3
            obtain ⟨l2, s2⟩ := y
            refine T3.out.mono ?_
            rintro e w4 ⟨hm, he, _⟩
            obtain ⟨rfl, hc⟩ := he _ rfl
            have I4 := Lib.hid (K3.out w4 hm)
            have SG := Lib.hid (cu_sg hc)
            have c0 : w4.cell? ⟨c, 0, none⟩ = some (.string (bytes l2)) := hc.left
            have hem := em_bytes l2
            clear hm hc T3 K3 cf
            by_cases hl2 : l2 = []
            · have fin := Lib.hid (HW.out _ hR hl2)
              rw [decide_eq_true hl2] at hem
              clear HW HV HU hR hl2
              go_wp2_with fail
              go_meet
              exact ⟨true, rfl, I4, Lib.hid (.inr ⟨rfl, s2, fin.out, SG.out⟩)⟩
            · have hn := Lib.hid (HV.out _ hR hl2)
              rw [decide_eq_false hl2] at hem
              clear HW HV HU hR hl2 SG
              go_wp2_with fail
              go_meet
              exact ⟨false, rfl, I4, Lib.hid (.inl ⟨rfl, hn.out⟩)⟩
        · have T3 := Lib.hid (show Calls _ _ _ _ (PcPost (rdC 8 (l, kS 8)) c W3) from kkey_any W3 c l HL.out X3.out)
          have hw : ∀ y, rdC 8 (l, kS 8) = some y → y.1 = [] → rdK 8 l = some y.2 := fun y e h => by unfold rdK whole; rw [e]; exact if_pos h
          have hv : ∀ y, rdC 8 (l, kS 8) = some y → y.1 ≠ [] → rdK 8 l = none := fun y e h => by unfold rdK whole; rw [e]; exact if_neg h
          have hu : rdC 8 (l, kS 8) = none → rdK 8 l = none := fun e => by unfold rdK whole; rw [e]; rfl
          have HW := Lib.hid hw
          have HV := Lib.hid hv
          have HU := Lib.hid hu
          have cf := I3.out.arr.cell (j := 17) (v := fn0 78) rfl
          unfold fn0 at cf
          clear hw hv hu X3 I3 HL
          generalize rdC 8 (l, kS 8) = R at *
          go_wp2_with fail
          cases hR : R with
          | none =>
            rw [hR] at T3
            have hn := Lib.hid (HU.out hR)
            clear HW HV HU hR
            refine T3.out.mono ?_
            rintro e w4 ⟨hm, _, he⟩
            obtain rfl := he rfl
            have I4 := Lib.hid (K3.out w4 hm)
            clear hm T3 K3 cf
            go_wp2_with fail
            go_meet
            exact ⟨false, rfl, I4, Lib.hid (.inl ⟨rfl, hn.out⟩)⟩
          | some y =>
            rw [hR] at T3
            obtain ⟨l2, s2⟩ := y
            refine T3.out.mono ?_
            rintro e w4 ⟨hm, he, _⟩
            obtain ⟨rfl, hc⟩ := he _ rfl
            have I4 := Lib.hid (K3.out w4 hm)
            have SG := Lib.hid (cu_sg hc)
            have c0 : w4.cell? ⟨c, 0, none⟩ = some (.string (bytes l2)) := hc.left
            have hem := em_bytes l2
            clear hm hc T3 K3 cf
            by_cases hl2 : l2 = []
            · have fin := Lib.hid (HW.out _ hR hl2)
              rw [decide_eq_true hl2] at hem
              clear HW HV HU hR hl2
              go_wp2_with fail
              go_meet
              exact ⟨true, rfl, I4, Lib.hid (.inr ⟨rfl, s2, fin.out, SG.out⟩)⟩
            · have hn := Lib.hid (HV.out _ hR hl2)
              rw [decide_eq_false hl2] at hem
              clear HW HV HU hR hl2 SG
              go_wp2_with fail
              go_meet
              exact ⟨false, rfl, I4, Lib.hid (.inl ⟨rfl, hn.out⟩)⟩
        · have T3 := Lib.hid (show Calls _ _ _ _ (PcPost (rdC 9 (l, kS 9)) c W3) from kalone_any [91] g9 c l (kS 9) W3 I3.out.man.t9 X3.out)
          have hw : ∀ y, rdC 9 (l, kS 9) = some y → y.1 = [] → rdK 9 l = some y.2 := fun y e h => by unfold rdK whole; rw [e]; exact if_pos h
          have hv : ∀ y, rdC 9 (l, kS 9) = some y → y.1 ≠ [] → rdK 9 l = none := fun y e h => by unfold rdK whole; rw [e]; exact if_neg h
          have hu : rdC 9 (l, kS 9) = none → rdK 9 l = none := fun e => by unfold rdK whole; rw [e]; rfl
          have HW := Lib.hid hw
          have HV := Lib.hid hv
          have HU := Lib.hid hu
          have cf := I3.out.arr.cell (j := 19) (v := fnC 126 g9) rfl
          unfold fnC at cf
          clear hw hv hu X3 I3 HL
          generalize rdC 9 (l, kS 9) = R at *
          go_wp2_with fail
          cases hR : R with
          | none =>
            rw [hR] at T3
            have hn := Lib.hid (HU.out hR)
            clear HW HV HU hR
            refine T3.out.mono ?_
            rintro e w4 ⟨hm, _, he⟩
            obtain rfl := he rfl
            have I4 := Lib.hid (K3.out w4 hm)
            clear hm T3 K3 cf
            go_wp2_with fail
            go_meet
            exact ⟨false, rfl, I4, Lib.hid (.inl ⟨rfl, hn.out⟩)⟩
          | some y =>
            rw [hR] at T3
            obtain ⟨l2, s2⟩ := y
            refine T3.out.mono ?_
            rintro e w4 ⟨hm, he, _⟩
            obtain ⟨rfl, hc⟩ := he _ rfl
            have I4 := Lib.hid (K3.out w4 hm)
            have SG := Lib.hid (cu_sg hc)
            have c0 : w4.cell? ⟨c, 0, none⟩ = some (.string (bytes l2)) := hc.left
            have hem := em_bytes l2
            clear hm hc T3 K3 cf
            by_cases hl2 : l2 = []
            · have fin := Lib.hid (HW.out _ hR hl2)
              rw [decide_eq_true hl2] at hem
              clear HW HV HU hR hl2
              go_wp2_with fail
              go_meet
              exact ⟨true, rfl, I4, Lib.hid (.inr ⟨rfl, s2, fin.out, SG.out⟩)⟩
            · have hn := Lib.hid (HV.out _ hR hl2)
              rw [decide_eq_false hl2] at hem
              clear HW HV HU hR hl2 SG
              go_wp2_with fail
              go_meet
              exact ⟨false, rfl, I4, Lib.hid (.inl ⟨rfl, hn.out⟩)⟩
        · have T3 := Lib.hid (show Calls _ _ _ _ (PcPost (rdC 10 (l, kS 10)) c W3) from kclose_any W3 c l HL.out X3.out)
          have hw : ∀ y, rdC 10 (l, kS 10) = some y → y.1 = [] → rdK 10 l = some y.2 := fun y e h => by unfold rdK whole; rw [e]; exact if_pos h
          have hv : ∀ y, rdC 10 (l, kS 10) = some y → y.1 ≠ [] → rdK 10 l = none := fun y e h => by unfold rdK whole; rw [e]; exact if_neg h
          have hu : rdC 10 (l, kS 10) = none → rdK 10 l = none := fun e => by unfold rdK whole; rw [e]; rfl
          have HW := Lib.hid hw
          have HV := Lib.hid hv
          have HU := Lib.hid hu
          have cf := I3.out.arr.cell (j := 21) (v := fn0 80) rfl
          unfold fn0 at cf
          clear hw hv hu X3 I3 HL
          generalize rdC 10 (l, kS 10) = R at *
          go_wp2_with fail
          cases hR : R with
          | none =>
            rw [hR] at T3
            have hn := Lib.hid (HU.out hR)
            clear HW HV HU hR
            refine T3.out.mono ?_
            rintro e w4 ⟨hm, _, he⟩
            obtain rfl := he rfl
            have I4 := Lib.hid (K3.out w4 hm)
            clear hm T3 K3 cf
            go_wp2_with fail
            go_meet
            exact ⟨false, rfl, I4, Lib.hid (.inl ⟨rfl, hn.out⟩)⟩
          | some y =>
            rw [hR] at T3
            obtain ⟨l2, s2⟩ := y
            refine T3.out.mono ?_
            rintro e w4 ⟨hm, he, _⟩
            obtain ⟨rfl, hc⟩ := he _ rfl
            have I4 := Lib.hid (K3.out w4 hm)
            have SG := Lib.hid (cu_sg hc)
            have c0 : w4.cell? ⟨c, 0, none⟩ = some (.string (bytes l2)) := hc.left
            have hem := em_bytes l2
            clear hm hc T3 K3 cf
            by_cases hl2 : l2 = []
            · have fin := Lib.hid (HW.out _ hR hl2)
              rw [decide_eq_true hl2] at hem
              clear HW HV HU hR hl2
              go_wp2_with fail
              go_meet
              exact ⟨true, rfl, I4, Lib.hid (.inr ⟨rfl, s2, fin.out, SG.out⟩)⟩
            · have hn := Lib.hid (HV.out _ hR hl2)
              rw [decide_eq_false hl2] at hem
              clear HW HV HU hR hl2 SG
              go_wp2_with fail
              go_meet
              exact ⟨false, rfl, I4, Lib.hid (.inl ⟨rfl, hn.out⟩)⟩
        · have T3 := Lib.hid (show Calls _ _ _ _ (PcPost (rdC 11 (l, kS 11)) c W3) from kalone_any turnL g11 c l (kS 11) W3 I3.out.man.t11 X3.out)
          have hw : ∀ y, rdC 11 (l, kS 11) = some y → y.1 = [] → rdK 11 l = some y.2 := fun y e h => by unfold rdK whole; rw [e]; exact if_pos h
          have hv : ∀ y, rdC 11 (l, kS 11) = some y → y.1 ≠ [] → rdK 11 l = none := fun y e h => by unfold rdK whole; rw [e]; exact if_neg h
          have hu : rdC 11 (l, kS 11) = none → rdK 11 l = none := fun e => by unfold rdK whole; rw [e]; rfl
          have HW := Lib.hid hw
          have HV := Lib.hid hv
          have HU := Lib.hid hu
          have cf := I3.out.arr.cell (j := 23) (v := fnC 126 g11) rfl
          unfold fnC at cf
          clear hw hv hu X3 I3 HL
          generalize rdC 11 (l, kS 11) = R at *
          go_wp2_with fail
          cases hR : R with
          | none =>
            rw [hR] at T3
            have hn := Lib.hid (HU.out hR)
            clear HW HV HU hR
            refine T3.out.mono ?_
            rintro e w4 ⟨hm, _, he⟩
            obtain rfl := he rfl
            have I4 := Lib.hid (K3.out w4 hm)
            clear hm T3 K3 cf
            go_wp2_with fail
            go_meet
            exact ⟨false, rfl, I4, Lib.hid (.inl ⟨rfl, hn.out⟩)⟩
          | some y =>
            rw [hR] at T3
            obtain ⟨l2, s2⟩ := y
            refine T3.out.mono ?_
            rintro e w4 ⟨hm, he, _⟩
            obtain ⟨rfl, hc⟩ := he _ rfl
            have I4 := Lib.hid (K3.out w4 hm)
            have SG := Lib.hid (cu_sg hc)
            have c0 : w4.cell? ⟨c, 0, none⟩ = some (.string (bytes l2)) := hc.left
            have hem := em_bytes l2
            clear hm hc T3 K3 cf
            by_cases hl2 : l2 = []
            · have fin := Lib.hid (HW.out _ hR hl2)
              rw [decide_eq_true hl2] at hem
              clear HW HV HU hR hl2
              go_wp2_with fail
              go_meet
              exact ⟨true, rfl, I4, Lib.hid (.inr ⟨rfl, s2, fin.out, SG.out⟩)⟩
            · have hn := Lib.hid (HV.out _ hR hl2)
              rw [decide_eq_false hl2] at hem
              clear HW HV HU hR hl2 SG
              go_wp2_with fail
              go_meet
              exact ⟨false, rfl, I4, Lib.hid (.inl ⟨rfl, hn.out⟩)⟩
        · have T3 := Lib.hid (show Calls _ _ _ _ (PcPost (rdC 12 (l, kS 12)) c W3) from kalone_any sigL g12 c l (kS 12) W3 I3.out.man.t12 X3.out)
          have hw : ∀ y, rdC 12 (l, kS 12) = some y → y.1 = [] → rdK 12 l = some y.2 := fun y e h => by unfold rdK whole; rw [e]; exact if_pos h
          have hv : ∀ y, rdC 12 (l, kS 12) = some y → y.1 ≠ [] → rdK 12 l = none := fun y e h => by unfold rdK whole; rw [e]; exact if_neg h
          have hu : rdC 12 (l, kS 12) = none → rdK 12 l = none := fun e => by unfold rdK whole; rw [e]; rfl
          have HW := Lib.hid hw
          have HV := Lib.hid hv
          have HU := Lib.hid hu
          have cf := I3.out.arr.cell (j := 25) (v := fnC 126 g12) rfl
          unfold fnC at cf
          clear hw hv hu X3 I3 HL
          generalize rdC 12 (l, kS 12) = R at *
          go_wp2_with fail
          cases hR : R with
          | none =>
            rw [hR] at T3
            have hn := Lib.hid (HU.out hR)
            clear HW HV HU hR
            refine T3.out.mono ?_
            rintro e w4 ⟨hm, _, he⟩
            obtain rfl := he rfl
            have I4 := Lib.hid (K3.out w4 hm)
            clear hm T3 K3 cf
            go_wp2_with fail
            go_meet
            exact ⟨false, rfl, I4, Lib.hid (.inl ⟨rfl, hn.out⟩)⟩
          | some y =>
            rw [hR] at T3
            obtain ⟨l2, s2⟩ := y
            refine T3.out.mono ?_
            rintro e w4 ⟨hm, he, _⟩
            obtain ⟨rfl, hc⟩ := he _ rfl
            have I4 := Lib.hid (K3.out w4 hm)
            have SG := Lib.hid (cu_sg hc)
            have c0 : w4.cell? ⟨c, 0, none⟩ = some (.string (bytes l2)) := hc.left
            have hem := em_bytes l2
            clear hm hc T3 K3 cf
            by_cases hl2 : l2 = []
            · have fin := Lib.hid (HW.out _ hR hl2)
              rw [decide_eq_true hl2] at hem
              clear HW HV HU hR hl2
              go_wp2_with fail
              go_meet
              exact ⟨true, rfl, I4, Lib.hid (.inr ⟨rfl, s2, fin.out, SG.out⟩)⟩
            · have hn := Lib.hid (HV.out _ hR hl2)
              rw [decide_eq_false hl2] at hem
              clear HW HV HU hR hl2 SG
              go_wp2_with fail
              go_meet
              exact ⟨false, rfl, I4, Lib.hid (.inl ⟨rfl, hn.out⟩)⟩
      case rest =>
        obtain ⟨bo, rfl, I4, hd⟩ := hcut
        clear X3 I3 K3 HL
        rename World => w4
        cases bo with
        | false =>
          have hn := Lib.hid (fun j (h1 : 1 ≤ j) (h2 : j < k + 1) => if e : j = k then (show rdK j l = none by rcases hd.out with ⟨_, q⟩ | ⟨q, _⟩; exact e ▸ q; cases q) else hno.out j h1 (by omega))
          clear hd RO RN hno
          go_wp2_with fail
          go_roundw
          case rel => exact ⟨k + 1, by omega, by have := hkk.out.2; omega, by go_num, hn, I4⟩
          case measure => have := hkk.out.2; simp [intOf]; omega
        | true =>
          obtain ⟨s2, h2, hs2⟩ : ∃ s2, rdK k l = some s2 ∧ SgAt w4 c 1 s2 := by
            rcases hd.out with ⟨q, _⟩ | ⟨_, q⟩
            · cases q
            · exact q
          have fin := Lib.hid (RO.out _ _ h2)
          have SG := Lib.hid hs2
          clear hd RO RN hno h2 hs2
          go_wp2_with (first | (refine wl_load c 1 s2 (by kernel_rfl) SG.out ?_) | (refine wl_rowS w.heap.size (sgA zS) s2 I4.out.res (by kernel_rfl) (by kernel_rfl) rfl ?_) | fail)
          intro W5 h5 hB5 _
          have H5 := Lib.hid h5
          have B5 := Lib.hid (hB5 _ _ I4.out.bel (Nat.le_refl _))
          clear h5 hB5 I4 SG
          go_wp2_with fail
          refine bodyPost_ret (v := .tuple #[sgv s2, .bool true]) ?_ rfl ⟨s2, true, rfl, B5.out, .inl ⟨fin.out, rfl⟩⟩
          exact res_sg2 rfl (by kernel_rfl) H5.out.sg (by kernel_rfl)
    · obtain rfl : k = 13 := by omega
      have fin := Lib.hid (RN.out (fun j h1 h2 => hno.out j h1 (by omega)))
      clear RN RO hno HL
      go_wp2_with (first | (refine wl_buildS _ zS (by kernel_rfl) ?_) | (refine wl_rowS w.heap.size (sgA zS) zS I.out.res (by kernel_rfl) (by kernel_rfl) rfl ?_) | fail)
      intro W5 h5 hB5 _
      have H5 := Lib.hid h5
      have B5 := Lib.hid (hB5 _ _ I.out.bel (Nat.le_refl _))
      clear h5 hB5 I
      go_wp2_with fail
      refine bodyPost_ret (v := .tuple #[sgv zS, .bool false]) ?_ rfl ⟨zS, false, rfl, B5.out, .inr ⟨fin.out, rfl, rfl⟩⟩
      exact res_sg2 rfl (by kernel_rfl) H5.out.sg (by kernel_rfl)
end Go.Proofs.YtdmedealdhadcaaGreatDoor

namespace Go.Proofs.YtdmedealdhadcaaGreatDoor
open Go.RowKit
theorem sign_none {l : List UInt8} (h : readS l = none) : signV l = (zS, 3) := by unfold signV; rw [h]
theorem sign_ok {l : List UInt8} {s : Sg} (h : readS l = some s) (k : oneE s = 0) : signV l = (s, 0) := by unfold signV; rw [h]; exact if_pos k
theorem sign_no {l : List UInt8} {s : Sg} (h : readS l = some s) (k : ¬ oneE s = 0) : signV l = (zS, oneE s) := by unfold signV; rw [h]; exact if_neg k
def SgPost (l : List UInt8) (w : World) (e : Ending) (w' : World) : Prop := e = .returned (.tuple #[sgv (signV l).1, .int .i64 (signV l).2]) ∧ Below w.heap.size w w'
set_option maxRecDepth 100000 in
set_option maxHeartbeats 8000000 in
theorem psign_any (l : List UInt8) (hl : l.length ≤ 1000000) (w : World) (T : TabS w) : Calls Tryz.prog 13 #[.string (bytes l)] w (SgPost l w) := by
  have BT := Lib.hid (fun V => pbuilt_any l hl V)
  have C := Lib.hid (fun s W (T : TabS W) => pone_any s W T)
  have R0 := Lib.hid (sg_new w zS)
  have B0 := Lib.hid (w_alloc (w_refl w) (sgO zS))
  have T0 := Lib.hid (T.al (sgO zS))
  unfold SgPost
  unfold BtPost at BT
  clear T hl
  go_enter Tryz.func13, Tryz.ntmps13
  go_wp2_with fail
  refine (BT.out _).mono ?_
  rintro e w1 ⟨s, bo, rfl, hb, hr⟩
  have R1 := Lib.hid (show HoldsB w1 w.heap.size 27 (sgA zS) from R0.out.later hb)
  have B1 := Lib.hid (w_below B0.out hb)
  have T1 := Lib.hid (T0.out.later hb)
  clear hb BT R0 B0 T0
  rcases hr with ⟨hr, rfl⟩ | ⟨hr, rfl, rfl⟩
  · have SG1 := Lib.hid (sg_new w1 s)
    have BY := Lib.hid (w_alloc B1.out (sgO s))
    have RY := Lib.hid (R1.out.al (sgO s))
    have TY := Lib.hid (T1.out.al (sgO s))
    clear R1 B1 T1
    by_cases h1 : oneE s = 0
    · have fin := Lib.hid (sign_ok hr h1)
      have P := Lib.hid (show Calls _ _ _ _ _ from C.out s (w1.alloc (sgO s)) TY.out)
      rw [h1] at P
      clear C hr h1
      go_wp2_with (first | (refine wl_store0 w1.heap.size _ s rfl (by kernel_rfl) (by kernel_rfl) rfl ?_) | (refine wl_load w1.heap.size 0 s (by kernel_rfl) SG1.out.sg ?_) | fail)
      refine P.out.mono ?_
      rintro e w2 ⟨rfl, hb⟩
      have SG2 := Lib.hid (SG1.out.later hb).sg
      have BZ := Lib.hid (w_below BY.out hb)
      have RZ := Lib.hid (RY.out.later hb)
      clear hb P SG1 BY RY TY
      go_wp2_with (first | (refine wl_load w1.heap.size 0 s (by kernel_rfl) SG2.out ?_) | (refine wl_rowS w.heap.size (sgA zS) s RZ.out (by kernel_rfl) (by kernel_rfl) rfl ?_) | fail)
      intro W5 h5 hB5 ho
      clear ho
      have H5 := Lib.hid h5
      have B5 := Lib.hid (hB5 _ _ BZ.out (Nat.le_refl _))
      clear h5 hB5
      go_wp2_with fail
      refine bodyPost_ret (v := .tuple #[sgv s, .int .i64 (0)]) ?_ rfl ⟨by rw [fin.out], B5.out⟩
      exact res_sg2 rfl (by kernel_rfl) H5.out.sg (by kernel_rfl)
    · have fin := Lib.hid (sign_no hr h1)
      have P := Lib.hid (show Calls _ _ _ _ _ from C.out s (w1.alloc (sgO s)) TY.out)
      have hne : (oneE s != 0) = true := by simpa using h1
      generalize oneE s = E at *
      clear C hr h1
      go_wp2_with (first | (refine wl_store0 w1.heap.size _ s rfl (by kernel_rfl) (by kernel_rfl) rfl ?_) | (refine wl_load w1.heap.size 0 s (by kernel_rfl) SG1.out.sg ?_) | fail)
      refine P.out.mono ?_
      rintro e w2 ⟨rfl, hb⟩
      have BZ := Lib.hid (w_below BY.out hb)
      have RZ := Lib.hid (RY.out.later hb)
      clear hb P SG1 BY RY TY
      go_wp2_with (first | (refine wl_buildS _ zS (by kernel_rfl) ?_) | (refine wl_rowS w.heap.size (sgA zS) zS RZ.out (by kernel_rfl) (by kernel_rfl) rfl ?_) | fail)
      intro W5 h5 hB5 ho
      clear ho
      have H5 := Lib.hid h5
      have B5 := Lib.hid (hB5 _ _ BZ.out (Nat.le_refl _))
      clear h5 hB5
      go_wp2_with fail
      refine bodyPost_ret (v := .tuple #[sgv zS, .int .i64 (E)]) ?_ rfl ⟨by rw [fin.out], B5.out⟩
      exact res_sg2 rfl (by kernel_rfl) H5.out.sg (by kernel_rfl)
  · have BZ := Lib.hid (w_alloc B1.out (sgO zS))
    have RZ := Lib.hid (R1.out.al (sgO zS))
    have fin := Lib.hid (sign_none hr)
    clear R1 B1 T1 C hr
    · go_wp2_with (first | (refine wl_store0 (x := .tmp 4) w1.heap.size _ zS rfl (by kernel_rfl) (by kernel_rfl) rfl ?_) | (refine wl_buildS _ zS (by kernel_rfl) ?_) | (refine wl_rowS w.heap.size (sgA zS) zS RZ.out (by kernel_rfl) (by kernel_rfl) rfl ?_) | fail)
      intro W5 h5 hB5 ho
      clear ho
      have H5 := Lib.hid h5
      have B5 := Lib.hid (hB5 _ _ BZ.out (Nat.le_refl _))
      clear h5 hB5
      go_wp2_with fail
      refine bodyPost_ret (v := .tuple #[sgv zS, .int .i64 (3)]) ?_ rfl ⟨by rw [fin.out], B5.out⟩
      exact res_sg2 rfl (by kernel_rfl) H5.out.sg (by kernel_rfl)
/-! ### The sign of a word of a text -/
/-- The sign of a word of a text, and the error. -/
def sgnW (x : Wd) : Sg × Int := if x.quoted = true then (zS, 3) else signV x.text.data.toList
theorem sgw_quoted {x : Wd} (h : x.quoted = true) : sgnW x = (zS, 3) := if_pos h
theorem sgw_plain {x : Wd} (h : x.quoted = false) : sgnW x = signV x.text.data.toList := if_neg (by rw [h]; decide)
set_option maxRecDepth 100000 in
set_option maxHeartbeats 8000000 in
theorem psgof_any (x : Wd) (hx : x.text.size ≤ 1000000) (w : World) (T : TabS w) : Calls Tryz.prog 102 #[wv x] w fun e w' => e = .returned (.tuple #[sgv (sgnW x).1, .int .i64 (sgnW x).2]) ∧ Below w.heap.size w w' := by
  obtain ⟨a, t, q⟩ := x
  change t.size ≤ 1000000 at hx
  unfold wv
  have W1 := Lib.hid (HoldsB.new w 101 #[.int .i64 a, .string t, .bool q])
  have B0 := Lib.hid (w_alloc (w_refl w) (.cells #[.int .i64 a, .string t, .bool q] 101))
  have R0 := Lib.hid (sg_new (w.alloc (.cells #[.int .i64 a, .string t, .bool q] 101)) zS)
  rw [World.size_alloc] at R0
  have BB := Lib.hid (w_alloc B0.out (sgO zS))
  cases q with
  | true =>
    have fin := Lib.hid (sgw_quoted (x := ⟨a, t, true⟩) rfl)
    clear B0 T
    have c2 := (W1.out.al zO).cell (j := 2) (v := .bool true) rfl
    generalize sgnW ⟨a, t, true⟩ = R at *
    go_enter Tryz.func102, Tryz.ntmps102
    go_wp2_with (first | (refine wl_buildS _ zS (by kernel_rfl) ?_) | (refine wl_rowS (w.heap.size + 1) (sgA zS) zS R0.out (by kernel_rfl) (by kernel_rfl) rfl ?_) | fail)
    intro W5 h5 hB5 ho
    clear ho
    have H5 := Lib.hid h5
    have B5 := Lib.hid (hB5 _ _ BB.out (Nat.le_succ _))
    clear h5 hB5
    go_wp2_with fail
    refine bodyPost_ret (v := .tuple #[sgv zS, .int .i64 3]) ?_ rfl ⟨by rw [fin.out], B5.out⟩
    exact res_sg2 rfl (by kernel_rfl) H5.out.sg (by kernel_rfl)
  | false =>
    have fin := Lib.hid (sgw_plain (x := ⟨a, t, false⟩) rfl)
    have P := Lib.hid (fun V (TV : TabS V) => psign_any t.data.toList (by simp; omega) V TV)
    rw [data_bytes] at P
    unfold SgPost at P
    have TT := Lib.hid ((T.al (.cells #[.int .i64 a, .string t, .bool false] 101)).al (sgO zS))
    have c1 := (W1.out.al zO).cell (j := 1) (v := .string t) rfl
    have c2 := (W1.out.al zO).cell (j := 2) (v := .bool false) rfl
    change Hid (sgnW ⟨a, t, false⟩ = signV t.data.toList) at fin
    generalize sgnW ⟨a, t, false⟩ = R at *
    generalize signV t.data.toList = sv at *
    obtain ⟨s, er⟩ := sv
    change Hid (∀ V, TabS V → Calls _ _ _ _ fun e w' => e = .returned (.tuple #[sgv s, .int .i64 er]) ∧ Below V.heap.size V w') at P
    clear B0 T hx
    go_enter Tryz.func102, Tryz.ntmps102
    go_wp2_with fail
    refine (P.out _ TT.out).mono ?_
    rintro e w2 ⟨rfl, hb⟩
    have R2 := Lib.hid (R0.out.later hb)
    have B2 := Lib.hid (w_below BB.out hb)
    clear hb P TT W1 R0 BB c1 c2
    go_wp2_with (first | (refine wl_rowS (w.heap.size + 1) (sgA zS) s R2.out (by kernel_rfl) (by kernel_rfl) rfl ?_) | fail)
    intro W5 h5 hB5 ho
    clear ho
    have H5 := Lib.hid h5
    have B5 := Lib.hid (hB5 _ _ B2.out (Nat.le_succ _))
    clear h5 hB5
    go_wp2_with fail
    refine bodyPost_ret (v := .tuple #[sgv s, .int .i64 er]) ?_ rfl ⟨by rw [fin.out], B5.out⟩
    exact res_sg2 rfl (by kernel_rfl) H5.out.sg (by kernel_rfl)
end Go.Proofs.YtdmedealdhadcaaGreatDoor
