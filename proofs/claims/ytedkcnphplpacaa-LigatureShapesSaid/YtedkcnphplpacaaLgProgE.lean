/- The program's isHopeful: whether the notes that the newest one settles are as they should be. -/
import Derived.Test.YtedkcnphplpacaaLgProgD
import Derived.Test.YtedkcnphplpacaaLgRefF
namespace Go.Proofs.Ytedkcnphplpacaa
open Go.RowKit

def hopR (vs : List Int) (l : List Sg) (i : Nat) : Bool := frmP l i && (valP l i == vs.getD i 0)
def hopP (vs : List Int) (l : List Sg) : Bool := (decide (l.length - 1 = 0) || hopR vs l (l.length - 2)) && (!(l.getD (l.length - 1) zS).last || hopR vs l (l.length - 1))

set_option maxRecDepth 100000 in
set_option maxHeartbeats 2000000 in
theorem pisr_any (l : List Sg) (i : Nat) (hi : i < l.length) (hm : l.length ≤ 1000) (hnx : (l.getD i zS).last = true ∨ i + 1 < l.length) (h2 : i = 0 → 2 ≤ l.length) (p : Option Addr) (cap : Nat) (br bl ba bv : Nat) (vs : List Int) (nv : Nat) (hiv : i < nv) (pv : Option Addr) (cv : Nat) (w : World)
    (h1 : HoldsB w bl 23 #[.slice p l.length cap]) (ha : HoldsB w ba 65 #[.slice (some ⟨br, 0, none⟩) 4 4]) (h3 : HoldsB w bv 22 #[.slice pv nv cv]) (hr : RuAt w br) (hs : SlP w 17 p l.length cap (flatG l)) (hv : SlP w 1 pv nv cv (ints vs)) :
    Calls Try.prog 68 #[.int .i64 i, .pointer (some ⟨bl, 0, none⟩), .pointer (some ⟨ba, 0, none⟩), .pointer (some ⟨bv, 0, none⟩)] w fun e w' => e = .returned (.bool (hopR vs l i)) ∧ Below w.heap.size w w' := by
  have f1 := hs.fit
  have f2 := hs.max
  have f3 := hv.fit
  have f4 := hv.max
  obtain ⟨vb, vo, rfl, -, -⟩ := hv.at_ (by omega)
  have H1 := Lib.hid h1
  have H2 := Lib.hid ha
  have H3 := Lib.hid h3
  have HV := Lib.hid hv
  have FR := Lib.hid (fun W (b : Below w.heap.size w W) => pfrm_any l i hi hm hnx p cap W (hs.later b))
  have VL := Lib.hid (fun W (b : Below w.heap.size w W) => pval_any l i hi hm h2 p cap br W (hr.later b) (hs.later b))
  have hR : hopR vs l i = (frmP l i && (valP l i == vs.getD i 0)) := rfl
  have hiv0 : (0 : Int) ≤ i := by omega
  have hiv1 : (i : Int) < nv := by omega
  have hz0 : True := trivial
  obtain ⟨want, hwant⟩ : ∃ z, vs.getD i 0 = z := ⟨_, rfl⟩
  have hcw : ∀ W, SlP W 1 (some ⟨vb, vo, none⟩) nv cv (ints vs) → W.cell? ⟨vb, vo + i, none⟩ = some (.int .i64 want) := fun W hW => by rw [← hwant]; exact int_at hW hiv
  rw [hwant] at hR
  clear h1 ha h3 hv hr hs hnx h2 hi hm hwant
  generalize hopR vs l i = HH at *
  generalize frmP l i = FM at *
  generalize valP l i = vx at *
  cases FM with
  | false =>
    have hB : HH = false := by rw [hR]; rfl
    clear hR VL
    go_enter Try.func68, Try.ntmps68
    go_wp2_with fail
    refine wp_region_held (S := (fun W => W.cell? ⟨bl, 0, none⟩ = some (.slice p l.length cap) ∧ W.cell? ⟨ba, 0, none⟩ = some (.slice (some ⟨br, 0, none⟩) 4 4) ∧ W.cell? ⟨bv, 0, none⟩ = some (.slice (some ⟨vb, vo, none⟩) nv cv) ∧ W.cell? ⟨vb, vo + i, none⟩ = some (.int .i64 want))) (by kernel_rfl) ?_
    change wpAnyH _ _ _ _ _ _ _ _ (World.drew _)
    have FX := Lib.hid (show Below w.heap.size w (World.drew w) from (w_refl w).drew)
    clear hz0
    generalize World.drew w = y at *
    refine wpAnyH_take (i := 0) (v := .slice p l.length cap) rfl (by kernel_rfl) (by kernel_rfl) (by kernel_rfl) (fun _ _ _ h => h) (Or.inl ⟨by kernel_rfl, fun W hW => by (obtain ⟨c1, c2, c3, c4⟩ := hW; go_simp)⟩) ⟨(H1.out.later FX.out).cell (j := 0) rfl, (H2.out.later FX.out).cell (j := 0) rfl, (H3.out.later FX.out).cell (j := 0) rfl, hcw _ (HV.out.later FX.out)⟩ ?_
    refine wpAnyH_take (i := 1) (v := .int .i64 (i : Int)) rfl (by kernel_rfl) (by kernel_rfl) (by kernel_rfl) (fun _ _ _ h => h) (Or.inl ⟨by kernel_rfl, fun _ _ => by go_simp⟩) ⟨(H1.out.later FX.out).cell (j := 0) rfl, (H2.out.later FX.out).cell (j := 0) rfl, (H3.out.later FX.out).cell (j := 0) rfl, hcw _ (HV.out.later FX.out)⟩ ?_
    refine wpAnyH_ready (rs := [2]) (by kernel_rfl) (by simp) ?_
    refine AllReadyH.cons rfl (fun K hK => ?_) AllReadyH.nil
    rw [if_pos (by kernel_rfl)]
    go_simp
    go_at_call 41
    refine (FR.out _ FX.out).mono ?_
    rintro e wn ⟨rfl, hb⟩
    replace FX := Lib.hid (w_below FX.out hb)
    clear hb
    clear FR
    go_simp
    refine hK.out _ _ ⟨(H1.out.later FX.out).cell (j := 0) rfl, (H2.out.later FX.out).cell (j := 0) rfl, (H3.out.later FX.out).cell (j := 0) rfl, hcw _ (HV.out.later FX.out)⟩ (fun _ => ?_)
    clear hK K
    refine wpAnyH_take (i := 3) (v := .bool false) rfl (by kernel_rfl) (by kernel_rfl) (by kernel_rfl) (fun _ _ _ h => h) (Or.inl ⟨by kernel_rfl, fun _ _ => by go_simp⟩) ⟨(H1.out.later FX.out).cell (j := 0) rfl, (H2.out.later FX.out).cell (j := 0) rfl, (H3.out.later FX.out).cell (j := 0) rfl, hcw _ (HV.out.later FX.out)⟩ ?_
    refine wpAnyH_take (i := 4) (v := undef) rfl (by kernel_rfl) (by kernel_rfl) (by kernel_rfl) (fun _ _ _ h => h) (Or.inr ⟨by kernel_rfl, rfl⟩) ⟨(H1.out.later FX.out).cell (j := 0) rfl, (H2.out.later FX.out).cell (j := 0) rfl, (H3.out.later FX.out).cell (j := 0) rfl, hcw _ (HV.out.later FX.out)⟩ ?_
    refine wpAnyH_take (i := 5) (v := undef) rfl (by kernel_rfl) (by kernel_rfl) (by kernel_rfl) (fun _ _ _ h => h) (Or.inr ⟨by kernel_rfl, rfl⟩) ⟨(H1.out.later FX.out).cell (j := 0) rfl, (H2.out.later FX.out).cell (j := 0) rfl, (H3.out.later FX.out).cell (j := 0) rfl, hcw _ (HV.out.later FX.out)⟩ ?_
    refine wpAnyH_take (i := 6) (v := undef) rfl (by kernel_rfl) (by kernel_rfl) (by kernel_rfl) (fun _ _ _ h => h) (Or.inr ⟨by kernel_rfl, rfl⟩) ⟨(H1.out.later FX.out).cell (j := 0) rfl, (H2.out.later FX.out).cell (j := 0) rfl, (H3.out.later FX.out).cell (j := 0) rfl, hcw _ (HV.out.later FX.out)⟩ ?_
    refine wpAnyH_take (i := 7) (v := undef) rfl (by kernel_rfl) (by kernel_rfl) (by kernel_rfl) (fun _ _ _ h => h) (Or.inr ⟨by kernel_rfl, rfl⟩) ⟨(H1.out.later FX.out).cell (j := 0) rfl, (H2.out.later FX.out).cell (j := 0) rfl, (H3.out.later FX.out).cell (j := 0) rfl, hcw _ (HV.out.later FX.out)⟩ ?_
    refine wpAnyH_take (i := 8) (v := undef) rfl (by kernel_rfl) (by kernel_rfl) (by kernel_rfl) (fun _ _ _ h => h) (Or.inr ⟨by kernel_rfl, rfl⟩) ⟨(H1.out.later FX.out).cell (j := 0) rfl, (H2.out.later FX.out).cell (j := 0) rfl, (H3.out.later FX.out).cell (j := 0) rfl, hcw _ (HV.out.later FX.out)⟩ ?_
    refine wpAnyH_take (i := 9) (v := undef) rfl (by kernel_rfl) (by kernel_rfl) (by kernel_rfl) (fun _ _ _ h => h) (Or.inr ⟨by kernel_rfl, rfl⟩) ⟨(H1.out.later FX.out).cell (j := 0) rfl, (H2.out.later FX.out).cell (j := 0) rfl, (H3.out.later FX.out).cell (j := 0) rfl, hcw _ (HV.out.later FX.out)⟩ ?_
    refine wpAnyH_take (i := 10) (v := undef) rfl (by kernel_rfl) (by kernel_rfl) (by kernel_rfl) (fun _ _ _ h => h) (Or.inr ⟨by kernel_rfl, rfl⟩) ⟨(H1.out.later FX.out).cell (j := 0) rfl, (H2.out.later FX.out).cell (j := 0) rfl, (H3.out.later FX.out).cell (j := 0) rfl, hcw _ (HV.out.later FX.out)⟩ ?_
    refine wpAnyH_take (i := 11) (v := undef) rfl (by kernel_rfl) (by kernel_rfl) (by kernel_rfl) (fun _ _ _ h => h) (Or.inr ⟨by kernel_rfl, rfl⟩) ⟨(H1.out.later FX.out).cell (j := 0) rfl, (H2.out.later FX.out).cell (j := 0) rfl, (H3.out.later FX.out).cell (j := 0) rfl, hcw _ (HV.out.later FX.out)⟩ ?_
    refine wpAnyH_take (i := 12) (v := undef) rfl (by kernel_rfl) (by kernel_rfl) (by kernel_rfl) (fun _ _ _ h => h) (Or.inr ⟨by kernel_rfl, rfl⟩) ⟨(H1.out.later FX.out).cell (j := 0) rfl, (H2.out.later FX.out).cell (j := 0) rfl, (H3.out.later FX.out).cell (j := 0) rfl, hcw _ (HV.out.later FX.out)⟩ ?_
    refine wpAnyH_take (i := 13) (v := .bool false) rfl (by kernel_rfl) (by kernel_rfl) (by kernel_rfl) (fun _ _ _ h => h) (Or.inl ⟨by kernel_rfl, fun _ _ => by go_simp⟩) ⟨(H1.out.later FX.out).cell (j := 0) rfl, (H2.out.later FX.out).cell (j := 0) rfl, (H3.out.later FX.out).cell (j := 0) rfl, hcw _ (HV.out.later FX.out)⟩ ?_
    refine wpAnyH_take (i := 14) (v := .bool false) rfl (by kernel_rfl) (by kernel_rfl) (by kernel_rfl) (fun _ _ _ h => h) (Or.inl ⟨by kernel_rfl, fun _ _ => by go_simp⟩) ⟨(H1.out.later FX.out).cell (j := 0) rfl, (H2.out.later FX.out).cell (j := 0) rfl, (H3.out.later FX.out).cell (j := 0) rfl, hcw _ (HV.out.later FX.out)⟩ ?_
    refine wpAnyH_done (by kernel_rfl) ?_ _
    go_wp2_with fail
    try simp only [Act.put, List.getElem_toArray, List.getElem_cons_succ, List.getElem_cons_zero, List.setIfInBounds_toArray, List.set_cons_succ, List.set_cons_zero]
    go_ret
    exact ⟨by rw [hB]; rfl, FX.out⟩
  | true =>
    have hB : HH = (vx == want) := by rw [hR]; rfl
    clear hR
    go_enter Try.func68, Try.ntmps68
    go_wp2_with fail
    refine wp_region_held (S := (fun W => W.cell? ⟨bl, 0, none⟩ = some (.slice p l.length cap) ∧ W.cell? ⟨ba, 0, none⟩ = some (.slice (some ⟨br, 0, none⟩) 4 4) ∧ W.cell? ⟨bv, 0, none⟩ = some (.slice (some ⟨vb, vo, none⟩) nv cv) ∧ W.cell? ⟨vb, vo + i, none⟩ = some (.int .i64 want))) (by kernel_rfl) ?_
    change wpAnyH _ _ _ _ _ _ _ _ (World.drew _)
    have FX := Lib.hid (show Below w.heap.size w (World.drew w) from (w_refl w).drew)
    clear hz0
    generalize World.drew w = y at *
    refine wpAnyH_take (i := 0) (v := .slice p l.length cap) rfl (by kernel_rfl) (by kernel_rfl) (by kernel_rfl) (fun _ _ _ h => h) (Or.inl ⟨by kernel_rfl, fun W hW => by (obtain ⟨c1, c2, c3, c4⟩ := hW; go_simp)⟩) ⟨(H1.out.later FX.out).cell (j := 0) rfl, (H2.out.later FX.out).cell (j := 0) rfl, (H3.out.later FX.out).cell (j := 0) rfl, hcw _ (HV.out.later FX.out)⟩ ?_
    refine wpAnyH_take (i := 1) (v := .int .i64 (i : Int)) rfl (by kernel_rfl) (by kernel_rfl) (by kernel_rfl) (fun _ _ _ h => h) (Or.inl ⟨by kernel_rfl, fun _ _ => by go_simp⟩) ⟨(H1.out.later FX.out).cell (j := 0) rfl, (H2.out.later FX.out).cell (j := 0) rfl, (H3.out.later FX.out).cell (j := 0) rfl, hcw _ (HV.out.later FX.out)⟩ ?_
    refine wpAnyH_ready (rs := [2]) (by kernel_rfl) (by simp) ?_
    refine AllReadyH.cons rfl (fun K hK => ?_) AllReadyH.nil
    rw [if_pos (by kernel_rfl)]
    go_simp
    go_at_call 41
    refine (FR.out _ FX.out).mono ?_
    rintro e wn ⟨rfl, hb⟩
    replace FX := Lib.hid (w_below FX.out hb)
    clear hb
    clear FR
    go_simp
    refine hK.out _ _ ⟨(H1.out.later FX.out).cell (j := 0) rfl, (H2.out.later FX.out).cell (j := 0) rfl, (H3.out.later FX.out).cell (j := 0) rfl, hcw _ (HV.out.later FX.out)⟩ (fun _ => ?_)
    clear hK K
    refine wpAnyH_take (i := 3) (v := .bool true) rfl (by kernel_rfl) (by kernel_rfl) (by kernel_rfl) (fun _ _ _ h => h) (Or.inl ⟨by kernel_rfl, fun _ _ => by go_simp⟩) ⟨(H1.out.later FX.out).cell (j := 0) rfl, (H2.out.later FX.out).cell (j := 0) rfl, (H3.out.later FX.out).cell (j := 0) rfl, hcw _ (HV.out.later FX.out)⟩ ?_
    refine wpAnyH_take (i := 4) (v := .slice (some ⟨br, 0, none⟩) 4 4) rfl (by kernel_rfl) (by kernel_rfl) (by kernel_rfl) (fun _ _ _ h => h) (Or.inl ⟨by kernel_rfl, fun W hW => by (obtain ⟨c1, c2, c3, c4⟩ := hW; go_simp)⟩) ⟨(H1.out.later FX.out).cell (j := 0) rfl, (H2.out.later FX.out).cell (j := 0) rfl, (H3.out.later FX.out).cell (j := 0) rfl, hcw _ (HV.out.later FX.out)⟩ ?_
    refine wpAnyH_take (i := 5) (v := .slice p l.length cap) rfl (by kernel_rfl) (by kernel_rfl) (by kernel_rfl) (fun _ _ _ h => h) (Or.inl ⟨by kernel_rfl, fun W hW => by (obtain ⟨c1, c2, c3, c4⟩ := hW; go_simp)⟩) ⟨(H1.out.later FX.out).cell (j := 0) rfl, (H2.out.later FX.out).cell (j := 0) rfl, (H3.out.later FX.out).cell (j := 0) rfl, hcw _ (HV.out.later FX.out)⟩ ?_
    refine wpAnyH_take (i := 6) (v := .int .i64 (i : Int)) rfl (by kernel_rfl) (by kernel_rfl) (by kernel_rfl) (fun _ _ _ h => h) (Or.inl ⟨by kernel_rfl, fun _ _ => by go_simp⟩) ⟨(H1.out.later FX.out).cell (j := 0) rfl, (H2.out.later FX.out).cell (j := 0) rfl, (H3.out.later FX.out).cell (j := 0) rfl, hcw _ (HV.out.later FX.out)⟩ ?_
    refine wpAnyH_take (i := 8) (v := .slice (some ⟨vb, vo, none⟩) nv cv) rfl (by kernel_rfl) (by kernel_rfl) (by kernel_rfl) (fun _ _ _ h => h) (Or.inl ⟨by kernel_rfl, fun W hW => by (obtain ⟨c1, c2, c3, c4⟩ := hW; go_simp)⟩) ⟨(H1.out.later FX.out).cell (j := 0) rfl, (H2.out.later FX.out).cell (j := 0) rfl, (H3.out.later FX.out).cell (j := 0) rfl, hcw _ (HV.out.later FX.out)⟩ ?_
    refine wpAnyH_take (i := 9) (v := .int .i64 (i : Int)) rfl (by kernel_rfl) (by kernel_rfl) (by kernel_rfl) (fun _ _ _ h => h) (Or.inl ⟨by kernel_rfl, fun _ _ => by go_simp⟩) ⟨(H1.out.later FX.out).cell (j := 0) rfl, (H2.out.later FX.out).cell (j := 0) rfl, (H3.out.later FX.out).cell (j := 0) rfl, hcw _ (HV.out.later FX.out)⟩ ?_
    refine wpAnyH_take (i := 10) (v := .pointer (some ⟨vb, vo + i, none⟩)) rfl (by kernel_rfl) (by kernel_rfl) (by kernel_rfl) (fun _ _ _ h => h) (Or.inl ⟨by kernel_rfl, fun _ _ => by go_simp⟩) ⟨(H1.out.later FX.out).cell (j := 0) rfl, (H2.out.later FX.out).cell (j := 0) rfl, (H3.out.later FX.out).cell (j := 0) rfl, hcw _ (HV.out.later FX.out)⟩ ?_
    refine wpAnyH_take (i := 11) (v := .int .i64 want) rfl (by kernel_rfl) (by kernel_rfl) (by kernel_rfl) (fun _ _ _ h => h) (Or.inl ⟨by kernel_rfl, fun W hW => by (obtain ⟨c1, c2, c3, c4⟩ := hW; go_simp)⟩) ⟨(H1.out.later FX.out).cell (j := 0) rfl, (H2.out.later FX.out).cell (j := 0) rfl, (H3.out.later FX.out).cell (j := 0) rfl, hcw _ (HV.out.later FX.out)⟩ ?_
    refine wpAnyH_ready (rs := [7]) (by kernel_rfl) (by simp) ?_
    refine AllReadyH.cons rfl (fun K hK => ?_) AllReadyH.nil
    rw [if_pos (by kernel_rfl)]
    go_simp
    go_at_call 44
    refine (VL.out _ FX.out).mono ?_
    rintro e wn ⟨rfl, hb⟩
    replace FX := Lib.hid (w_below FX.out hb)
    clear hb
    clear VL
    go_simp
    refine hK.out _ _ ⟨(H1.out.later FX.out).cell (j := 0) rfl, (H2.out.later FX.out).cell (j := 0) rfl, (H3.out.later FX.out).cell (j := 0) rfl, hcw _ (HV.out.later FX.out)⟩ (fun _ => ?_)
    clear hK K
    refine wpAnyH_take (i := 12) (v := .bool (vx == want)) rfl (by kernel_rfl) (by kernel_rfl) (by kernel_rfl) (fun _ _ _ h => h) (Or.inl ⟨by kernel_rfl, fun _ _ => by go_simp⟩) ⟨(H1.out.later FX.out).cell (j := 0) rfl, (H2.out.later FX.out).cell (j := 0) rfl, (H3.out.later FX.out).cell (j := 0) rfl, hcw _ (HV.out.later FX.out)⟩ ?_
    refine wpAnyH_take (i := 13) (v := .bool (vx == want)) rfl (by kernel_rfl) (by kernel_rfl) (by kernel_rfl) (fun _ _ _ h => h) (Or.inl ⟨by kernel_rfl, fun _ _ => by go_simp⟩) ⟨(H1.out.later FX.out).cell (j := 0) rfl, (H2.out.later FX.out).cell (j := 0) rfl, (H3.out.later FX.out).cell (j := 0) rfl, hcw _ (HV.out.later FX.out)⟩ ?_
    refine wpAnyH_take (i := 14) (v := .bool (vx == want)) rfl (by kernel_rfl) (by kernel_rfl) (by kernel_rfl) (fun _ _ _ h => h) (Or.inl ⟨by kernel_rfl, fun _ _ => by go_simp⟩) ⟨(H1.out.later FX.out).cell (j := 0) rfl, (H2.out.later FX.out).cell (j := 0) rfl, (H3.out.later FX.out).cell (j := 0) rfl, hcw _ (HV.out.later FX.out)⟩ ?_
    refine wpAnyH_done (by kernel_rfl) ?_ _
    go_wp2_with fail
    try simp only [Act.put, List.getElem_toArray, List.getElem_cons_succ, List.getElem_cons_zero, List.setIfInBounds_toArray, List.set_cons_succ, List.set_cons_zero]
    go_ret
    exact ⟨by rw [hB]; rfl, FX.out⟩

set_option maxRecDepth 100000 in
set_option maxHeartbeats 2000000 in
theorem phop_any (l : List Sg) (hl1 : 1 ≤ l.length) (hm : l.length ≤ 1000) (hl2 : (l.getD (l.length - 1) zS).last = true → 2 ≤ l.length) (p : Option Addr) (cap br : Nat) (vs : List Int) (nv : Nat) (hnv : l.length ≤ nv) (pv : Option Addr) (cv : Nat) (w : World) (hr : RuAt w br) (hs : SlP w 17 p l.length cap (flatG l)) (hv : SlP w 1 pv nv cv (ints vs)) :
    Calls Try.prog 64 #[.slice (some ⟨br, 0, none⟩) 4 4, .slice p l.length cap, .slice pv nv cv] w fun e w' => e = .returned (.bool (hopP vs l)) ∧ Below w.heap.size w w' := by
  have f1 := hs.fit
  have f2 := hs.max
  have hH : hopP vs l = ((decide (l.length - 1 = 0) || hopR vs l (l.length - 2)) && (!(l.getD (l.length - 1) zS).last || hopR vs l (l.length - 1))) := rfl
  obtain ⟨w3, hw3⟩ : ∃ w3, ((w.alloc (.cells #[.slice (some ⟨br, 0, none⟩) 4 4] 65)).alloc (.cells #[.slice p l.length cap] 23)).alloc (.cells #[.slice pv nv cv] 22) = w3 := ⟨_, rfl⟩
  have B0 := Lib.hid (show Below w.heap.size w w3 from hw3 ▸ w_alloc (w_alloc (w_alloc (w_refl w) _) _) _)
  have HA := Lib.hid (show HoldsB w3 w.heap.size 65 #[.slice (some ⟨br, 0, none⟩) 4 4] from hw3 ▸ ((HoldsB.new w _ _).al _).al _)
  have HL := Lib.hid (show HoldsB w3 (w.heap.size + 1) 23 #[.slice p l.length cap] from by
    have := (HoldsB.new (w.alloc (.cells #[.slice (some ⟨br, 0, none⟩) 4 4] 65)) 23 #[.slice p l.length cap]).al (.cells #[.slice pv nv cv] 22)
    rw [World.size_alloc, hw3] at this
    exact this)
  have HV := Lib.hid (show HoldsB w3 (w.heap.size + 1 + 1) 22 #[.slice pv nv cv] from by
    have := HoldsB.new ((w.alloc (.cells #[.slice (some ⟨br, 0, none⟩) 4 4] 65)).alloc (.cells #[.slice p l.length cap] 23)) 22 #[.slice pv nv cv]
    rw [World.size_alloc, World.size_alloc, hw3] at this
    exact this)
  have IR := Lib.hid (show ∀ i, i < l.length → ((l.getD i zS).last = true ∨ i + 1 < l.length) → (i = 0 → 2 ≤ l.length) → ∀ W, Below w3.heap.size w3 W → Calls Try.prog 68 #[.int .i64 i, .pointer (some ⟨w.heap.size + 1, 0, none⟩), .pointer (some ⟨w.heap.size, 0, none⟩), .pointer (some ⟨w.heap.size + 1 + 1, 0, none⟩)] W fun e w' => e = .returned (.bool (hopR vs l i)) ∧ Below W.heap.size W w' from
    fun i hi hnx h2 W b => pisr_any l i hi hm hnx h2 p cap br _ _ _ vs nv (by omega) pv cv W (HL.out.later b) (HA.out.later b) (HV.out.later b) ((hr.later B0.out).later b) ((hs.later B0.out).later b) ((hv.later B0.out).later b))
  have HSl := Lib.hid (fun W (b : Below w3.heap.size w3 W) => (hs.later B0.out).later b)
  obtain ⟨n, hn⟩ : ∃ n, l.length = n + 1 := ⟨l.length - 1, by omega⟩
  rw [hn, Nat.add_sub_cancel] at hH hl2
  rw [show n + 1 - 2 = n - 1 by omega] at hH
  have xn : IntKind.i64.wrap ((l.length : Int) - 1) = (n : Int) := by rw [hn, IntWalk.i64_in _ (by omega)]; omega
  have hn0 : (0 : Int) ≤ n := by omega
  have hn1 : (n : Int) < l.length := by omega
  have hnl : n < l.length := by omega
  obtain ⟨s, hse⟩ : ∃ s, l.getD n zS = s := ⟨_, rfl⟩
  have IRn := Lib.hid (show s.last = true → ∀ W, Below w3.heap.size w3 W → Calls Try.prog 68 #[.int .i64 n, .pointer (some ⟨w.heap.size + 1, 0, none⟩), .pointer (some ⟨w.heap.size, 0, none⟩), .pointer (some ⟨w.heap.size + 1 + 1, 0, none⟩)] W fun e w' => e = .returned (.bool (hopR vs l n)) ∧ Below W.heap.size W w' from
    fun hla => IR.out n hnl (.inl (hse ▸ hla)) (fun _ => by rw [hn]; exact hl2 (hse ▸ hla)))
  have IRp := Lib.hid (show ∀ j, n = j + 1 → ∀ W, Below w3.heap.size w3 W → Calls Try.prog 68 #[.int .i64 j, .pointer (some ⟨w.heap.size + 1, 0, none⟩), .pointer (some ⟨w.heap.size, 0, none⟩), .pointer (some ⟨w.heap.size + 1 + 1, 0, none⟩)] W fun e w' => e = .returned (.bool (hopR vs l (n - 1))) ∧ Below W.heap.size W w' from
    fun j hj => by
      have := IR.out (n - 1) (by omega) (.inr (by omega)) (fun _ => by omega)
      rw [show n - 1 = j by omega] at this ⊢
      exact this)
  have HSG := Lib.hid (show ∀ W, Below w3.heap.size w3 W → ∃ b off, p = some ⟨b, off, none⟩ ∧ SgAt W b (off + n * 17) s from fun W b => by
    obtain ⟨b', off, e, _, hx⟩ := (HSl.out W b).sg (sg_some hnl)
    rw [hse] at hx
    exact ⟨b', off, e, hx⟩)
  rw [hse] at hH
  clear IR hs hv hr hl2 hse HSl HA hn hl1 hm hnv
  generalize hopP vs l = HH at *
  generalize hopR vs l n = Rn at *
  generalize hopR vs l (n - 1) = Rp at *
  have HH1 := Lib.hid hH
  clear hH
  have l0 := HL.out.cell (j := 0) rfl
  by_cases hz : n = 0
  · have hz1 : ((n : Int) == 0) = true := by simp; omega
    rw [decide_eq_true hz, Bool.true_or, Bool.true_and] at HH1
    obtain ⟨b, off, rfl, hsg⟩ := HSG.out w3 (w_refl w3)
    have s7 := hsg.e7
    clear hsg HSG IRp hz
    cases hla : s.last with
    | false =>
      rw [hla] at s7 HH1
      have hB := HH1.out
      subst hw3
      clear HH1 IRn
      go_enter Try.func64, Try.ntmps64
      go_wp2_with fail
      go_ret
      exact ⟨by rw [hB]; rfl, B0.out⟩
    | true =>
      rw [hla] at s7 HH1
      have hB := HH1.out
      have R := Lib.hid (IRn.out hla _ (w_refl w3))
      subst hw3
      clear HH1 IRn
      go_enter Try.func64, Try.ntmps64
      go_wp2_with fail
      refine R.out.mono ?_
      rintro e w4 ⟨rfl, hb⟩
      have B1 := Lib.hid (w_below B0.out hb)
      clear hb R
      go_wp2_with fail
      go_ret
      exact ⟨by rw [hB]; rfl, B1.out⟩
  · have hz1 : ((n : Int) == 0) = false := by simp; omega
    rw [decide_eq_false hz, Bool.false_or] at HH1
    obtain ⟨j, hj⟩ : ∃ j, n = j + 1 := ⟨n - 1, by omega⟩
    have xj : IntKind.i64.wrap ((n : Int) - 1) = (j : Int) := by rw [IntWalk.i64_in _ (by omega)]; omega
    have R := Lib.hid (IRp.out j hj _ (w_refl w3))
    clear IRp hz
    cases Rp with
    | false =>
      have hB := HH1.out
      subst hw3
      clear HH1 IRn HSG hj
      go_enter Try.func64, Try.ntmps64
      go_wp2_with fail
      refine R.out.mono ?_
      rintro e w4 ⟨rfl, hb⟩
      have B1 := Lib.hid (w_below B0.out hb)
      clear hb R
      go_wp2_with fail
      go_ret
      exact ⟨by rw [hB]; rfl, B1.out⟩
    | true =>
      rw [Bool.true_and] at HH1
      cases hla : s.last with
      | false =>
        rw [hla] at HH1
        have hB := HH1.out
        clear HH1 IRn hj
        go_enter Try.func64, Try.ntmps64
        go_wp2_with fail
        refine R.out.mono ?_
        rintro e w4 ⟨rfl, hb⟩
        have B1 := Lib.hid (w_below B0.out hb)
        obtain ⟨b, off, rfl, hsg⟩ := HSG.out w4 hb
        have s7 := hsg.e7
        have l4 := (HL.out.later hb).cell (j := 0) rfl
        rw [hla] at s7
        clear hb R hsg HSG l0 hw3
        go_wp2_with fail
        go_ret
        exact ⟨by rw [hB]; rfl, B1.out⟩
      | true =>
        rw [hla] at HH1
        have hB := HH1.out
        clear HH1 hj
        have R2 := Lib.hid (IRn.out hla)
        clear IRn
        go_enter Try.func64, Try.ntmps64
        go_wp2_with fail
        refine R.out.mono ?_
        rintro e w4 ⟨rfl, hb⟩
        have B1 := Lib.hid (w_below B0.out hb)
        obtain ⟨b, off, rfl, hsg⟩ := HSG.out w4 hb
        have s7 := hsg.e7
        have l4 := (HL.out.later hb).cell (j := 0) rfl
        rw [hla] at s7
        have R3 := Lib.hid (R2.out _ hb)
        clear hb R hsg HSG l0 hw3 R2
        go_wp2_with fail
        refine R3.out.mono ?_
        rintro e w5 ⟨rfl, hb⟩
        replace B1 := Lib.hid (w_below B1.out hb)
        clear hb R3
        go_wp2_with fail
        go_ret
        exact ⟨by rw [hB]; rfl, B1.out⟩

end Go.Proofs.Ytedkcnphplpacaa
