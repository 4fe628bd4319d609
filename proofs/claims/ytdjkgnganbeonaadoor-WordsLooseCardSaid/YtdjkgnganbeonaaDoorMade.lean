/- The rows that the statements make of numbers: made, for every list of numbers. -/
import Derived.Test.YtdjkgnganbeonaaDoorMadeI
import Derived.Deep.AppendLies
import Derived.Deep.RegionLaw
import Derived.Deep.DeepCutAuto
namespace Go.Proofs.YtdjkgnganbeonaaDoor
open Go.RowKit

theorem txt_ok : ∀ j, j < 13 → okW ⟨0, txts.getD j ⟨#[]⟩, true⟩ = true ∧ (txts.getD j ⟨#[]⟩).size ≤ 6 := by decide +kernel

theorem txt_cases : ∀ j, j < 13 → txts.getD j ⟨#[]⟩ = ⟨#[97]⟩ ∨ txts.getD j ⟨#[]⟩ = ⟨#[98, 52]⟩ ∨ txts.getD j ⟨#[]⟩ = ⟨#[115, 45, 50, 42]⟩ ∨ txts.getD j ⟨#[]⟩ = ⟨#[40, 79, 41, 124]⟩ ∨ txts.getD j ⟨#[]⟩ = ⟨#[51, 47, 50]⟩ ∨ txts.getD j ⟨#[]⟩ = ⟨#[35]⟩ ∨ txts.getD j ⟨#[]⟩ = ⟨#[126]⟩ ∨
    txts.getD j ⟨#[]⟩ = ⟨#[67, 97, 110, 116, 117, 115]⟩ ∨ txts.getD j ⟨#[]⟩ = ⟨#[120, 59]⟩ ∨ txts.getD j ⟨#[]⟩ = ⟨#[97, 32, 98]⟩ ∨ txts.getD j ⟨#[]⟩ = ⟨#[]⟩ ∨ txts.getD j ⟨#[]⟩ = ⟨#[92]⟩ ∨ txts.getD j ⟨#[]⟩ = ⟨#[125]⟩ := by decide +kernel
theorem small_div {z : Int} (n : Int) (hn : 2 ≤ n.natAbs) (h : -9223372036854775808 ≤ z ∧ z ≤ 9223372036854775807) : -9223372036854775808 ≤ z.tdiv n ∧ z.tdiv n ≤ 9223372036854775807 := by
  have h1 : (z.tdiv n).natAbs ≤ z.natAbs / 2 := by
    rw [Int.natAbs_tdiv]
    exact Nat.div_le_div_left hn (by decide)
  omega
theorem mod_nat (z : Int) (n : Nat) (hn : 0 < n) : ∃ m : Nat, m < n ∧ z % (n : Int) = (m : Int) := by
  have h0 := Int.emod_nonneg z (show (n : Int) ≠ 0 by omega)
  have h1 := Int.emod_lt_of_pos z (show (0 : Int) < n by omega)
  exact ⟨(z % (n : Int)).toNat, by omega, by omega⟩

def MadePost (w : World) (e : Ending) (w' : World) : Prop := ∃ v rs, e = .returned v ∧ RowsV w' v rs ∧ MadeR rs ∧ Below w.heap.size w w'

set_option maxRecDepth 100000 in
set_option maxHeartbeats 4000000 in
theorem made_any (p : Option Addr) (cap : Nat) (zs : List Int) (w : World) (hp : IntsP w p cap zs) : Calls Tryd.prog 28 #[.slice p zs.length cap] w (MadePost w) := by
  have HP := Lib.hid hp
  have f1 := hp.fit
  have f2 := hp.max
  have hst := Lib.hid (MInv.start w 9)
  obtain ⟨i0, hi0, hz0, hz1, hz2⟩ := info_parts info_word
  obtain ⟨j0, hj0, hy0, hy1, hy2⟩ := info_parts info_row
  clear hp
  go_enter Tryd.func28, Tryd.ntmps28
  go_wp2_with fail
  go_loopw [4, 6] (fun u i wr => ∃ (k : Nat) (acc : List Rw) (ws : List Wd) (vr : Value), k ≤ zs.length ∧ i = .int .i64 k ∧ acc.length ≤ 12 ∧ ws.length ≤ 7 ∧ (∃ q c, u = .slice q acc.length c) ∧ (∃ q c, vr = .slice q ws.length c) ∧ Hid (MInv w wr u vr acc ws)) (fun _ i _ => zs.length - (intOf i).toNat)
  case atStart => exact ⟨0, [], [], .slice none 0 0, by omega, rfl, by simp, by simp, ⟨none, 0, rfl⟩, ⟨none, 0, rfl⟩, hst⟩
  case round =>
    obtain ⟨k, acc, ws, vr, hk, rfl, hacc, hws, ⟨q4, c4, rfl⟩, ⟨qr, cr, rfl⟩, hinv⟩ := hrel
    by_cases hgo : k < zs.length ∧ acc.length < 12
    · obtain ⟨hlt, hal⟩ := hgo
      obtain ⟨b, off, rfl, hbw, ht⟩ := HP.out.at_ (by omega)
      have hzb := HP.out.bds k hlt
      have C0 := Lib.hid (fun W (h : Below w.heap.size w W) => show W.cell? ⟨b, off + k, none⟩ = some (.int .i64 (zs.getD k 0)) from (h.cell (p := ⟨b, off + k, none⟩) hbw).trans (ht k hlt))
      have c0 := C0.out _ hinv.out.bel
      have hbl : b < wr.heap.size := Nat.lt_of_lt_of_le hbw hinv.out.bel.size
      clear ht
      generalize zs.getD k 0 = z at *
      obtain ⟨m, hm, hme⟩ := mod_nat z 13 (by decide)
      have ct := hinv.out.tab m hm
      have htx := Lib.hid (txt_ok m hm)
      have htc := Lib.hid (txt_cases m hm)
      generalize txts.getD m ⟨#[]⟩ = s at *
      have hme' := Lib.hid hme
      have M1 := Lib.hid (fun W => mod_any z 13 W hzb.1 hzb.2 (by decide) (by decide))
      have hz16 := small_div 16 (by decide) hzb
      have hz64 := small_div 64 (by decide) hzb
      have M2 := Lib.hid (fun W => mod_any (z.tdiv 16) 4 W hz16.1 hz16.2 (by decide) (by decide))
      have M3 := Lib.hid (fun W => mod_any (z.tdiv 64) 3 W hz64.1 hz64.2 (by decide) (by decide))
      rw [show ((13 : Nat) : Int) = 13 from rfl] at hme
      rw [hme] at M1
      clear hme hme'
      obtain ⟨hz1a, hz1b⟩ := hzb
      obtain ⟨hz2a, hz2b⟩ := hz16
      obtain ⟨hz3a, hz3b⟩ := hz64
      have wr16 : IntKind.i64.wrap (z.tdiv 16) = z.tdiv 16 := IntWalk.i64_in _ ⟨hz2a, hz2b⟩
      have wr64 : IntKind.i64.wrap (z.tdiv 64) = z.tdiv 64 := IntWalk.i64_in _ ⟨hz3a, hz3b⟩
      generalize z.tdiv 16 % 4 = n2 at *
      generalize z.tdiv 64 % 3 = n3 at *
      go_wp2_with fail
      refine (M1.out _).mono ?_
      rintro e w1 ⟨rfl, rfl⟩
      go_upto_region 8 with (fail)
      go_cut [8] (fun c wc => ∃ bd, c = .bool bd ∧ Hid (bd = false → okW ⟨0, s, false⟩ = true) ∧ wc = wr)
      case first =>
        rcases htc.out with rfl | rfl | rfl | rfl | rfl | rfl | rfl | rfl | rfl | rfl | rfl | rfl | rfl
        all_goals
          clear htc htx
          go_wp2_with fail
          go_meet
          exact ⟨_, rfl, Lib.hid (by decide +kernel), rfl⟩
      case rest =>
        obtain ⟨bd, rfl, hbd, hwc⟩ := hcut
        obtain rfl := hwc.symm
        clear hwc
        clear htc
        obtain ⟨vs, hou, hall⟩ := hinv.out.out
        have hbz := hinv.out.big
        have hbz1 : w.heap.size + 1 < wr.heap.size := by omega
        have r1 := hinv.out.r1
        have rf1 := hinv.out.f1
        have ROW := Lib.hid hinv.out.row
        go_upto_region 9 with (fail)
        go_cut [] (fun wc => ∃ (x : Wd) (g c : Nat), Hid (MInv w wc (.slice q4 acc.length c4) (.slice (some ⟨g, 0, none⟩) (ws.length + 1) c) acc (ws ++ [x])))
        case first =>
          clear hall hou
          cases bd with
          | true =>
            refine wp_region_any (by kernel_rfl) ?_
            change wpAny _ _ _ _ _ _ _ (World.drew _)
            refine wpAny_take (i := 0) (v := .pointer (some ⟨w.heap.size + 1, 1, none⟩)) rfl (by kernel_rfl) (by kernel_rfl) (by kernel_rfl) (fun _ _ _ h => h) (Or.inl ⟨by kernel_rfl, fun _ => by go_simp⟩) ?_
            refine wpAny_take (i := 2) (v := .string s) rfl (by kernel_rfl) (by kernel_rfl) (by kernel_rfl) (fun _ _ _ h => h) (Or.inl ⟨by kernel_rfl, fun _ => by go_simp⟩) ?_
            refine wpAny_take (i := 3) (v := .bool true) rfl (by kernel_rfl) (by kernel_rfl) (by kernel_rfl) (fun _ _ _ h => h) (Or.inl ⟨by kernel_rfl, fun _ => by go_simp⟩) ?_
            refine wpAny_take (i := 4) (v := .bool true) rfl (by kernel_rfl) (by kernel_rfl) (by kernel_rfl) (fun _ _ _ h => h) (Or.inl ⟨by kernel_rfl, fun _ => by go_simp⟩) ?_
            refine wpAny_take (i := 5) (v := undef) rfl (by kernel_rfl) (by kernel_rfl) (by kernel_rfl) (fun _ _ _ h => h) (Or.inr ⟨by kernel_rfl, rfl⟩) ?_
            refine wpAny_take (i := 6) (v := undef) rfl (by kernel_rfl) (by kernel_rfl) (by kernel_rfl) (fun _ _ _ h => h) (Or.inr ⟨by kernel_rfl, rfl⟩) ?_
            refine wpAny_take (i := 7) (v := undef) rfl (by kernel_rfl) (by kernel_rfl) (by kernel_rfl) (fun _ _ _ h => h) (Or.inr ⟨by kernel_rfl, rfl⟩) ?_
            refine wpAny_take (i := 8) (v := undef) rfl (by kernel_rfl) (by kernel_rfl) (by kernel_rfl) (fun _ _ _ h => h) (Or.inr ⟨by kernel_rfl, rfl⟩) ?_
            refine wpAny_take (i := 9) (v := undef) rfl (by kernel_rfl) (by kernel_rfl) (by kernel_rfl) (fun _ _ _ h => h) (Or.inr ⟨by kernel_rfl, rfl⟩) ?_
            refine wpAny_take (i := 10) (v := undef) rfl (by kernel_rfl) (by kernel_rfl) (by kernel_rfl) (fun _ _ _ h => h) (Or.inr ⟨by kernel_rfl, rfl⟩) ?_
            refine wpAny_take (i := 11) (v := undef) rfl (by kernel_rfl) (by kernel_rfl) (by kernel_rfl) (fun _ _ _ h => h) (Or.inr ⟨by kernel_rfl, rfl⟩) ?_
            refine wpAny_take (i := 12) (v := .bool true) rfl (by kernel_rfl) (by kernel_rfl) (by kernel_rfl) (fun _ _ _ h => h) (Or.inl ⟨by kernel_rfl, fun _ => by go_simp⟩) ?_
            refine wpAny_take (i := 13) (v := .agg #[.int .i64 0, .string s, .bool true]) rfl (by kernel_rfl) (by kernel_rfl) (by kernel_rfl) (fun _ _ _ h => h) (Or.inl ⟨by kernel_rfl, fun _ => by go_simp⟩) ?_
            refine wpAny_ready (rs := [1, 14]) (by kernel_rfl) (by simp) ?_
            refine AllReady.cons rfl (fun K hK => ?_) (AllReady.cons rfl (fun K hK => ?_) AllReady.nil)
            · rw [if_pos (by kernel_rfl)]
              go_simp
              refine hK _ _ ?_
              clear hK K
              refine wpAny_ready (rs := [14]) (by kernel_rfl) (by simp) ?_
              refine AllReady.cons rfl (fun K hK => ?_) AllReady.nil
              rw [if_pos (by kernel_rfl)]
              go_simp
              refine hK _ _ ?_
              clear hK K
              refine wpAny_ready (rs := [15]) (by kernel_rfl) (by simp) ?_
              refine AllReady.cons rfl (fun K hK => ?_) AllReady.nil
              refine step_append_lies _ rfl (.tmp 42) (.tmp 55) 42 rfl (w.heap.size + 1 + 1) 53 i0 (.agg #[.int .i64 0, .string ⟨#[]⟩, .bool false]) 3 32 Tryd.underlying42 hi0 hz0 hz1 hz2 rfl (by decide) (.slice qr ws.length cr) ws.length (flatW ws) (by kernel_rfl) (w_own ROW.out (w_alloc (w_refl wr).drew _) (Nat.le_refl _)) ⟨wr.heap.size, 0, none⟩ 1 1 (flatW [⟨0, s, true⟩]) (by kernel_rfl) rfl (new_word _ _ _ _ _) (flatW_one _) (by decide) (by unfold maxLen; omega) (by omega) (Nat.le_trans hbz (w_alloc (w_refl wr).drew _).size) _ rfl ?_
              intro g cap2 w4 hown4 hgrow4 hat4 hlt4
              obtain ⟨x1, x2⟩ := hinv.out.room (w_alloc (w_refl wr).drew _) hgrow4
              refine hK _ _ ?_
              clear hK K
              refine wpAny_take (i := 16) (v := .pointer (some ⟨w.heap.size + 1, 1, none⟩)) rfl (by kernel_rfl) (by kernel_rfl) (by kernel_rfl) (fun _ _ _ h => h) (Or.inl ⟨by kernel_rfl, fun _ => by go_simp⟩) ?_
              refine wpAny_ready (rs := [17]) (by kernel_rfl) (by simp) ?_
              refine AllReady.cons rfl (fun K hK => ?_) AllReady.nil
              rw [if_pos (by kernel_rfl)]
              go_simp
              refine hK _ _ ?_
              clear hK K
              refine wpAny_done (by kernel_rfl) ?_ _
              have hnew := Lib.hid (hinv.out.word (x := ⟨0, s, true⟩) (w_alloc (w_refl wr).drew _) hown4 hgrow4 (hat4.imp id (fun e => by rw [e]; rfl)) htx.out.1 htx.out.2)
              clear hown4 hgrow4 hat4
              go_wp2_with fail
              go_meet
              exact ⟨_, g, cap2, hnew⟩
            · rw [if_pos (by kernel_rfl)]
              go_simp
              refine hK _ _ ?_
              clear hK K
              refine wpAny_ready (rs := [1]) (by kernel_rfl) (by simp) ?_
              refine AllReady.cons rfl (fun K hK => ?_) AllReady.nil
              rw [if_pos (by kernel_rfl)]
              go_simp
              refine hK _ _ ?_
              clear hK K
              refine wpAny_ready (rs := [15]) (by kernel_rfl) (by simp) ?_
              refine AllReady.cons rfl (fun K hK => ?_) AllReady.nil
              refine step_append_lies _ rfl (.tmp 42) (.tmp 55) 42 rfl (w.heap.size + 1 + 1) 53 i0 (.agg #[.int .i64 0, .string ⟨#[]⟩, .bool false]) 3 32 Tryd.underlying42 hi0 hz0 hz1 hz2 rfl (by decide) (.slice qr ws.length cr) ws.length (flatW ws) (by kernel_rfl) (w_own ROW.out (w_alloc (w_refl wr).drew _) (Nat.le_refl _)) ⟨wr.heap.size, 0, none⟩ 1 1 (flatW [⟨0, s, true⟩]) (by kernel_rfl) rfl (new_word _ _ _ _ _) (flatW_one _) (by decide) (by unfold maxLen; omega) (by omega) (Nat.le_trans hbz (w_alloc (w_refl wr).drew _).size) _ rfl ?_
              intro g cap2 w4 hown4 hgrow4 hat4 hlt4
              obtain ⟨x1, x2⟩ := hinv.out.room (w_alloc (w_refl wr).drew _) hgrow4
              refine hK _ _ ?_
              clear hK K
              refine wpAny_take (i := 16) (v := .pointer (some ⟨w.heap.size + 1, 1, none⟩)) rfl (by kernel_rfl) (by kernel_rfl) (by kernel_rfl) (fun _ _ _ h => h) (Or.inl ⟨by kernel_rfl, fun _ => by go_simp⟩) ?_
              refine wpAny_ready (rs := [17]) (by kernel_rfl) (by simp) ?_
              refine AllReady.cons rfl (fun K hK => ?_) AllReady.nil
              rw [if_pos (by kernel_rfl)]
              go_simp
              refine hK _ _ ?_
              clear hK K
              refine wpAny_done (by kernel_rfl) ?_ _
              have hnew := Lib.hid (hinv.out.word (x := ⟨0, s, true⟩) (w_alloc (w_refl wr).drew _) hown4 hgrow4 (hat4.imp id (fun e => by rw [e]; rfl)) htx.out.1 htx.out.2)
              clear hown4 hgrow4 hat4
              go_wp2_with fail
              go_meet
              exact ⟨_, g, cap2, hnew⟩
          | false =>
            have hq9 := Lib.hid (show okW ⟨0, s, n2 == 0⟩ = true by
              cases (n2 == 0) with
              | true => exact htx.out.1
              | false => exact hbd.out rfl)
            refine wp_region_any (by kernel_rfl) ?_
            change wpAny _ _ _ _ _ _ _ (World.drew _)
            refine wpAny_take (i := 0) (v := .pointer (some ⟨w.heap.size + 1, 1, none⟩)) rfl (by kernel_rfl) (by kernel_rfl) (by kernel_rfl) (fun _ _ _ h => h) (Or.inl ⟨by kernel_rfl, fun _ => by go_simp⟩) ?_
            refine wpAny_take (i := 2) (v := .string s) rfl (by kernel_rfl) (by kernel_rfl) (by kernel_rfl) (fun _ _ _ h => h) (Or.inl ⟨by kernel_rfl, fun _ => by go_simp⟩) ?_
            refine wpAny_take (i := 3) (v := .bool false) rfl (by kernel_rfl) (by kernel_rfl) (by kernel_rfl) (fun _ _ _ h => h) (Or.inl ⟨by kernel_rfl, fun _ => by go_simp⟩) ?_
            refine wpAny_take (i := 4) (v := .bool false) rfl (by kernel_rfl) (by kernel_rfl) (by kernel_rfl) (fun _ _ _ h => h) (Or.inl ⟨by kernel_rfl, fun _ => by go_simp⟩) ?_
            refine wpAny_take (i := 5) (v := .slice (some ⟨b, off, none⟩) zs.length cap) rfl (by kernel_rfl) (by kernel_rfl) (by kernel_rfl) (fun _ _ _ h => h) (Or.inl ⟨by kernel_rfl, fun _ => by go_simp⟩) ?_
            refine wpAny_take (i := 6) (v := .int .i64 k) rfl (by kernel_rfl) (by kernel_rfl) (by kernel_rfl) (fun _ _ _ h => h) (Or.inl ⟨by kernel_rfl, fun _ => by go_simp⟩) ?_
            refine wpAny_take (i := 7) (v := .pointer (some ⟨b, off + k, none⟩)) rfl (by kernel_rfl) (by kernel_rfl) (by kernel_rfl) (fun _ _ _ h => h) (Or.inl ⟨by kernel_rfl, fun _ => by go_simp⟩) ?_
            refine wpAny_ready (rs := [1, 8]) (by kernel_rfl) (by simp) ?_
            refine AllReady.cons rfl (fun K hK => ?_) (AllReady.cons rfl (fun K hK => ?_) AllReady.nil)
            · rw [if_pos (by kernel_rfl)]
              go_simp
              refine hK _ _ ?_
              clear hK K
              refine wpAny_ready (rs := [8]) (by kernel_rfl) (by simp) ?_
              refine AllReady.cons rfl (fun K hK => ?_) AllReady.nil
              rw [if_pos (by kernel_rfl)]
              go_simp
              refine hK _ _ ?_
              clear hK K
              refine wpAny_take (i := 9) (v := .int .i64 (z.tdiv 16)) rfl (by kernel_rfl) (by kernel_rfl) (by kernel_rfl) (fun _ _ _ h => h) (Or.inl ⟨by kernel_rfl, fun _ => by go_simp⟩) ?_
              refine wpAny_ready (rs := [10]) (by kernel_rfl) (by simp) ?_
              refine AllReady.cons rfl (fun K hK => ?_) AllReady.nil
              rw [if_pos (by kernel_rfl)]
              go_simp
              go_at_call 29
              refine (M2.out _).mono ?_
              rintro e wx ⟨rfl, rfl⟩
              go_simp
              refine hK _ _ ?_
              clear hK K
              refine wpAny_take (i := 11) (v := .bool (n2 == 0)) rfl (by kernel_rfl) (by kernel_rfl) (by kernel_rfl) (fun _ _ _ h => h) (Or.inl ⟨by kernel_rfl, fun _ => by go_simp⟩) ?_
              refine wpAny_take (i := 12) (v := .bool (n2 == 0)) rfl (by kernel_rfl) (by kernel_rfl) (by kernel_rfl) (fun _ _ _ h => h) (Or.inl ⟨by kernel_rfl, fun _ => by go_simp⟩) ?_
              refine wpAny_take (i := 13) (v := .agg #[.int .i64 0, .string s, .bool (n2 == 0)]) rfl (by kernel_rfl) (by kernel_rfl) (by kernel_rfl) (fun _ _ _ h => h) (Or.inl ⟨by kernel_rfl, fun _ => by go_simp⟩) ?_
              refine wpAny_ready (rs := [14]) (by kernel_rfl) (by simp) ?_
              refine AllReady.cons rfl (fun K hK => ?_) AllReady.nil
              rw [if_pos (by kernel_rfl)]
              go_simp
              refine hK _ _ ?_
              clear hK K
              refine wpAny_ready (rs := [15]) (by kernel_rfl) (by simp) ?_
              refine AllReady.cons rfl (fun K hK => ?_) AllReady.nil
              refine step_append_lies _ rfl (.tmp 42) (.tmp 55) 42 rfl (w.heap.size + 1 + 1) 53 i0 (.agg #[.int .i64 0, .string ⟨#[]⟩, .bool false]) 3 32 Tryd.underlying42 hi0 hz0 hz1 hz2 rfl (by decide) (.slice qr ws.length cr) ws.length (flatW ws) (by kernel_rfl) (w_own ROW.out (w_alloc (w_refl wr).drew _) (Nat.le_refl _)) ⟨wr.heap.size, 0, none⟩ 1 1 (flatW [⟨0, s, n2 == 0⟩]) (by kernel_rfl) rfl (new_word _ _ _ _ _) (flatW_one _) (by decide) (by unfold maxLen; omega) (by omega) (Nat.le_trans hbz (w_alloc (w_refl wr).drew _).size) _ rfl ?_
              intro g cap2 w4 hown4 hgrow4 hat4 hlt4
              obtain ⟨x1, x2⟩ := hinv.out.room (w_alloc (w_refl wr).drew _) hgrow4
              refine hK _ _ ?_
              clear hK K
              refine wpAny_take (i := 16) (v := .pointer (some ⟨w.heap.size + 1, 1, none⟩)) rfl (by kernel_rfl) (by kernel_rfl) (by kernel_rfl) (fun _ _ _ h => h) (Or.inl ⟨by kernel_rfl, fun _ => by go_simp⟩) ?_
              refine wpAny_ready (rs := [17]) (by kernel_rfl) (by simp) ?_
              refine AllReady.cons rfl (fun K hK => ?_) AllReady.nil
              rw [if_pos (by kernel_rfl)]
              go_simp
              refine hK _ _ ?_
              clear hK K
              refine wpAny_done (by kernel_rfl) ?_ _
              have hnew := Lib.hid (hinv.out.word (x := ⟨0, s, n2 == 0⟩) (w_alloc (w_refl wr).drew _) hown4 hgrow4 (hat4.imp id (fun e => by rw [e]; rfl)) hq9.out htx.out.2)
              clear hown4 hgrow4 hat4
              go_wp2_with fail
              go_meet
              exact ⟨_, g, cap2, hnew⟩
            · rw [if_pos (by kernel_rfl)]
              go_simp
              refine hK _ _ ?_
              clear hK K
              refine wpAny_take (i := 9) (v := .int .i64 (z.tdiv 16)) rfl (by kernel_rfl) (by kernel_rfl) (by kernel_rfl) (fun _ _ _ h => h) (Or.inl ⟨by kernel_rfl, fun _ => by go_simp⟩) ?_
              refine wpAny_ready (rs := [1, 10]) (by kernel_rfl) (by simp) ?_
              refine AllReady.cons rfl (fun K hK => ?_) (AllReady.cons rfl (fun K hK => ?_) AllReady.nil)
              · rw [if_pos (by kernel_rfl)]
                go_simp
                refine hK _ _ ?_
                clear hK K
                refine wpAny_ready (rs := [10]) (by kernel_rfl) (by simp) ?_
                refine AllReady.cons rfl (fun K hK => ?_) AllReady.nil
                rw [if_pos (by kernel_rfl)]
                go_simp
                go_at_call 29
                refine (M2.out _).mono ?_
                rintro e wx ⟨rfl, rfl⟩
                go_simp
                refine hK _ _ ?_
                clear hK K
                refine wpAny_take (i := 11) (v := .bool (n2 == 0)) rfl (by kernel_rfl) (by kernel_rfl) (by kernel_rfl) (fun _ _ _ h => h) (Or.inl ⟨by kernel_rfl, fun _ => by go_simp⟩) ?_
                refine wpAny_take (i := 12) (v := .bool (n2 == 0)) rfl (by kernel_rfl) (by kernel_rfl) (by kernel_rfl) (fun _ _ _ h => h) (Or.inl ⟨by kernel_rfl, fun _ => by go_simp⟩) ?_
                refine wpAny_take (i := 13) (v := .agg #[.int .i64 0, .string s, .bool (n2 == 0)]) rfl (by kernel_rfl) (by kernel_rfl) (by kernel_rfl) (fun _ _ _ h => h) (Or.inl ⟨by kernel_rfl, fun _ => by go_simp⟩) ?_
                refine wpAny_ready (rs := [14]) (by kernel_rfl) (by simp) ?_
                refine AllReady.cons rfl (fun K hK => ?_) AllReady.nil
                rw [if_pos (by kernel_rfl)]
                go_simp
                refine hK _ _ ?_
                clear hK K
                refine wpAny_ready (rs := [15]) (by kernel_rfl) (by simp) ?_
                refine AllReady.cons rfl (fun K hK => ?_) AllReady.nil
                refine step_append_lies _ rfl (.tmp 42) (.tmp 55) 42 rfl (w.heap.size + 1 + 1) 53 i0 (.agg #[.int .i64 0, .string ⟨#[]⟩, .bool false]) 3 32 Tryd.underlying42 hi0 hz0 hz1 hz2 rfl (by decide) (.slice qr ws.length cr) ws.length (flatW ws) (by kernel_rfl) (w_own ROW.out (w_alloc (w_refl wr).drew _) (Nat.le_refl _)) ⟨wr.heap.size, 0, none⟩ 1 1 (flatW [⟨0, s, n2 == 0⟩]) (by kernel_rfl) rfl (new_word _ _ _ _ _) (flatW_one _) (by decide) (by unfold maxLen; omega) (by omega) (Nat.le_trans hbz (w_alloc (w_refl wr).drew _).size) _ rfl ?_
                intro g cap2 w4 hown4 hgrow4 hat4 hlt4
                obtain ⟨x1, x2⟩ := hinv.out.room (w_alloc (w_refl wr).drew _) hgrow4
                refine hK _ _ ?_
                clear hK K
                refine wpAny_take (i := 16) (v := .pointer (some ⟨w.heap.size + 1, 1, none⟩)) rfl (by kernel_rfl) (by kernel_rfl) (by kernel_rfl) (fun _ _ _ h => h) (Or.inl ⟨by kernel_rfl, fun _ => by go_simp⟩) ?_
                refine wpAny_ready (rs := [17]) (by kernel_rfl) (by simp) ?_
                refine AllReady.cons rfl (fun K hK => ?_) AllReady.nil
                rw [if_pos (by kernel_rfl)]
                go_simp
                refine hK _ _ ?_
                clear hK K
                refine wpAny_done (by kernel_rfl) ?_ _
                have hnew := Lib.hid (hinv.out.word (x := ⟨0, s, n2 == 0⟩) (w_alloc (w_refl wr).drew _) hown4 hgrow4 (hat4.imp id (fun e => by rw [e]; rfl)) hq9.out htx.out.2)
                clear hown4 hgrow4 hat4
                go_wp2_with fail
                go_meet
                exact ⟨_, g, cap2, hnew⟩
              · rw [if_pos (by kernel_rfl)]
                go_simp
                go_at_call 29
                refine (M2.out _).mono ?_
                rintro e wx ⟨rfl, rfl⟩
                go_simp
                refine hK _ _ ?_
                clear hK K
                refine wpAny_take (i := 11) (v := .bool (n2 == 0)) rfl (by kernel_rfl) (by kernel_rfl) (by kernel_rfl) (fun _ _ _ h => h) (Or.inl ⟨by kernel_rfl, fun _ => by go_simp⟩) ?_
                refine wpAny_take (i := 12) (v := .bool (n2 == 0)) rfl (by kernel_rfl) (by kernel_rfl) (by kernel_rfl) (fun _ _ _ h => h) (Or.inl ⟨by kernel_rfl, fun _ => by go_simp⟩) ?_
                refine wpAny_take (i := 13) (v := .agg #[.int .i64 0, .string s, .bool (n2 == 0)]) rfl (by kernel_rfl) (by kernel_rfl) (by kernel_rfl) (fun _ _ _ h => h) (Or.inl ⟨by kernel_rfl, fun _ => by go_simp⟩) ?_
                refine wpAny_ready (rs := [1, 14]) (by kernel_rfl) (by simp) ?_
                refine AllReady.cons rfl (fun K hK => ?_) (AllReady.cons rfl (fun K hK => ?_) AllReady.nil)
                · rw [if_pos (by kernel_rfl)]
                  go_simp
                  refine hK _ _ ?_
                  clear hK K
                  refine wpAny_ready (rs := [14]) (by kernel_rfl) (by simp) ?_
                  refine AllReady.cons rfl (fun K hK => ?_) AllReady.nil
                  rw [if_pos (by kernel_rfl)]
                  go_simp
                  refine hK _ _ ?_
                  clear hK K
                  refine wpAny_ready (rs := [15]) (by kernel_rfl) (by simp) ?_
                  refine AllReady.cons rfl (fun K hK => ?_) AllReady.nil
                  refine step_append_lies _ rfl (.tmp 42) (.tmp 55) 42 rfl (w.heap.size + 1 + 1) 53 i0 (.agg #[.int .i64 0, .string ⟨#[]⟩, .bool false]) 3 32 Tryd.underlying42 hi0 hz0 hz1 hz2 rfl (by decide) (.slice qr ws.length cr) ws.length (flatW ws) (by kernel_rfl) (w_own ROW.out (w_alloc (w_refl wr).drew _) (Nat.le_refl _)) ⟨wr.heap.size, 0, none⟩ 1 1 (flatW [⟨0, s, n2 == 0⟩]) (by kernel_rfl) rfl (new_word _ _ _ _ _) (flatW_one _) (by decide) (by unfold maxLen; omega) (by omega) (Nat.le_trans hbz (w_alloc (w_refl wr).drew _).size) _ rfl ?_
                  intro g cap2 w4 hown4 hgrow4 hat4 hlt4
                  obtain ⟨x1, x2⟩ := hinv.out.room (w_alloc (w_refl wr).drew _) hgrow4
                  refine hK _ _ ?_
                  clear hK K
                  refine wpAny_take (i := 16) (v := .pointer (some ⟨w.heap.size + 1, 1, none⟩)) rfl (by kernel_rfl) (by kernel_rfl) (by kernel_rfl) (fun _ _ _ h => h) (Or.inl ⟨by kernel_rfl, fun _ => by go_simp⟩) ?_
                  refine wpAny_ready (rs := [17]) (by kernel_rfl) (by simp) ?_
                  refine AllReady.cons rfl (fun K hK => ?_) AllReady.nil
                  rw [if_pos (by kernel_rfl)]
                  go_simp
                  refine hK _ _ ?_
                  clear hK K
                  refine wpAny_done (by kernel_rfl) ?_ _
                  have hnew := Lib.hid (hinv.out.word (x := ⟨0, s, n2 == 0⟩) (w_alloc (w_refl wr).drew _) hown4 hgrow4 (hat4.imp id (fun e => by rw [e]; rfl)) hq9.out htx.out.2)
                  clear hown4 hgrow4 hat4
                  go_wp2_with fail
                  go_meet
                  exact ⟨_, g, cap2, hnew⟩
                · rw [if_pos (by kernel_rfl)]
                  go_simp
                  refine hK _ _ ?_
                  clear hK K
                  refine wpAny_ready (rs := [1]) (by kernel_rfl) (by simp) ?_
                  refine AllReady.cons rfl (fun K hK => ?_) AllReady.nil
                  rw [if_pos (by kernel_rfl)]
                  go_simp
                  refine hK _ _ ?_
                  clear hK K
                  refine wpAny_ready (rs := [15]) (by kernel_rfl) (by simp) ?_
                  refine AllReady.cons rfl (fun K hK => ?_) AllReady.nil
                  refine step_append_lies _ rfl (.tmp 42) (.tmp 55) 42 rfl (w.heap.size + 1 + 1) 53 i0 (.agg #[.int .i64 0, .string ⟨#[]⟩, .bool false]) 3 32 Tryd.underlying42 hi0 hz0 hz1 hz2 rfl (by decide) (.slice qr ws.length cr) ws.length (flatW ws) (by kernel_rfl) (w_own ROW.out (w_alloc (w_refl wr).drew _) (Nat.le_refl _)) ⟨wr.heap.size, 0, none⟩ 1 1 (flatW [⟨0, s, n2 == 0⟩]) (by kernel_rfl) rfl (new_word _ _ _ _ _) (flatW_one _) (by decide) (by unfold maxLen; omega) (by omega) (Nat.le_trans hbz (w_alloc (w_refl wr).drew _).size) _ rfl ?_
                  intro g cap2 w4 hown4 hgrow4 hat4 hlt4
                  obtain ⟨x1, x2⟩ := hinv.out.room (w_alloc (w_refl wr).drew _) hgrow4
                  refine hK _ _ ?_
                  clear hK K
                  refine wpAny_take (i := 16) (v := .pointer (some ⟨w.heap.size + 1, 1, none⟩)) rfl (by kernel_rfl) (by kernel_rfl) (by kernel_rfl) (fun _ _ _ h => h) (Or.inl ⟨by kernel_rfl, fun _ => by go_simp⟩) ?_
                  refine wpAny_ready (rs := [17]) (by kernel_rfl) (by simp) ?_
                  refine AllReady.cons rfl (fun K hK => ?_) AllReady.nil
                  rw [if_pos (by kernel_rfl)]
                  go_simp
                  refine hK _ _ ?_
                  clear hK K
                  refine wpAny_done (by kernel_rfl) ?_ _
                  have hnew := Lib.hid (hinv.out.word (x := ⟨0, s, n2 == 0⟩) (w_alloc (w_refl wr).drew _) hown4 hgrow4 (hat4.imp id (fun e => by rw [e]; rfl)) hq9.out htx.out.2)
                  clear hown4 hgrow4 hat4
                  go_wp2_with fail
                  go_meet
                  exact ⟨_, g, cap2, hnew⟩
        case rest =>
          obtain ⟨x, g, c, hnew⟩ := hcut
          clear hinv hall hou ROW r1 rf1 hbd htx ct c0 M1 M2
          have c0 := C0.out _ hnew.out.bel
          have hbl2 : b < wc.heap.size := Nat.lt_of_lt_of_le hbw hnew.out.bel.size
          have r1 := hnew.out.r1
          have r0 := hnew.out.r0
          have hbz := hnew.out.big
          obtain ⟨L, hL⟩ : ∃ L, ws.length + 1 = L := ⟨_, rfl⟩
          have hLen := Lib.hid (show (ws ++ [x]).length = L by rw [List.length_append]; exact hL)
          have hLb : L ≤ 8 := by omega
          have hL1 : 1 ≤ L := by omega
          rw [hL] at hnew r1
          generalize ws ++ [x] = ws2 at *
          clear hL hws
          go_upto_region 10 with (fail)
          go_cut [70] (fun s70 wx => ∃ bq, s70 = .bool bq ∧ (bq = false → L ≤ 7) ∧ wx = wc)
          case first =>
            by_cases h8 : L = 8
            · subst h8
              clear hnew r0 hLen
              go_wp2_with fail
              go_meet
              exact ⟨_, rfl, fun e => (by cases e), rfl⟩
            · have h8' : ((L : Int) == 8) = false := by simp; omega
              clear hnew r0 hLen
              go_wp2_with fail
              refine (M3.out _).mono ?_
              rintro e wx ⟨rfl, rfl⟩
              go_wp2_with fail
              go_meet
              exact ⟨_, rfl, fun _ => by omega, rfl⟩
          case rest =>
            obtain ⟨bq, rfl, hbq, hwx⟩ := hcut
            obtain rfl := hwx.symm
            clear hwx M3 c0
            cases bq with
            | false =>
              have hL7 := hbq rfl
              have hne : ws2.length = L := hLen.out
              subst hne
              go_wp2_with fail
              go_roundw
              case rel =>
                exact ⟨k + 1, acc, ws2, _, by omega, by go_num, by omega, by omega, ⟨q4, c4, rfl⟩, ⟨some ⟨g, 0, none⟩, c, rfl⟩, hnew⟩
              case measure => simp [intOf]; omega
            | true =>
              clear hbq
              obtain ⟨vs, hou, hall⟩ := hnew.out.out
              have hown := Lib.hid (w_own hou (w_alloc (w_refl wc) (.cells #[.int .i64 0, .slice (some ⟨g, 0, none⟩) L c] 44)) (Nat.le_refl _))
              have hsz := Lib.hid (Nat.le_trans hbz (w_alloc (w_refl wc) (.cells #[.int .i64 0, .slice (some ⟨g, 0, none⟩) L c] 44)).size)
              have hfin := Lib.hid (fun v' W4 h1 h2 h3 => hnew.out.push (u' := v') (W4 := W4) (List.length_pos_iff.1 (by rw [hLen.out]; omega)) (by rw [hLen.out]; exact hLb) hou hall (w_alloc (w_refl wc) (.cells #[.int .i64 0, .slice (some ⟨g, 0, none⟩) L c] 44)) h1 h2 h3)
              have hroom := Lib.hid (fun W4 h => hnew.out.room2 (W4 := W4) (w_alloc (w_refl wc) (.cells #[.int .i64 0, .slice (some ⟨g, 0, none⟩) L c] 44)) h)
              clear hou hall hnew
              go_wp2_with (at_builtin; refine wpList_append_own_at _ rfl _ _ 23 rfl (w.heap.size + 1 + 1) 44 j0 (.agg #[.int .i64 0, .slice none 0 0]) 2 32 Tryd.underlying23 hj0 hy0 hy1 hy2 rfl (by decide) _ acc.length (flatR vs) rfl hown.out ⟨wc.heap.size, 0, none⟩ 1 1 (flatR [((0 : Int), .slice (some ⟨g, 0, none⟩) L c)]) rfl rfl (new_row _ _ _ _) (row_one _ _ _ _) (by unfold maxLen; omega) (by omega) hsz.out ?_)
              intro v' w3 hown2 hgrow _ hat
              obtain ⟨x0, x1, x2, x3⟩ := hroom.out w3 hgrow
              obtain ⟨g5, c5, rfl⟩ := ownsRow_succ hown2
              have hf2 := Lib.hid (hfin.out _ w3 hown2 hgrow (hat.imp Eq.symm (fun e => by rw [e, World.size_alloc]))).2.2
              clear hown hown2 hgrow hat hfin hroom r0 r1
              go_wp2_with fail
              go_roundw
              case rel => exact ⟨k + 1, acc ++ [⟨0, ws2⟩], [], .slice none 0 0, by omega, by go_num, by rw [List.length_append]; simp; omega, by simp, ⟨_, _, by rw [List.length_append]; rfl⟩, ⟨none, 0, rfl⟩, hf2⟩
              case measure => simp [intOf]; omega
    · have hend : k = zs.length ∨ acc.length = 12 := by omega
      by_cases hw0 : ws = []
      · subst hw0
        have hfin := Lib.hid (show MadePost w (.returned (.slice q4 acc.length c4)) wr from ⟨_, acc, rfl, hinv.out.val, ⟨by omega, hinv.out.oka⟩, hinv.out.bel⟩)
        have r1 := hinv.out.r1
        rcases hend with rfl | hend
        · clear hgo
          go_wp2_with fail
          go_ret
          exact hfin.out
        · have hltt : ¬ ((acc.length : Int) < 12) := by omega
          clear hgo hend
          have two : k < zs.length ∨ k = zs.length := by omega
          rcases two with hk2 | rfl
          · go_wp2_with fail
            go_ret
            exact hfin.out
          · go_wp2_with fail
            go_ret
            exact hfin.out
      · have hwl : 0 < ws.length := List.length_pos_iff.2 hw0
        have hwl' : (0 : Int) < ws.length := by omega
        have r0 := hinv.out.r0
        have r1 := hinv.out.r1
        have hbz := hinv.out.big
        obtain ⟨vs, hou, hall⟩ := hinv.out.out
        have hown := Lib.hid (w_own hou (w_alloc (w_refl wr) (.cells #[.int .i64 0, .slice qr ws.length cr] 44)) (Nat.le_refl _))
        have hsz := Lib.hid (Nat.le_trans hbz (w_alloc (w_refl wr) (.cells #[.int .i64 0, .slice qr ws.length cr] 44)).size)
        have hfin := Lib.hid (fun v' W4 h1 h2 h3 => show MadePost w (.returned v') W4 from by
          obtain ⟨e1, e2, e3⟩ := hinv.out.push (u' := v') (W4 := W4) hw0 (by omega) hou hall (w_alloc (w_refl wr) (.cells #[.int .i64 0, .slice qr ws.length cr] 44)) h1 h2 h3
          exact ⟨_, _, rfl, e1, ⟨by rw [List.length_append]; simp; omega, e3.oka⟩, e2⟩)
        clear hou hall hinv
        have three : k = zs.length ∨ (k < zs.length ∧ acc.length = 12) := by omega
        clear hgo hend
        rcases three with rfl | ⟨hk2, hltt0⟩
        · go_wp2_with (at_builtin; refine wpList_append_own_at _ rfl _ _ 23 rfl (w.heap.size + 1 + 1) 44 j0 (.agg #[.int .i64 0, .slice none 0 0]) 2 32 Tryd.underlying23 hj0 hy0 hy1 hy2 rfl (by decide) _ acc.length (flatR vs) rfl hown.out ⟨wr.heap.size, 0, none⟩ 1 1 (flatR [((0 : Int), .slice qr ws.length cr)]) rfl rfl (new_row _ _ _ _) (row_one _ _ _ _) (by unfold maxLen; omega) (by omega) hsz.out ?_)
          intro v' w3 hown2 hgrow _ hat
          have hf2 := Lib.hid (hfin.out v' w3 hown2 hgrow (hat.imp Eq.symm (fun e => by rw [e, World.size_alloc])))
          clear hown hown2 hgrow hat hfin
          go_wp2_with fail
          go_ret
          exact hf2.out
        · have hltt : ¬ ((acc.length : Int) < 12) := by omega
          clear hltt0
          go_wp2_with (at_builtin; refine wpList_append_own_at _ rfl _ _ 23 rfl (w.heap.size + 1 + 1) 44 j0 (.agg #[.int .i64 0, .slice none 0 0]) 2 32 Tryd.underlying23 hj0 hy0 hy1 hy2 rfl (by decide) _ acc.length (flatR vs) rfl hown.out ⟨wr.heap.size, 0, none⟩ 1 1 (flatR [((0 : Int), .slice qr ws.length cr)]) rfl rfl (new_row _ _ _ _) (row_one _ _ _ _) (by unfold maxLen; omega) (by omega) hsz.out ?_)
          intro v' w3 hown2 hgrow _ hat
          have hf2 := Lib.hid (hfin.out v' w3 hown2 hgrow (hat.imp Eq.symm (fun e => by rw [e, World.size_alloc])))
          clear hown hown2 hgrow hat hfin
          go_wp2_with fail
          go_ret
          exact hf2.out

end Go.Proofs.YtdjkgnganbeonaaDoor
