/- The program's Mutations. -/
import Derived.Test.YtaldbjhalpgkeaaDoorGMut
import Derived.Test.YtaldbjhalpgkeaaDoorGIsIn
namespace Go.Proofs.YtaldbjhalpgkeaaDoor
open Go.RowKit

set_option maxRecDepth 100000 in
set_option maxHeartbeats 4000000 in
theorem wmutations_any (p : Option Addr) (cap : Nat) (l : List Sy) (w : World) (h : SlP w 2 p l.length cap (flatS l)) (T : TabG w) : Calls Tryd.prog 25 #[.slice p l.length cap] w (MutPost l w) := by
  have HS := Lib.hid h
  have f1 := h.fit
  have f2 := h.max
  clear h
  obtain ⟨k0, hk0, hx0, hx1, hx2⟩ := info_parts info_int
  obtain ⟨b0, hb0, hy0, hy1, hy2⟩ := info_parts info_bool
  have PI := Lib.hid (fun s W (k : Below w.heap.size w W) => wpitch_any s W (T.later k))
  have SM := Lib.hid (fun a b ha hb W (k : Below w.heap.size w W) => wissmooth_any a b ha hb W (T.later k))
  clear T
  by_cases hbig : 400 < l.length
  · have hbig' : (400 : Int) < l.length := by omega
    have hfin := Lib.hid (MutPost.bad (l := l) (w := w) (w' := w) (e := 11) (by unfold mutE; rw [if_pos hbig]) (by decide) (w_refl w))
    go_enter Tryd.func25, Tryd.ntmps25
    go_wp2_with fail
    go_ret3
    exact hfin.out
  · have hbig' : ¬ ((400 : Int) < l.length) := by omega
    have hl : l.length ≤ 400 := by omega
    have hE := Lib.hid (show mutE l = if ∀ s ∈ l, okS s then 0 else 2 from by unfold mutE; rw [if_neg hbig])
    go_enter Tryd.func25, Tryd.ntmps25
    go_wp2_with fail
    go_loopw [17] (fun s5 wr => ∃ i : Nat, i ≤ l.length ∧ s5 = .int .i64 i ∧ Hid (∀ s ∈ l.take i, okS s) ∧ Hid (Below w.heap.size w wr)) (fun s5 _ => l.length - (intOf s5).toNat)
    case atStart => exact ⟨0, Nat.zero_le _, rfl, Lib.hid (by simp), Lib.hid (w_refl w)⟩
    case round =>
      obtain ⟨i, hin, rfl, hall, hb⟩ := hrel
      by_cases hi : i < l.length
      · have hi' : (i : Int) < l.length := by omega
        obtain ⟨s, hq⟩ : ∃ s, l[i]? = some s := ⟨l[i], List.getElem?_eq_getElem hi⟩
        obtain ⟨bl, off, rfl, hbl, a0, a1⟩ := (HS.out.later hb.out).way hq
        have C := Lib.hid (fun W k => PI.out s W k)
        unfold PitPost pitV at C
        by_cases hok : okS s
        · rw [if_pos hok] at C
          have hN := Lib.hid (show ∀ s ∈ l.take (i + 1), okS s from fun x hx => by
            rw [List.take_add_one, hq] at hx
            rcases List.mem_append.1 hx with hx | hx
            · exact hall.out x hx
            · simp at hx; subst hx; exact hok)
          clear hok hq
          generalize madeS s = mp at *
          go_wp2_with fail
          refine (C.out _ (w_alloc hb.out (sO s))).mono ?_
          rintro e w1 ⟨rfl, hb1⟩
          have HB1 := Lib.hid (w_alloc (w_below (w_alloc hb.out (sO s)) hb1) (pO mp))
          clear hb1 C a0 a1 hall
          go_wp2_with fail
          go_roundw
          case rel => exact ⟨i + 1, by omega, by go_num, hN, HB1⟩
          case measure => simp [intOf]; omega
        · rw [if_neg hok] at C
          have hfin := Lib.hid (fun w' hb' => MutPost.bad (l := l) (w := w) (w' := w') (e := 2) (by rw [hE.out, if_neg (fun x => hok (x s (List.mem_of_getElem? hq)))]) (by decide) hb')
          clear hok hq
          go_wp2_with fail
          refine (C.out _ (w_alloc hb.out (sO s))).mono ?_
          rintro e w1 ⟨rfl, hb1⟩
          have HB1 := Lib.hid (w_alloc (w_below (w_alloc hb.out (sO s)) hb1) (pO (0, 0, 0)))
          clear hb1 C a0 a1 hall
          go_wp2_with fail
          go_ret3
          exact hfin.out _ HB1.out
      · obtain rfl : i = l.length := by omega
        have hok : ∀ s ∈ l, okS s := by have := hall.out; rwa [List.take_length] at this
        have OK := Lib.hid hok
        have hE0 := Lib.hid (show mutE l = 0 by rw [hE.out, if_pos hok])
        clear hok hall hE
        generalize hwt : wr = wt at *
        clear hwt
        go_wp2_with fail
        go_loopw [9, 10, 11] (fun s8 s9 s10 wc => ∃ k : Nat, (k + 1 ≤ l.length ∨ k = 0) ∧ s10 = .int .i64 ((k : Int) + 1) ∧ (∃ q c, s8 = .slice q (mutAt l k).length c) ∧ (∃ q c, s9 = .slice q (mutAt l k).length c) ∧
          Hid (OwnL wt wc 3 1 s8 (mutAt l k).length (ints (mutAt l k))) ∧ Hid (OwnL wt wc 4 1 s9 (mutAt l k).length (bools (mutSm l k))) ∧ Hid (∀ b, s8.ownBlock = some b → s9.ownBlock ≠ some b)) (fun _ _ s10 _ => l.length - (intOf s10).toNat)
        case atStart => exact ⟨0, .inr rfl, rfl, ⟨none, 0, rfl⟩, ⟨none, 0, rfl⟩, Lib.hid (OwnL.start _ _ _), Lib.hid (OwnL.start _ _ _), Lib.hid (fun b hb => by cases hb)⟩
        case round =>
          obtain ⟨k, hk, rfl, ⟨q8, c8, rfl⟩, ⟨q9, c9, rfl⟩, o8, o9, hsep⟩ := hrel
          by_cases hlt : k + 1 < l.length
          · have hlt' : (k : Int) + 1 < l.length := by omega
            have hlt2 : k < l.length := by omega
            have hlt3 : (k : Int) < l.length := by omega
            obtain ⟨a, ha⟩ : ∃ a, l[k]? = some a := ⟨l[k], List.getElem?_eq_getElem hlt2⟩
            obtain ⟨b, hb'⟩ : ∃ b, l[k + 1]? = some b := ⟨l[k + 1], List.getElem?_eq_getElem hlt⟩
            have oka := OK.out a (List.mem_of_getElem? ha)
            have okb := OK.out b (List.mem_of_getElem? hb')
            have C := Lib.hid (fun W k => SM.out a b oka okb W k)
            have m1 : mutAt l (k + 1) = mutAt l k ++ (if a.1 = b.1 then [] else [((k + 1 : Nat) : Int)]) := by
              show mutAt l k ++ (if (l.getD k (0, 0)).1 = (l.getD (k + 1) (0, 0)).1 then [] else _) = _
              rw [List.getD, ha, List.getD, hb']; rfl
            have m2 : mutSm l (k + 1) = mutSm l k ++ (if a.1 = b.1 then [] else [smoothB a b]) := by
              show mutSm l k ++ (if (l.getD k (0, 0)).1 = (l.getD (k + 1) (0, 0)).1 then [] else [smoothB (l.getD k (0, 0)) (l.getD (k + 1) (0, 0))]) = _
              rw [List.getD, ha, List.getD, hb']; rfl
            have ml := mut_len l k
            obtain ⟨bl, off, hp, hbl, z0, z1⟩ := (HS.out.later hb.out).way ha
            obtain ⟨bl2, off2, hp2, _, y0, y1⟩ := (HS.out.later hb.out).way hb'
            subst hp
            simp only [Option.some.injEq, Addr.mk.injEq, and_true] at hp2
            obtain ⟨rfl, rfl⟩ := hp2
            have EL := Lib.hid (show _ ∧ _ ∧ _ ∧ _ from ⟨z0, z1, y0, y1⟩)
            have d0 := cell_later o8.out.bel z0
            have e0 := cell_later o8.out.bel y0
            clear z0 z1 y0 y1
            have x1 : IntKind.i64.wrap ((k : Int) + 1 - 1) = k := by rw [IntWalk.i64_in _ (by omega)]; omega
            have x2 : IntKind.i64.wrap ((k : Int) + 1 + 1) = (k : Int) + 1 + 1 := IntWalk.i64_in _ (by omega)
            have x3 : IntKind.i64.wrap (k : Int) = k := IntWalk.i64_in _ (by omega)
            have n0 : (0 : Int) ≤ (k : Int) + 1 := by omega
            clear ha hb' oka okb
            generalize smoothB a b = sm at *
            by_cases e : a.1 = b.1
            · rw [if_pos e, List.append_nil] at m1 m2
              have M1 := Lib.hid m1
              have M2 := Lib.hid m2
              have O8 := Lib.hid (o8.out.later (w_refl _).drew)
              have O9 := Lib.hid (o9.out.later (w_refl _).drew)
              rw [e] at d0
              clear e m1 m2
              go_wp2_with fail
              go_region
              all_goals
                go_wp2_with fail
                go_roundw
                case rel => exact ⟨k + 1, .inl (by omega), by go_num, ⟨q8, c8, by rw [M1.out]⟩, ⟨q9, c9, by rw [M1.out]⟩, by rw [M1.out]; exact O8, by rw [M1.out, M2.out]; exact O9, hsep⟩
                case measure => simp [intOf]; omega
            · rw [if_neg e] at m1 m2
              have e2 : ¬ b.1 = a.1 := fun x => e x.symm
              have e3 : (b.1 == a.1) = false := by simp [e2]
              have M1 := Lib.hid m1
              have M2 := Lib.hid m2
              clear e m1 m2
              go_upto_region 15 with (fail)
              go_region
              clear d0 e0
              have O8 := Lib.hid (o8.out.later (w_alloc (w_refl wr).drew (.cells #[.int .i64 ((k : Int) + 1)] 3)))
              have O9 := Lib.hid (o9.out.later (w_alloc (w_refl wr).drew (.cells #[.int .i64 ((k : Int) + 1)] 3)))
              go_upto_region 17 with (at_builtin; refine wpList_append_own_at _ rfl _ _ 43 rfl wt.heap.size 3 k0 (.int .i64 0) 1 8 Tryd.underlying43 hk0 hx0 hx1 hx2 rfl (by decide) _ (mutAt l k).length (ints (mutAt l k)) rfl O8.out.row ⟨wr.heap.size, 0, none⟩ 1 1 [.int .i64 ((k : Int) + 1)] rfl rfl (lit_new _ _ _) (one_int _) (by unfold maxLen; omega) (by omega) O8.out.bel.size ?_; intro v8 y2 hown hgrow _ hat; obtain ⟨g8, c8', rfl⟩ := ownsRow_succ hown)
              have FX := Lib.hid (show OwnL wt y2 3 1 (.slice (some ⟨g8, 0, none⟩) ((mutAt l k).length + 1) c8') ((mutAt l k).length + 1) (ints (mutAt l k) ++ [.int .i64 ((k : Int) + 1)]) ∧ OwnL wt y2 4 1 (.slice q9 (mutAt l k).length c9) (mutAt l k).length (bools (mutSm l k)) ∧ (∀ b, (Value.slice (some ⟨g8, 0, none⟩) ((mutAt l k).length + 1) c8').ownBlock = some b → (Value.slice q9 (mutAt l k).length c9).ownBlock ≠ some b) from
                ⟨O8.out.app (w_refl _) hown hgrow, O8.out.beside O9.out hsep.out hgrow, sep_app (v' := .slice (some ⟨g8, 0, none⟩) ((mutAt l k).length + 1) c8') O9.out hsep.out hat⟩)
              clear hown hgrow hat O8 O9
              refine wp_region_held (S := fun W => W.cell? ⟨bl, off + k * 2, none⟩ = some (.int .i64 a.1) ∧ W.cell? ⟨bl, off + k * 2 + 1, none⟩ = some (.int .i64 a.2) ∧ W.cell? ⟨bl, off + (k + 1) * 2, none⟩ = some (.int .i64 b.1) ∧ W.cell? ⟨bl, off + (k + 1) * 2 + 1, none⟩ = some (.int .i64 b.2)) (by kernel_rfl) ?_
              change wpAnyH _ _ _ _ _ _ _ _ (World.drew _)
              replace FX := Lib.hid (show _ ∧ _ ∧ _ from ⟨FX.out.1.later (w_refl y2).drew, FX.out.2.1.later (w_refl y2).drew, FX.out.2.2⟩)
              generalize hy : World.drew y2 = y at *
              clear hy
              refine wpAnyH_take (i := 0) (v := .slice q9 (mutAt l k).length c9) rfl (by kernel_rfl) (by kernel_rfl) (by kernel_rfl) (fun _ _ _ h => h) (Or.inl ⟨by kernel_rfl, fun _ _ => by go_simp⟩) ⟨cell_later FX.out.1.bel EL.out.1, cell_later FX.out.1.bel EL.out.2.1, cell_later FX.out.1.bel EL.out.2.2.1, cell_later FX.out.1.bel EL.out.2.2.2⟩ ?_
              refine wpAnyH_take (i := 1) (v := .slice (some ⟨bl, off, none⟩) l.length cap) rfl (by kernel_rfl) (by kernel_rfl) (by kernel_rfl) (fun _ _ _ h => h) (Or.inl ⟨by kernel_rfl, fun _ _ => by go_simp⟩) ⟨cell_later FX.out.1.bel EL.out.1, cell_later FX.out.1.bel EL.out.2.1, cell_later FX.out.1.bel EL.out.2.2.1, cell_later FX.out.1.bel EL.out.2.2.2⟩ ?_
              refine wpAnyH_take (i := 2) (v := .int .i64 ((k : Int) + 1)) rfl (by kernel_rfl) (by kernel_rfl) (by kernel_rfl) (fun _ _ _ h => h) (Or.inl ⟨by kernel_rfl, fun _ _ => by go_simp⟩) ⟨cell_later FX.out.1.bel EL.out.1, cell_later FX.out.1.bel EL.out.2.1, cell_later FX.out.1.bel EL.out.2.2.1, cell_later FX.out.1.bel EL.out.2.2.2⟩ ?_
              refine wpAnyH_take (i := 3) (v := .int .i64 k) rfl (by kernel_rfl) (by kernel_rfl) (by kernel_rfl) (fun _ _ _ h => h) (Or.inl ⟨by kernel_rfl, fun _ _ => by go_simp⟩) ⟨cell_later FX.out.1.bel EL.out.1, cell_later FX.out.1.bel EL.out.2.1, cell_later FX.out.1.bel EL.out.2.2.1, cell_later FX.out.1.bel EL.out.2.2.2⟩ ?_
              refine wpAnyH_take (i := 4) (v := .pointer (some ⟨bl, off + k * 2, none⟩)) rfl (by kernel_rfl) (by kernel_rfl) (by kernel_rfl) (fun _ _ _ h => h) (Or.inl ⟨by kernel_rfl, fun _ _ => by go_simp⟩) ⟨cell_later FX.out.1.bel EL.out.1, cell_later FX.out.1.bel EL.out.2.1, cell_later FX.out.1.bel EL.out.2.2.1, cell_later FX.out.1.bel EL.out.2.2.2⟩ ?_
              refine wpAnyH_take (i := 5) (v := sv a) rfl (by kernel_rfl) (by kernel_rfl) (by kernel_rfl) (fun _ _ _ h => h) (Or.inl ⟨by kernel_rfl, fun W hW => by (obtain ⟨hA, hB, hC, hD⟩ := hW; go_simp)⟩) ⟨cell_later FX.out.1.bel EL.out.1, cell_later FX.out.1.bel EL.out.2.1, cell_later FX.out.1.bel EL.out.2.2.1, cell_later FX.out.1.bel EL.out.2.2.2⟩ ?_
              refine wpAnyH_take (i := 6) (v := .slice (some ⟨bl, off, none⟩) l.length cap) rfl (by kernel_rfl) (by kernel_rfl) (by kernel_rfl) (fun _ _ _ h => h) (Or.inl ⟨by kernel_rfl, fun _ _ => by go_simp⟩) ⟨cell_later FX.out.1.bel EL.out.1, cell_later FX.out.1.bel EL.out.2.1, cell_later FX.out.1.bel EL.out.2.2.1, cell_later FX.out.1.bel EL.out.2.2.2⟩ ?_
              refine wpAnyH_take (i := 7) (v := .int .i64 ((k : Int) + 1)) rfl (by kernel_rfl) (by kernel_rfl) (by kernel_rfl) (fun _ _ _ h => h) (Or.inl ⟨by kernel_rfl, fun _ _ => by go_simp⟩) ⟨cell_later FX.out.1.bel EL.out.1, cell_later FX.out.1.bel EL.out.2.1, cell_later FX.out.1.bel EL.out.2.2.1, cell_later FX.out.1.bel EL.out.2.2.2⟩ ?_
              refine wpAnyH_take (i := 8) (v := .pointer (some ⟨bl, off + (k + 1) * 2, none⟩)) rfl (by kernel_rfl) (by kernel_rfl) (by kernel_rfl) (fun _ _ _ h => h) (Or.inl ⟨by kernel_rfl, fun _ _ => by go_simp⟩) ⟨cell_later FX.out.1.bel EL.out.1, cell_later FX.out.1.bel EL.out.2.1, cell_later FX.out.1.bel EL.out.2.2.1, cell_later FX.out.1.bel EL.out.2.2.2⟩ ?_
              refine wpAnyH_take (i := 9) (v := sv b) rfl (by kernel_rfl) (by kernel_rfl) (by kernel_rfl) (fun _ _ _ h => h) (Or.inl ⟨by kernel_rfl, fun W hW => by (obtain ⟨hA, hB, hC, hD⟩ := hW; go_simp)⟩) ⟨cell_later FX.out.1.bel EL.out.1, cell_later FX.out.1.bel EL.out.2.1, cell_later FX.out.1.bel EL.out.2.2.1, cell_later FX.out.1.bel EL.out.2.2.2⟩ ?_
              refine wpAnyH_ready (rs := [10]) (by kernel_rfl) (by simp) ?_
              refine AllReadyH.cons rfl (fun K hK => ?_) AllReadyH.nil
              rw [if_pos (by kernel_rfl)]
              go_simp
              go_at_call 59
              refine (C.out _ (w_below hb.out FX.out.1.bel)).mono ?_
              rintro e y3 ⟨rfl, hb3⟩
              replace FX := Lib.hid (show _ ∧ _ ∧ _ from ⟨FX.out.1.later hb3, FX.out.2.1.later hb3, FX.out.2.2⟩)
              clear hb3
              go_simp
              refine hK.out _ _ ⟨cell_later FX.out.1.bel EL.out.1, cell_later FX.out.1.bel EL.out.2.1, cell_later FX.out.1.bel EL.out.2.2.1, cell_later FX.out.1.bel EL.out.2.2.2⟩ (fun _ => ?_)
              clear hK K
              refine wpAnyH_ready (rs := [11]) (by kernel_rfl) (by simp) ?_
              refine AllReadyH.cons rfl (fun K hK => ?_) AllReadyH.nil
              rw [if_pos (by kernel_rfl)]
              go_simp
              have hLt := lit_new y3 #[.bool sm] 4
              have hFx := show _ ∧ _ ∧ _ from ⟨FX.out.1.later (w_alloc (w_refl y3) (.cells #[.bool sm] 4)), FX.out.2.1.later (w_alloc (w_refl y3) (.cells #[.bool sm] 4)), FX.out.2.2⟩
              generalize hy : World.alloc y3 (.cells #[.bool sm] 4) = y4 at *
              clear hy
              have LT := Lib.hid hLt
              replace FX := Lib.hid hFx
              clear hLt hFx
              refine hK.out _ _ ⟨cell_later FX.out.1.bel EL.out.1, cell_later FX.out.1.bel EL.out.2.1, cell_later FX.out.1.bel EL.out.2.2.1, cell_later FX.out.1.bel EL.out.2.2.2⟩ (fun _ => ?_)
              clear hK K
              refine wpAnyH_ready (rs := [12]) (by kernel_rfl) (by simp) ?_
              refine AllReadyH.cons rfl (fun K hK => ?_) AllReadyH.nil
              refine step_append_lies _ rfl (.tmp 52) (.tmp 63) 44 rfl wt.heap.size 4 b0 (.bool false) 1 1 Tryd.underlying44 hb0 hy0 hy1 hy2 rfl (by decide) (.slice q9 (mutAt l k).length c9) (mutAt l k).length (bools (mutSm l k)) (by rfl) FX.out.2.1.row ⟨y3.heap.size, 0, none⟩ 1 1 [.bool sm] (by rfl) rfl LT.out (bools_one [sm]) (by decide) (by unfold maxLen; omega) (by omega) FX.out.2.1.bel.size _ rfl ?_
              intro g9 c9' y5 hown hgrow hat hlt
              have hsw : ∀ b, (Value.slice q9 (mutAt l k).length c9).ownBlock = some b → (Value.slice (some ⟨g8, 0, none⟩) ((mutAt l k).length + 1) c8').ownBlock ≠ some b := fun b x y => FX.out.2.2 b y x
              have hFx := show _ ∧ OwnL wt y5 4 1 (.slice (some ⟨g9, 0, none⟩) ((mutAt l k).length + 1) c9') ((mutAt l k).length + 1) (bools (mutSm l k) ++ [.bool sm]) ∧ (∀ b, (Value.slice (some ⟨g8, 0, none⟩) ((mutAt l k).length + 1) c8').ownBlock = some b → (Value.slice (some ⟨g9, 0, none⟩) ((mutAt l k).length + 1) c9').ownBlock ≠ some b) from ⟨FX.out.2.1.beside FX.out.1 hsw hgrow, FX.out.2.1.app (w_refl y4) hown hgrow, fun b x y => sep_app (v' := .slice (some ⟨g9, 0, none⟩) ((mutAt l k).length + 1) c9') FX.out.1 hsw (hat.imp Eq.symm (fun e => by rw [e]; rfl)) b y x⟩
              replace FX := Lib.hid hFx
              clear hFx hown hgrow hat hlt LT hsw
              refine hK.out _ _ ⟨cell_later FX.out.1.bel EL.out.1, cell_later FX.out.1.bel EL.out.2.1, cell_later FX.out.1.bel EL.out.2.2.1, cell_later FX.out.1.bel EL.out.2.2.2⟩ (fun _ => ?_)
              clear hK K
              refine wpAnyH_take (i := 13) (v := .slice (some ⟨g9, 0, none⟩) ((mutAt l k).length + 1) c9') rfl (by kernel_rfl) (by kernel_rfl) (by kernel_rfl) (fun _ _ _ h => h) (Or.inl ⟨by kernel_rfl, fun _ _ => by go_simp⟩) ⟨cell_later FX.out.1.bel EL.out.1, cell_later FX.out.1.bel EL.out.2.1, cell_later FX.out.1.bel EL.out.2.2.1, cell_later FX.out.1.bel EL.out.2.2.2⟩ ?_
              refine wpAnyH_done (by kernel_rfl) ?_ _
              have EL2 := Lib.hid (show (mutAt l (k + 1)).length = (mutAt l k).length + 1 by rw [M1.out]; simp)
              have EI := Lib.hid (show ints (mutAt l (k + 1)) = ints (mutAt l k) ++ [.int .i64 ((k : Int) + 1)] by rw [M1.out]; simp [ints])
              have EB := Lib.hid (show bools (mutSm l (k + 1)) = bools (mutSm l k) ++ [.bool sm] by rw [M2.out]; simp [bools])
              go_wp2_with fail
              go_roundw
              case rel => exact ⟨k + 1, .inl (by omega), by go_num, ⟨_, c8', by rw [EL2.out]⟩, ⟨_, c9', by rw [EL2.out]⟩, by rw [EL2.out, EI.out]; exact Lib.hid FX.out.1, by rw [EL2.out, EB.out]; exact Lib.hid FX.out.2.1, Lib.hid FX.out.2.2⟩
              case measure => simp [intOf]; omega
          · have hlt' : ¬ ((k : Int) + 1 < l.length) := by omega
            have hk1 : l.length - 1 = k := by omega
            have hfin := Lib.hid (show MutPost l w (.returned (.tuple #[.slice q8 (mutAt l k).length c8, .slice q9 (mutAt l k).length c9, .int .i64 0])) wr from by
              refine ⟨_, _, by rw [hE0.out], ?_, ?_, w_below hb.out o8.out.bel⟩
              · unfold mutI; rw [if_pos hE0.out, hk1]; exact IntV.of_own o8.out.row
              · unfold mutB; rw [if_pos hE0.out, hk1]
                have := o9.out.row
                rw [← (mut_len l k).2] at this ⊢
                exact BoolV.of_own this)
            go_wp2_with fail
            go_ret3
            exact hfin.out

end Go.Proofs.YtaldbjhalpgkeaaDoor
