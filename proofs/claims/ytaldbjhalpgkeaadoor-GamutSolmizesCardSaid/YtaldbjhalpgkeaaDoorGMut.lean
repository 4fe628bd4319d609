/- The reference's Mutations: where they are, and which are smooth, or which error. -/
import Derived.Test.YtaldbjhalpgkeaaDoorGRefG
import Derived.Test.YtaldbjhalpgkeaaDoorGTab
import Derived.BigRegion
namespace Go.Proofs.YtaldbjhalpgkeaaDoor
open Go.RowKit

/-- A slice of numbers, or of truth values, that may be read. -/
def IntV (w : World) (v : Value) (zs : List Int) : Prop := ∃ p cap, v = .slice p zs.length cap ∧ SlP w 1 p zs.length cap (ints zs)
abbrev bools (bs : List Bool) : List Value := bs.map Value.bool
def BoolV (w : World) (v : Value) (bs : List Bool) : Prop := ∃ p cap, v = .slice p bs.length cap ∧ SlP w 1 p bs.length cap (bools bs)
theorem IntV.later {w w1 : World} {v : Value} {zs : List Int} (h : IntV w v zs) (b : Below w.heap.size w w1) : IntV w1 v zs := by
  obtain ⟨p, cap, e, k⟩ := h; exact ⟨p, cap, e, k.later b⟩
theorem BoolV.later {w w1 : World} {v : Value} {bs : List Bool} (h : BoolV w v bs) (b : Below w.heap.size w w1) : BoolV w1 v bs := by
  obtain ⟨p, cap, e, k⟩ := h; exact ⟨p, cap, e, k.later b⟩
theorem IntV.none (w : World) : IntV w (.slice none 0 0) [] := ⟨_, 0, rfl, ⟨rfl, by simp, by omega, fun _ => rfl, by simp, fun h => by simp at h⟩⟩
theorem BoolV.none (w : World) : BoolV w (.slice none 0 0) [] := ⟨_, 0, rfl, ⟨rfl, by simp, by omega, fun _ => rfl, by simp, fun h => by simp at h⟩⟩
theorem bools_one (bs : List Bool) : ∀ u ∈ bools bs, u.oneCell' = true := by
  intro u hu
  rw [List.mem_map] at hu
  obtain ⟨z, _, rfl⟩ := hu
  rfl
theorem IntV.of_own {w : World} {base : Nat} {e : TypeId} {v : Value} {zs : List Int} (h : w.ownsRow base e 1 v zs.length (ints zs)) : IntV w v zs := SlP.of_own h (ints_len _) (ints_one _)
theorem BoolV.of_own {w : World} {base : Nat} {e : TypeId} {v : Value} {bs : List Bool} (h : w.ownsRow base e 1 v bs.length (bools bs)) : BoolV w v bs := SlP.of_own h (by simp) (bools_one _)
theorem info_bool : (Tryd.prog.info? 4).map (fun i => (i.zero, i.size, i.bytes)) = some (some (.bool false), 1, 1) := by kernel_rfl

/-- The mutations of the first k + 1 elements. -/
def mutAt (l : List Sy) : Nat → List Int
  | 0 => []
  | k + 1 => mutAt l k ++ (if (l.getD k (0, 0)).1 = (l.getD (k + 1) (0, 0)).1 then [] else [((k + 1 : Nat) : Int)])
def mutSm (l : List Sy) : Nat → List Bool
  | 0 => []
  | k + 1 => mutSm l k ++ (if (l.getD k (0, 0)).1 = (l.getD (k + 1) (0, 0)).1 then [] else [smoothB (l.getD k (0, 0)) (l.getD (k + 1) (0, 0))])
theorem mut_len (l : List Sy) : ∀ k, (mutAt l k).length ≤ k ∧ (mutSm l k).length = (mutAt l k).length
  | 0 => by simp [mutAt, mutSm]
  | k + 1 => by
    have := mut_len l k
    unfold mutAt mutSm
    rw [List.length_append, List.length_append]
    split <;> simp <;> omega
/-- The first error of a list of ways. -/
def mutE (l : List Sy) : Int := if 400 < l.length then 11 else if ∀ s ∈ l, okS s then 0 else 2
def mutI (l : List Sy) : List Int := if mutE l = 0 then mutAt l (l.length - 1) else []
def mutB (l : List Sy) : List Bool := if mutE l = 0 then mutSm l (l.length - 1) else []
def MutPost (l : List Sy) (w : World) (e : Ending) (w' : World) : Prop :=
  ∃ v u, e = .returned (.tuple #[v, u, .int .i64 (mutE l)]) ∧ IntV w' v (mutI l) ∧ BoolV w' u (mutB l) ∧ Below w.heap.size w w'
theorem MutPost.bad {l : List Sy} {w w' : World} {e : Int} (h : mutE l = e) (h0 : e ≠ 0) (hb : Below w.heap.size w w') : MutPost l w (.returned (.tuple #[.slice none 0 0, .slice none 0 0, .int .i64 e])) w' := by
  refine ⟨_, _, by rw [h], ?_, ?_, hb⟩
  · unfold mutI; rw [h, if_neg h0]; exact IntV.none _
  · unfold mutB; rw [h, if_neg h0]; exact BoolV.none _

set_option maxRecDepth 100000 in
set_option maxHeartbeats 4000000 in
theorem rmutations_any (p : Option Addr) (cap : Nat) (l : List Sy) (w : World) (h : SlP w 2 p l.length cap (flatS l)) : Calls Tryd.prog 26 #[.slice p l.length cap] w (MutPost l w) := by
  have HS := Lib.hid h
  have f1 := h.fit
  have f2 := h.max
  clear h
  obtain ⟨k0, hk0, hx0, hx1, hx2⟩ := info_parts info_int
  obtain ⟨b0, hb0, hy0, hy1, hy2⟩ := info_parts info_bool
  have PI := Lib.hid (fun s W => rpitch_any s W)
  have SM := Lib.hid (fun a b ha hb W => rsmooth_any a b ha hb W)
  by_cases hbig : 400 < l.length
  · have hbig' : (400 : Int) < l.length := by omega
    have hfin := Lib.hid (MutPost.bad (l := l) (w := w) (w' := w) (e := 11) (by unfold mutE; rw [if_pos hbig]) (by decide) (w_refl w))
    go_enter Tryd.func26, Tryd.ntmps26
    go_wp2_with fail
    go_ret3
    exact hfin.out
  · have hbig' : ¬ ((400 : Int) < l.length) := by omega
    have hl : l.length ≤ 400 := by omega
    have hE := Lib.hid (show mutE l = if ∀ s ∈ l, okS s then 0 else 2 from by unfold mutE; rw [if_neg hbig])
    go_enter Tryd.func26, Tryd.ntmps26
    go_wp2_with fail
    go_loopw [5] (fun s5 wr => ∃ i : Nat, i ≤ l.length ∧ s5 = .int .i64 i ∧ Hid (∀ s ∈ l.take i, okS s) ∧ Hid (Below w.heap.size w wr)) (fun s5 _ => l.length - (intOf s5).toNat)
    case atStart => exact ⟨0, Nat.zero_le _, rfl, Lib.hid (by simp), Lib.hid (w_refl w)⟩
    case round =>
      obtain ⟨i, hin, rfl, hall, hb⟩ := hrel
      by_cases hi : i < l.length
      · have hi' : (i : Int) < l.length := by omega
        obtain ⟨s, hq⟩ : ∃ s, l[i]? = some s := ⟨l[i], List.getElem?_eq_getElem hi⟩
        obtain ⟨bl, off, rfl, hbl, a0, a1⟩ := (HS.out.later hb.out).way hq
        have C := Lib.hid (fun W => PI.out s W)
        unfold PitPost pitV at C
        by_cases hok : okS s
        · rw [if_pos hok] at C
          have hN := Lib.hid (show ∀ s ∈ l.take (i + 1), okS s from fun x hx => by
            rw [List.take_add_one, hq] at hx
            rcases List.mem_append.1 hx with hx | hx
            · exact hall.out x hx
            · simp at hx; subst hx; exact hok)
          clear hok hq
          generalize madeS s = mp at *
          go_wp2_with fail
          refine (C.out _).mono ?_
          rintro e w1 ⟨rfl, hb1⟩
          have HB1 := Lib.hid (w_alloc (w_below hb.out hb1) (pO mp))
          clear hb1 C a0 a1 hall
          go_wp2_with fail
          go_roundw
          case rel => exact ⟨i + 1, by omega, by go_num, hN, HB1⟩
          case measure => simp [intOf]; omega
        · rw [if_neg hok] at C
          have hfin := Lib.hid (fun w' hb' => MutPost.bad (l := l) (w := w) (w' := w') (e := 2) (by rw [hE.out, if_neg (fun x => hok (x s (List.mem_of_getElem? hq)))]) (by decide) hb')
          clear hok hq
          go_wp2_with fail
          refine (C.out _).mono ?_
          rintro e w1 ⟨rfl, hb1⟩
          have HB1 := Lib.hid (w_alloc (w_below hb.out hb1) (pO (0, 0, 0)))
          clear hb1 C a0 a1 hall
          go_wp2_with fail
          go_ret3
          exact hfin.out _ HB1.out
      · obtain rfl : i = l.length := by omega
        have hok : ∀ s ∈ l, okS s := by have := hall.out; rwa [List.take_length] at this
        have OK := Lib.hid hok
        have hE0 := Lib.hid (show mutE l = 0 by rw [hE.out, if_pos hok])
        clear hok hall hE
        generalize hwt : wr = wt at *
        clear hwt
        go_wp2_with fail
        go_loopw [8, 9, 10] (fun s8 s9 s10 wc => ∃ k : Nat, (k + 1 ≤ l.length ∨ k = 0) ∧ s10 = .int .i64 ((k : Int) + 1) ∧ (∃ q c, s8 = .slice q (mutAt l k).length c) ∧ (∃ q c, s9 = .slice q (mutAt l k).length c) ∧
          Hid (OwnL wt wc 3 1 s8 (mutAt l k).length (ints (mutAt l k))) ∧ Hid (OwnL wt wc 4 1 s9 (mutAt l k).length (bools (mutSm l k))) ∧ Hid (∀ b, s8.ownBlock = some b → s9.ownBlock ≠ some b)) (fun _ _ s10 _ => l.length - (intOf s10).toNat)
        case atStart => exact ⟨0, .inr rfl, rfl, ⟨none, 0, rfl⟩, ⟨none, 0, rfl⟩, Lib.hid (OwnL.start _ _ _), Lib.hid (OwnL.start _ _ _), Lib.hid (fun b hb => by cases hb)⟩
        case round =>
          obtain ⟨k, hk, rfl, ⟨q8, c8, rfl⟩, ⟨q9, c9, rfl⟩, o8, o9, hsep⟩ := hrel
          by_cases hlt : k + 1 < l.length
          · have hlt' : (k : Int) + 1 < l.length := by omega
            have hlt2 : k < l.length := by omega
            have hlt3 : (k : Int) < l.length := by omega
            obtain ⟨a, ha⟩ : ∃ a, l[k]? = some a := ⟨l[k], List.getElem?_eq_getElem hlt2⟩
            obtain ⟨b, hb'⟩ : ∃ b, l[k + 1]? = some b := ⟨l[k + 1], List.getElem?_eq_getElem hlt⟩
            have oka := OK.out a (List.mem_of_getElem? ha)
            have okb := OK.out b (List.mem_of_getElem? hb')
            have C := Lib.hid (fun W => SM.out a b oka okb W)
            have m1 : mutAt l (k + 1) = mutAt l k ++ (if a.1 = b.1 then [] else [((k + 1 : Nat) : Int)]) := by
              show mutAt l k ++ (if (l.getD k (0, 0)).1 = (l.getD (k + 1) (0, 0)).1 then [] else _) = _
              rw [List.getD, ha, List.getD, hb']; rfl
            have m2 : mutSm l (k + 1) = mutSm l k ++ (if a.1 = b.1 then [] else [smoothB a b]) := by
              show mutSm l k ++ (if (l.getD k (0, 0)).1 = (l.getD (k + 1) (0, 0)).1 then [] else [smoothB (l.getD k (0, 0)) (l.getD (k + 1) (0, 0))]) = _
              rw [List.getD, ha, List.getD, hb']; rfl
            have ml := mut_len l k
            obtain ⟨bl, off, hp, hbl, z0, z1⟩ := (HS.out.later hb.out).way ha
            obtain ⟨bl2, off2, hp2, _, y0, y1⟩ := (HS.out.later hb.out).way hb'
            subst hp
            simp only [Option.some.injEq, Addr.mk.injEq, and_true] at hp2
            obtain ⟨rfl, rfl⟩ := hp2
            have EL := Lib.hid (show _ ∧ _ ∧ _ ∧ _ from ⟨z0, z1, y0, y1⟩)
            have d0 := cell_later o8.out.bel z0
            have e0 := cell_later o8.out.bel y0
            clear z0 z1 y0 y1
            have x1 : IntKind.i64.wrap ((k : Int) + 1 - 1) = k := by rw [IntWalk.i64_in _ (by omega)]; omega
            have x2 : IntKind.i64.wrap ((k : Int) + 1 + 1) = (k : Int) + 1 + 1 := IntWalk.i64_in _ (by omega)
            have x3 : IntKind.i64.wrap (k : Int) = k := IntWalk.i64_in _ (by omega)
            have n0 : (0 : Int) ≤ (k : Int) + 1 := by omega
            clear ha hb' oka okb
            generalize smoothB a b = sm at *
            by_cases e : a.1 = b.1
            · rw [if_pos e, List.append_nil] at m1 m2
              have M1 := Lib.hid m1
              have M2 := Lib.hid m2
              have O8 := Lib.hid (o8.out.later (w_refl _).drew)
              have O9 := Lib.hid (o9.out.later (w_refl _).drew)
              rw [e] at d0
              clear e m1 m2
              go_wp2_with fail
              go_region
              all_goals
                go_wp2_with fail
                go_roundw
                case rel => exact ⟨k + 1, .inl (by omega), by go_num, ⟨q8, c8, by rw [M1.out]⟩, ⟨q9, c9, by rw [M1.out]⟩, by rw [M1.out]; exact O8, by rw [M1.out, M2.out]; exact O9, hsep⟩
                case measure => simp [intOf]; omega
            · rw [if_neg e] at m1 m2
              have e2 : ¬ b.1 = a.1 := fun x => e x.symm
              have e3 : (b.1 == a.1) = false := by simp [e2]
              have M1 := Lib.hid m1
              have M2 := Lib.hid m2
              clear e m1 m2
              go_upto_region 14 with (fail)
              go_region
              clear d0 e0
              go_upto_region 15 with (fail)
              refine wp_region_held (S := fun W => W.cell? ⟨bl, off + k * 2, none⟩ = some (.int .i64 a.1) ∧ W.cell? ⟨bl, off + k * 2 + 1, none⟩ = some (.int .i64 a.2) ∧ W.cell? ⟨bl, off + (k + 1) * 2, none⟩ = some (.int .i64 b.1) ∧ W.cell? ⟨bl, off + (k + 1) * 2 + 1, none⟩ = some (.int .i64 b.2)) (by kernel_rfl) ?_
              change wpAnyH _ _ _ _ _ _ _ _ (World.drew _)
              have FX := Lib.hid (show _ ∧ _ ∧ _ from ⟨o8.out.later (w_refl _).drew.drew, o9.out.later (w_refl _).drew.drew, hsep.out⟩)
              generalize hy : World.drew (World.drew wr) = y at *
              clear hy
              refine wpAnyH_take (i := 0) (v := .slice q8 (mutAt l k).length c8) rfl (by kernel_rfl) (by kernel_rfl) (by kernel_rfl) (fun _ _ _ h => h) (Or.inl ⟨by kernel_rfl, fun _ _ => by go_simp⟩) ⟨cell_later FX.out.1.bel EL.out.1, cell_later FX.out.1.bel EL.out.2.1, cell_later FX.out.1.bel EL.out.2.2.1, cell_later FX.out.1.bel EL.out.2.2.2⟩ ?_
              refine wpAnyH_take (i := 1) (v := .int .i64 ((k : Int) + 1)) rfl (by kernel_rfl) (by kernel_rfl) (by kernel_rfl) (fun _ _ _ h => h) (Or.inl ⟨by kernel_rfl, fun _ _ => by go_simp⟩) ⟨cell_later FX.out.1.bel EL.out.1, cell_later FX.out.1.bel EL.out.2.1, cell_later FX.out.1.bel EL.out.2.2.1, cell_later FX.out.1.bel EL.out.2.2.2⟩ ?_
              refine wpAnyH_take (i := 4) (v := .slice q9 (mutAt l k).length c9) rfl (by kernel_rfl) (by kernel_rfl) (by kernel_rfl) (fun _ _ _ h => h) (Or.inl ⟨by kernel_rfl, fun _ _ => by go_simp⟩) ⟨cell_later FX.out.1.bel EL.out.1, cell_later FX.out.1.bel EL.out.2.1, cell_later FX.out.1.bel EL.out.2.2.1, cell_later FX.out.1.bel EL.out.2.2.2⟩ ?_
              refine wpAnyH_take (i := 5) (v := .slice (some ⟨bl, off, none⟩) l.length cap) rfl (by kernel_rfl) (by kernel_rfl) (by kernel_rfl) (fun _ _ _ h => h) (Or.inl ⟨by kernel_rfl, fun _ _ => by go_simp⟩) ⟨cell_later FX.out.1.bel EL.out.1, cell_later FX.out.1.bel EL.out.2.1, cell_later FX.out.1.bel EL.out.2.2.1, cell_later FX.out.1.bel EL.out.2.2.2⟩ ?_
              refine wpAnyH_take (i := 6) (v := .int .i64 ((k : Int) + 1)) rfl (by kernel_rfl) (by kernel_rfl) (by kernel_rfl) (fun _ _ _ h => h) (Or.inl ⟨by kernel_rfl, fun _ _ => by go_simp⟩) ⟨cell_later FX.out.1.bel EL.out.1, cell_later FX.out.1.bel EL.out.2.1, cell_later FX.out.1.bel EL.out.2.2.1, cell_later FX.out.1.bel EL.out.2.2.2⟩ ?_
              refine wpAnyH_take (i := 7) (v := .int .i64 k) rfl (by kernel_rfl) (by kernel_rfl) (by kernel_rfl) (fun _ _ _ h => h) (Or.inl ⟨by kernel_rfl, fun _ _ => by go_simp⟩) ⟨cell_later FX.out.1.bel EL.out.1, cell_later FX.out.1.bel EL.out.2.1, cell_later FX.out.1.bel EL.out.2.2.1, cell_later FX.out.1.bel EL.out.2.2.2⟩ ?_
              refine wpAnyH_take (i := 8) (v := .pointer (some ⟨bl, off + k * 2, none⟩)) rfl (by kernel_rfl) (by kernel_rfl) (by kernel_rfl) (fun _ _ _ h => h) (Or.inl ⟨by kernel_rfl, fun _ _ => by go_simp⟩) ⟨cell_later FX.out.1.bel EL.out.1, cell_later FX.out.1.bel EL.out.2.1, cell_later FX.out.1.bel EL.out.2.2.1, cell_later FX.out.1.bel EL.out.2.2.2⟩ ?_
              refine wpAnyH_take (i := 9) (v := sv a) rfl (by kernel_rfl) (by kernel_rfl) (by kernel_rfl) (fun _ _ _ h => h) (Or.inl ⟨by kernel_rfl, fun W hW => by (obtain ⟨hA, hB, hC, hD⟩ := hW; go_simp)⟩) ⟨cell_later FX.out.1.bel EL.out.1, cell_later FX.out.1.bel EL.out.2.1, cell_later FX.out.1.bel EL.out.2.2.1, cell_later FX.out.1.bel EL.out.2.2.2⟩ ?_
              refine wpAnyH_take (i := 10) (v := .slice (some ⟨bl, off, none⟩) l.length cap) rfl (by kernel_rfl) (by kernel_rfl) (by kernel_rfl) (fun _ _ _ h => h) (Or.inl ⟨by kernel_rfl, fun _ _ => by go_simp⟩) ⟨cell_later FX.out.1.bel EL.out.1, cell_later FX.out.1.bel EL.out.2.1, cell_later FX.out.1.bel EL.out.2.2.1, cell_later FX.out.1.bel EL.out.2.2.2⟩ ?_
              refine wpAnyH_take (i := 11) (v := .int .i64 ((k : Int) + 1)) rfl (by kernel_rfl) (by kernel_rfl) (by kernel_rfl) (fun _ _ _ h => h) (Or.inl ⟨by kernel_rfl, fun _ _ => by go_simp⟩) ⟨cell_later FX.out.1.bel EL.out.1, cell_later FX.out.1.bel EL.out.2.1, cell_later FX.out.1.bel EL.out.2.2.1, cell_later FX.out.1.bel EL.out.2.2.2⟩ ?_
              refine wpAnyH_take (i := 12) (v := .pointer (some ⟨bl, off + (k + 1) * 2, none⟩)) rfl (by kernel_rfl) (by kernel_rfl) (by kernel_rfl) (fun _ _ _ h => h) (Or.inl ⟨by kernel_rfl, fun _ _ => by go_simp⟩) ⟨cell_later FX.out.1.bel EL.out.1, cell_later FX.out.1.bel EL.out.2.1, cell_later FX.out.1.bel EL.out.2.2.1, cell_later FX.out.1.bel EL.out.2.2.2⟩ ?_
              refine wpAnyH_take (i := 13) (v := sv b) rfl (by kernel_rfl) (by kernel_rfl) (by kernel_rfl) (fun _ _ _ h => h) (Or.inl ⟨by kernel_rfl, fun W hW => by (obtain ⟨hA, hB, hC, hD⟩ := hW; go_simp)⟩) ⟨cell_later FX.out.1.bel EL.out.1, cell_later FX.out.1.bel EL.out.2.1, cell_later FX.out.1.bel EL.out.2.2.1, cell_later FX.out.1.bel EL.out.2.2.2⟩ ?_
              refine wpAnyH_ready (rs := [2]) (by kernel_rfl) (by simp) ?_
              refine AllReadyH.cons rfl (fun K hK => ?_) AllReadyH.nil
              rw [if_pos (by kernel_rfl)]
              go_simp
              have hLt := lit_new y #[.int .i64 ((k : Int) + 1)] 3
              have hFx := show _ ∧ _ ∧ _ from ⟨FX.out.1.later (w_alloc (w_refl y) (.cells #[.int .i64 ((k : Int) + 1)] 3)), FX.out.2.1.later (w_alloc (w_refl y) (.cells #[.int .i64 ((k : Int) + 1)] 3)), FX.out.2.2⟩
              have hSz : y.heap.size < (y.alloc (.cells #[.int .i64 ((k : Int) + 1)] 3)).heap.size := by simp
              generalize hy : World.alloc y (.cells #[.int .i64 ((k : Int) + 1)] 3) = y1 at *
              clear hy
              have LT := Lib.hid hLt
              replace FX := Lib.hid hFx
              clear hLt hFx hSz
              refine hK.out _ _ ⟨cell_later FX.out.1.bel EL.out.1, cell_later FX.out.1.bel EL.out.2.1, cell_later FX.out.1.bel EL.out.2.2.1, cell_later FX.out.1.bel EL.out.2.2.2⟩ (fun _ => ?_)
              clear hK K
              refine wpAnyH_ready (rs := [3]) (by kernel_rfl) (by simp) ?_
              refine AllReadyH.cons rfl (fun K hK => ?_) AllReadyH.nil
              refine step_append_lies _ rfl (.tmp 49) (.tmp 51) 43 rfl wt.heap.size 3 k0 (.int .i64 0) 1 8 Tryd.underlying43 hk0 hx0 hx1 hx2 rfl (by decide) (.slice q8 (mutAt l k).length c8) (mutAt l k).length (ints (mutAt l k)) (by rfl) FX.out.1.row ⟨y.heap.size, 0, none⟩ 1 1 [.int .i64 ((k : Int) + 1)] (by rfl) rfl LT.out (one_int _) (by decide) (by unfold maxLen; omega) (by omega) FX.out.1.bel.size _ rfl ?_
              intro g8 c8' y2 hown hgrow hat hlt
              have hFx := show OwnL wt y2 3 1 (.slice (some ⟨g8, 0, none⟩) ((mutAt l k).length + 1) c8') ((mutAt l k).length + 1) (ints (mutAt l k) ++ [.int .i64 ((k : Int) + 1)]) ∧ _ ∧ _ from ⟨FX.out.1.app (w_refl y1) hown hgrow, FX.out.1.beside FX.out.2.1 FX.out.2.2 hgrow, sep_app (v' := .slice (some ⟨g8, 0, none⟩) ((mutAt l k).length + 1) c8') FX.out.2.1 FX.out.2.2 (hat.imp Eq.symm (fun e => by rw [e]; rfl))⟩
              replace FX := Lib.hid hFx
              clear hFx hown hgrow hat hlt LT
              refine hK.out _ _ ⟨cell_later FX.out.1.bel EL.out.1, cell_later FX.out.1.bel EL.out.2.1, cell_later FX.out.1.bel EL.out.2.2.1, cell_later FX.out.1.bel EL.out.2.2.2⟩ (fun _ => ?_)
              clear hK K
              refine wpAnyH_ready (rs := [14]) (by kernel_rfl) (by simp) ?_
              refine AllReadyH.cons rfl (fun K hK => ?_) AllReadyH.nil
              rw [if_pos (by kernel_rfl)]
              go_simp
              go_at_call 60
              refine (C.out _).mono ?_
              rintro e y3 ⟨rfl, hb3⟩
              replace FX := Lib.hid (show _ ∧ _ ∧ _ from ⟨FX.out.1.later hb3, FX.out.2.1.later hb3, FX.out.2.2⟩)
              clear hb3
              go_simp
              refine hK.out _ _ ⟨cell_later FX.out.1.bel EL.out.1, cell_later FX.out.1.bel EL.out.2.1, cell_later FX.out.1.bel EL.out.2.2.1, cell_later FX.out.1.bel EL.out.2.2.2⟩ (fun _ => ?_)
              clear hK K
              refine wpAnyH_ready (rs := [15]) (by kernel_rfl) (by simp) ?_
              refine AllReadyH.cons rfl (fun K hK => ?_) AllReadyH.nil
              rw [if_pos (by kernel_rfl)]
              go_simp
              have hLt := lit_new y3 #[.bool sm] 4
              have hFx := show _ ∧ _ ∧ _ from ⟨FX.out.1.later (w_alloc (w_refl y3) (.cells #[.bool sm] 4)), FX.out.2.1.later (w_alloc (w_refl y3) (.cells #[.bool sm] 4)), FX.out.2.2⟩
              generalize hy : World.alloc y3 (.cells #[.bool sm] 4) = y4 at *
              clear hy
              have LT := Lib.hid hLt
              replace FX := Lib.hid hFx
              clear hLt hFx
              refine hK.out _ _ ⟨cell_later FX.out.1.bel EL.out.1, cell_later FX.out.1.bel EL.out.2.1, cell_later FX.out.1.bel EL.out.2.2.1, cell_later FX.out.1.bel EL.out.2.2.2⟩ (fun _ => ?_)
              clear hK K
              refine wpAnyH_ready (rs := [16]) (by kernel_rfl) (by simp) ?_
              refine AllReadyH.cons rfl (fun K hK => ?_) AllReadyH.nil
              refine step_append_lies _ rfl (.tmp 53) (.tmp 64) 44 rfl wt.heap.size 4 b0 (.bool false) 1 1 Tryd.underlying44 hb0 hy0 hy1 hy2 rfl (by decide) (.slice q9 (mutAt l k).length c9) (mutAt l k).length (bools (mutSm l k)) (by rfl) FX.out.2.1.row ⟨y3.heap.size, 0, none⟩ 1 1 [.bool sm] (by rfl) rfl LT.out (bools_one [sm]) (by decide) (by unfold maxLen; omega) (by omega) FX.out.2.1.bel.size _ rfl ?_
              intro g9 c9' y5 hown hgrow hat hlt
              have hsw : ∀ b, (Value.slice q9 (mutAt l k).length c9).ownBlock = some b → (Value.slice (some ⟨g8, 0, none⟩) ((mutAt l k).length + 1) c8').ownBlock ≠ some b := fun b x y => FX.out.2.2 b y x
              have hFx := show _ ∧ OwnL wt y5 4 1 (.slice (some ⟨g9, 0, none⟩) ((mutAt l k).length + 1) c9') ((mutAt l k).length + 1) (bools (mutSm l k) ++ [.bool sm]) ∧ (∀ b, (Value.slice (some ⟨g8, 0, none⟩) ((mutAt l k).length + 1) c8').ownBlock = some b → (Value.slice (some ⟨g9, 0, none⟩) ((mutAt l k).length + 1) c9').ownBlock ≠ some b) from ⟨FX.out.2.1.beside FX.out.1 hsw hgrow, FX.out.2.1.app (w_refl y4) hown hgrow, fun b x y => sep_app (v' := .slice (some ⟨g9, 0, none⟩) ((mutAt l k).length + 1) c9') FX.out.1 hsw (hat.imp Eq.symm (fun e => by rw [e]; rfl)) b y x⟩
              replace FX := Lib.hid hFx
              clear hFx hown hgrow hat hlt LT hsw
              refine hK.out _ _ ⟨cell_later FX.out.1.bel EL.out.1, cell_later FX.out.1.bel EL.out.2.1, cell_later FX.out.1.bel EL.out.2.2.1, cell_later FX.out.1.bel EL.out.2.2.2⟩ (fun _ => ?_)
              clear hK K
              refine wpAnyH_take (i := 17) (v := .slice (some ⟨g8, 0, none⟩) ((mutAt l k).length + 1) c8') rfl (by kernel_rfl) (by kernel_rfl) (by kernel_rfl) (fun _ _ _ h => h) (Or.inl ⟨by kernel_rfl, fun _ _ => by go_simp⟩) ⟨cell_later FX.out.1.bel EL.out.1, cell_later FX.out.1.bel EL.out.2.1, cell_later FX.out.1.bel EL.out.2.2.1, cell_later FX.out.1.bel EL.out.2.2.2⟩ ?_
              refine wpAnyH_take (i := 18) (v := .slice (some ⟨g9, 0, none⟩) ((mutAt l k).length + 1) c9') rfl (by kernel_rfl) (by kernel_rfl) (by kernel_rfl) (fun _ _ _ h => h) (Or.inl ⟨by kernel_rfl, fun _ _ => by go_simp⟩) ⟨cell_later FX.out.1.bel EL.out.1, cell_later FX.out.1.bel EL.out.2.1, cell_later FX.out.1.bel EL.out.2.2.1, cell_later FX.out.1.bel EL.out.2.2.2⟩ ?_
              refine wpAnyH_done (by kernel_rfl) ?_ _
              have EL2 := Lib.hid (show (mutAt l (k + 1)).length = (mutAt l k).length + 1 by rw [M1.out]; simp)
              have EI := Lib.hid (show ints (mutAt l (k + 1)) = ints (mutAt l k) ++ [.int .i64 ((k : Int) + 1)] by rw [M1.out]; simp [ints])
              have EB := Lib.hid (show bools (mutSm l (k + 1)) = bools (mutSm l k) ++ [.bool sm] by rw [M2.out]; simp [bools])
              go_wp2_with fail
              go_roundw
              case rel => exact ⟨k + 1, .inl (by omega), by go_num, ⟨_, c8', by rw [EL2.out]⟩, ⟨_, c9', by rw [EL2.out]⟩, by rw [EL2.out, EI.out]; exact Lib.hid FX.out.1, by rw [EL2.out, EB.out]; exact Lib.hid FX.out.2.1, Lib.hid FX.out.2.2⟩
              case measure => simp [intOf]; omega
          · have hlt' : ¬ ((k : Int) + 1 < l.length) := by omega
            have hk1 : l.length - 1 = k := by omega
            have hfin := Lib.hid (show MutPost l w (.returned (.tuple #[.slice q8 (mutAt l k).length c8, .slice q9 (mutAt l k).length c9, .int .i64 0])) wr from by
              refine ⟨_, _, by rw [hE0.out], ?_, ?_, w_below hb.out o8.out.bel⟩
              · unfold mutI; rw [if_pos hE0.out, hk1]; exact IntV.of_own o8.out.row
              · unfold mutB; rw [if_pos hE0.out, hk1]
                have := o9.out.row
                rw [← (mut_len l k).2] at this ⊢
                exact BoolV.of_own this)
            go_wp2_with fail
            go_ret3
            exact hfin.out

end Go.Proofs.YtaldbjhalpgkeaaDoor
