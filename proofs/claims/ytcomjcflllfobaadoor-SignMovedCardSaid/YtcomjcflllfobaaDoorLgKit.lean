/- What the statements of stage 7 do by themselves: copies and equality of lists, the kit's Mod, At and Has. -/
import Derived.Test.YtcomjcflllfobaaDoorLgLst
import Derived.Test.YtcomjcflllfobaaDoorLgSpec
namespace Go.Proofs.YtcomjcflllfobaaDoor
open Go.RowKit

theorem met_re {J : Act → World → Prop} {a b : Act} {w : World} (h : a = b) (k : Met J b w) : Met J a w := h ▸ k

theorem samei_any (p q : Option Addr) (cp cq : Nat) (l : List Int) (w : World) (hp : SlP w 1 p l.length cp (ints l)) (hq : SlP w 1 q l.length cq (ints l)) :
    Calls Tryd.prog 23 #[.slice p l.length cp, .slice q l.length cq] w fun e w' => e = .returned (.bool true) ∧ Below w.heap.size w w' := by
  have f1 := hp.fit
  have f2 := hq.fit
  have m1 := hp.max
  have m2 := hq.max
  have HP := Lib.hid hp
  have HQ := Lib.hid hq
  clear hp hq
  go_enter Tryd.func23, Tryd.ntmps23
  go_wp2_with fail
  go_loopw [5] (fun i wr => ∃ k : Nat, k ≤ l.length ∧ i = .int .i64 k ∧ Hid (Below w.heap.size w wr)) (fun i _ => l.length - (intOf i).toNat)
  case atStart => exact ⟨0, by omega, rfl, Lib.hid (w_refl w)⟩
  case round =>
    obtain ⟨k, hk, rfl, hb⟩ := hrel
    by_cases hlt : k < l.length
    · have hlt' : (k : Int) < l.length := by omega
      obtain ⟨s, hs⟩ : ∃ s, (ints l)[k]? = some (.int .i64 s) := ⟨l[k], by rw [List.getElem?_map, List.getElem?_eq_getElem hlt]; rfl⟩
      obtain ⟨b, off, rfl, _, hc⟩ := (HP.out.later hb.out).at_ (by omega)
      obtain ⟨b', off', rfl, _, hd⟩ := (HQ.out.later hb.out).at_ (by omega)
      have c0 := hc _ _ hs
      have d0 := hd _ _ hs
      have hb9 := Lib.hid hb.out.drew
      clear hs hc hd
      go_wp2_with fail
      go_region
      all_goals
        go_wp2_with fail
        go_roundw
        case rel => exact ⟨k + 1, by omega, by go_num, hb9⟩
        case measure => simp [intOf]; omega
    · obtain rfl : k = l.length := by omega
      go_wp2_with fail
      go_ret
      exact ⟨rfl, hb.out⟩

set_option maxHeartbeats 400000 in
theorem mod_pos (a m : Int) (w : World) (ha : 0 ≤ a) (ha1 : a ≤ 9223372036854775807) (hm : 1 ≤ m) (hm1 : m ≤ 1099511627776) :
    Calls Tryd.prog 38 #[.int .i64 a, .int .i64 m] w fun e w' => e = .returned (.int .i64 (a % m)) ∧ w = w' := by
  have r0 := Int.emod_nonneg a (show m ≠ 0 by omega)
  have r1 := Int.emod_lt_of_pos a (show 0 < m by omega)
  go_enter Tryd.func38, Tryd.ntmps38
  go_wp2
  go_ret
  exact ⟨rfl, rfl⟩

set_option maxHeartbeats 400000 in
theorem mod_neg (a m : Int) (w : World) (ha : a < 0) (ha1 : -9223372036854775808 ≤ a) (hm : 1 ≤ m) (hm1 : m ≤ 1099511627776) :
    Calls Tryd.prog 38 #[.int .i64 a, .int .i64 m] w fun e w' => e = .returned (.int .i64 (a % m)) ∧ w = w' := by
  have r0 := Int.emod_nonneg a (show m ≠ 0 by omega)
  have r1 := Int.emod_lt_of_pos a (show 0 < m by omega)
  have t0 : a.tmod m ≤ 0 := by
    have := Int.tmod_nonneg (a := -a) m (by omega)
    rw [Int.neg_tmod] at this; omega
  have t1 : -m < a.tmod m := by
    have := Int.tmod_lt_of_pos (-a) (show 0 < m by omega)
    rw [Int.neg_tmod] at this; omega
  by_cases hd : m ∣ a
  · have e := Lib.hid (Int.tmod_eq_emod (a := a) (b := m))
    have e2 := Lib.hid (show a.tmod m = a % m by rw [e.out, if_pos (.inr hd)]; simp)
    have e3 : 0 ≤ a.tmod m := by rw [e2.out]; exact r0
    clear e hd
    go_enter Tryd.func38, Tryd.ntmps38
    go_wp2
    go_ret
    rw [e2.out]; exact ⟨rfl, rfl⟩
  · have e := Lib.hid (Int.tmod_eq_emod (a := a) (b := m))
    have e2 := Lib.hid (show a.tmod m + m = a % m by rw [e.out, if_neg (by omega)]; omega)
    have e3 : a.tmod m < 0 := by have := e2.out; omega
    clear e hd
    go_enter Tryd.func38, Tryd.ntmps38
    go_wp2
    go_ret
    rw [e2.out]; exact ⟨rfl, rfl⟩

theorem mod_any (a m : Int) (w : World) (ha : -9223372036854775808 ≤ a) (ha1 : a ≤ 9223372036854775807) (hm : 1 ≤ m) (hm1 : m ≤ 1099511627776) :
    Calls Tryd.prog 38 #[.int .i64 a, .int .i64 m] w fun e w' => e = .returned (.int .i64 (a % m)) ∧ w = w' := by
  by_cases h : 0 ≤ a
  · exact mod_pos a m w h ha1 hm hm1
  · exact mod_neg a m w (by omega) ha hm hm1

set_option maxRecDepth 100000 in
set_option maxHeartbeats 2000000 in
theorem sames_any (p q : Option Addr) (cp cq : Nat) (l : List Sg) (w : World) (hp : SlP w 17 p l.length cp (flatG l)) (hq : SlP w 17 q l.length cq (flatG l)) :
    Calls Tryd.prog 53 #[.slice p l.length cp, .slice q l.length cq] w fun e w' => e = .returned (.bool true) ∧ Below w.heap.size w w' := by
  have f1 := hp.fit
  have f2 := hq.fit
  have m1 := hp.max
  have m2 := hq.max
  have HP := Lib.hid hp
  have HQ := Lib.hid hq
  clear hp hq
  go_enter Tryd.func53, Tryd.ntmps53
  go_wp2_with fail
  go_loopw [5] (fun i wr => ∃ k : Nat, k ≤ l.length ∧ i = .int .i64 k ∧ Hid (Below w.heap.size w wr)) (fun i _ => l.length - (intOf i).toNat)
  case atStart => exact ⟨0, by omega, rfl, Lib.hid (w_refl w)⟩
  case round =>
    obtain ⟨k, hk, rfl, hb⟩ := hrel
    rename World => wr
    by_cases hlt : k < l.length
    · have hlt' : (k : Int) < l.length := by omega
      obtain ⟨s, hs⟩ : ∃ s, l[k]? = some s := ⟨l[k], List.getElem?_eq_getElem hlt⟩
      obtain ⟨b, off, rfl, _, hc⟩ := (HP.out.later hb.out).sg hs
      obtain ⟨b', off', rfl, _, hd⟩ := (HQ.out.later hb.out).sg hs
      have c0 := Lib.hid hc
      have d0 := Lib.hid hd
      have hneq := fun W => sg_neq s s W
      rw [(sgE_iff s s).2 rfl] at hneq
      have hgrd := fun x y W => sg_guard BinOp.neq x y s s W
      have hk0 : (0 : Int) ≤ k := by omega
      clear hs hc hd
      go_wp2_with fail
      go_cut [25] (fun s25 wx => s25 = .bool false ∧ Hid (Below w.heap.size w wx))
      case first =>
        refine wp_region_held (S := (fun W => SgAt W b (off + k * 17) s ∧ SgAt W b' (off' + k * 17) s)) (by kernel_rfl) ?_
        change wpAnyH _ _ _ _ _ _ _ _ (World.drew _)
        have FZ := Lib.hid (show Below w.heap.size w (World.drew wr) ∧ SgAt (World.drew wr) b (off + k * 17) s ∧ SgAt (World.drew wr) b' (off' + k * 17) s from ⟨hb.out.drew, c0.out.later (w_refl _).drew, d0.out.later (w_refl _).drew⟩)
        generalize World.drew wr = z at *
        refine wpAnyH_take (i := 0) (v := .slice (some ⟨b, off, none⟩) l.length cp) rfl (by kernel_rfl) (by kernel_rfl) (by kernel_rfl) (fun _ _ _ h => h) (Or.inl ⟨by kernel_rfl, fun _ _ => by go_simp⟩) FZ.out.2 ?_
        refine wpAnyH_take (i := 1) (v := .int .i64 (k : Int)) rfl (by kernel_rfl) (by kernel_rfl) (by kernel_rfl) (fun _ _ _ h => h) (Or.inl ⟨by kernel_rfl, fun _ _ => by go_simp⟩) FZ.out.2 ?_
        refine wpAnyH_take (i := 2) (v := .pointer (some ⟨b, off + k * 17, none⟩)) rfl (by kernel_rfl) (by kernel_rfl) (by kernel_rfl) (fun _ _ _ h => h) (Or.inl ⟨by kernel_rfl, fun _ _ => by go_simp⟩) FZ.out.2 ?_
        refine wpAnyH_take (i := 3) (v := sgv s) rfl (by kernel_rfl) (by kernel_rfl) (by kernel_rfl) (fun _ _ _ h => h) (sg_yields (.tmp 19) b (off + k * 17) s (by kernel_rfl) rfl (by kernel_rfl) (fun _ h => h.1)) FZ.out.2 ?_
        refine wpAnyH_take (i := 4) (v := .slice (some ⟨b', off', none⟩) l.length cq) rfl (by kernel_rfl) (by kernel_rfl) (by kernel_rfl) (fun _ _ _ h => h) (Or.inl ⟨by kernel_rfl, fun _ _ => by go_simp⟩) FZ.out.2 ?_
        refine wpAnyH_take (i := 5) (v := .int .i64 (k : Int)) rfl (by kernel_rfl) (by kernel_rfl) (by kernel_rfl) (fun _ _ _ h => h) (Or.inl ⟨by kernel_rfl, fun _ _ => by go_simp⟩) FZ.out.2 ?_
        refine wpAnyH_take (i := 6) (v := .pointer (some ⟨b', off' + k * 17, none⟩)) rfl (by kernel_rfl) (by kernel_rfl) (by kernel_rfl) (fun _ _ _ h => h) (Or.inl ⟨by kernel_rfl, fun _ _ => by go_simp⟩) FZ.out.2 ?_
        refine wpAnyH_take (i := 7) (v := sgv s) rfl (by kernel_rfl) (by kernel_rfl) (by kernel_rfl) (fun _ _ _ h => h) (sg_yields (.tmp 23) b' (off' + k * 17) s (by kernel_rfl) rfl (by kernel_rfl) (fun _ h => h.2)) FZ.out.2 ?_
        refine wpAnyH_take (i := 8) (v := .bool false) rfl (by kernel_rfl) (by kernel_rfl) (by kernel_rfl) (fun _ _ _ h => h) (Or.inl ⟨by kernel_rfl, fun _ _ => by go_simp⟩) FZ.out.2 ?_
        refine wpAnyH_done (by kernel_rfl) ?_ _
        clear hneq hgrd c0 d0
        have hB := Lib.hid FZ.out.1
        clear FZ
        go_wp2_with fail
        refine met_re (b := { tmps := #[.slice (some ⟨b, off, none⟩) l.length cp, .slice (some ⟨b', off', none⟩) l.length cq, undef, undef, u4, .int .i64 (k : Int), .slice (some ⟨b, off, none⟩) l.length cp, .int .i64 (l.length : Int), .slice (some ⟨b', off', none⟩) l.length cq, .int .i64 (l.length : Int), .bool false, .int .i64 (k : Int), .slice (some ⟨b, off, none⟩) l.length cp, .int .i64 (l.length : Int), .bool true, u15, u16, .slice (some ⟨b, off, none⟩) l.length cp, .int .i64 (k : Int), .pointer (some ⟨b, off + k * 17, none⟩), sgv s, .slice (some ⟨b', off', none⟩) l.length cq, .int .i64 (k : Int), .pointer (some ⟨b', off' + k * 17, none⟩), sgv s, .bool false], defers := [] }) (by kernel_rfl) ?_
        go_meet
        exact ⟨rfl, hB⟩
      case rest =>
        obtain ⟨rfl, hB⟩ := hcut
        clear hneq hgrd c0 d0
        go_wp2_with fail
        go_roundw
        case rel => exact ⟨k + 1, by omega, by go_num, hB⟩
        case measure => simp [intOf]; omega
    · obtain rfl : k = l.length := by omega
      go_wp2_with fail
      go_ret
      exact ⟨rfl, hb.out⟩

set_option maxRecDepth 100000 in
set_option maxHeartbeats 2000000 in
theorem owns_any (p : Option Addr) (cap : Nat) (l : List Sg) (hl : l.length ≤ 1000) (w : World) (h : SlP w 17 p l.length cap (flatG l)) :
    Calls Tryd.prog 39 #[.slice p l.length cap] w fun e w' => ∃ v, e = .returned v ∧ OwnL w w' 27 17 v l.length (flatG l) := by
  obtain ⟨i0, hi0, hz0, hz1, hz2⟩ := info_parts info_sign
  have f1 := h.fit
  have f2 := h.max
  have HS := Lib.hid h
  clear h
  go_enter Tryd.func39, Tryd.ntmps39
  go_wp2_with (at_builtin; refine wpList_append_sl rfl _ _ 38 rfl w.heap.size 27 i0 (sgv zS) 17 128 Tryd.underlying38 hi0 hz0 hz1 hz2 rfl (by decide) _ 0 (flatG []) rfl (World.ownsRow_lit w #[] 0 (Nat.le_refl _) (by unfold maxLen; omega) rfl) p l.length cap (flatG l) rfl (HS.out.later (w_alloc (w_refl w) _)) (by unfold maxLen; omega) (by omega) (by simp) ?_)
  intro v' w1 hown hgrow
  have HN := Lib.hid (show OwnL w w1 27 17 v' l.length (flatG l) by
    have HA : OwnL w (w.alloc (.cells #[] 27)) 27 17 (.slice (some ⟨w.heap.size, 0, none⟩) 0 0) 0 (flatG []) := ⟨w_alloc (w_refl w) _, World.ownsRow_lit w #[] 0 (Nat.le_refl _) (by unfold maxLen; omega) rfl⟩
    have := HA.app (w_refl _) hown hgrow
    first | exact this | (rw [Nat.zero_add] at this; exact this))
  clear hown hgrow
  go_wp2_with fail
  go_ret
  exact ⟨_, rfl, HN.out⟩

end Go.Proofs.YtcomjcflllfobaaDoor
