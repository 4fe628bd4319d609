/- The sum of a list of times in memory: span.total, Sum and Add. -/
import Derived.Test.YtjgkliiofechfaaDoorCmp
namespace Go.Proofs.YtjgkliiofechfaaDoor
open Go.RowKit

/-- The first error of a list of times. -/
def chkL : List (Int × Int) → Int
  | [] => 0
  | (a, b) :: t => if chk a b = 0 then chkL t else chk a b

/-- One time after the other is added. -/
def addL (n d : Int) : List (Int × Int) → Int × Int × Int
  | [] => (n, d, 0)
  | (a, b) :: t => if (low (n * b + a * d) (d * b)).2.2 = 0 then addL (low (n * b + a * d) (d * b)).1 (low (n * b + a * d) (d * b)).2.1 t else (0, 0, (low (n * b + a * d) (d * b)).2.2)

/-- The sum of a list of times. -/
def sumV (l : List (Int × Int)) : Int × Int × Int := if chkL l = 0 then addL 0 1 l else (0, 0, chkL l)

/-- The list's cells lie in block b from off on. -/
structure TimesAt (w : World) (b off : Nat) (l : List (Int × Int)) : Prop where
  inb : b < w.heap.size
  num : ∀ k, k < l.length → w.cell? ⟨b, off + k * 2, none⟩ = some (.int .i64 (l.getD k (0, 0)).1)
  den : ∀ k, k < l.length → w.cell? ⟨b, off + k * 2 + 1, none⟩ = some (.int .i64 (l.getD k (0, 0)).2)

theorem drop_at (l : List (Int × Int)) (k : Nat) (h : k < l.length) : l.drop k = ((l.getD k (0, 0)).1, (l.getD k (0, 0)).2) :: l.drop (k + 1) := by
  have e : l.getD k (0, 0) = l[k] := by simp [h]
  rw [e]; exact List.drop_eq_getElem_cons h

theorem chkL_step (l : List (Int × Int)) (k : Nat) (h : k < l.length) :
    chkL (l.drop k) = if chk (l.getD k (0, 0)).1 (l.getD k (0, 0)).2 = 0 then chkL (l.drop (k + 1)) else chk (l.getD k (0, 0)).1 (l.getD k (0, 0)).2 := by
  rw [drop_at l k h]; rfl

theorem addL_step (n d : Int) (l : List (Int × Int)) (k : Nat) (h : k < l.length) :
    addL n d (l.drop k) = if (low (n * (l.getD k (0, 0)).2 + (l.getD k (0, 0)).1 * d) (d * (l.getD k (0, 0)).2)).2.2 = 0 then addL (low (n * (l.getD k (0, 0)).2 + (l.getD k (0, 0)).1 * d) (d * (l.getD k (0, 0)).2)).1 (low (n * (l.getD k (0, 0)).2 + (l.getD k (0, 0)).1 * d) (d * (l.getD k (0, 0)).2)).2.1 (l.drop (k + 1)) else (0, 0, (low (n * (l.getD k (0, 0)).2 + (l.getD k (0, 0)).1 * d) (d * (l.getD k (0, 0)).2)).2.2) := by
  rw [drop_at l k h]; rfl

theorem chkL_all : ∀ (l : List (Int × Int)), chkL l = 0 → ∀ k, k < l.length → Valid (l.getD k (0, 0)).1 (l.getD k (0, 0)).2
  | [], _, k, hk => by simp at hk
  | (a, b) :: t, h, k, hk => by
    unfold chkL at h
    split at h
    · rename_i h0
      cases k with
      | zero => simpa using valid_of_chk h0
      | succ k => simpa using chkL_all t h k (by simpa using hk)
    · omega

theorem Own2.set {w : World} {b : Nat} {n d n' d' : Int} (h : Own2 w b n d) : Own2 ((w.setCell ⟨b, 0, none⟩ (.int .i64 n')).setCell ⟨b, 1, none⟩ (.int .i64 d')) b n' d' := by
  obtain ⟨hi, c0, c1, f0, f1⟩ := h
  refine ⟨?_, ?_, ?_, ?_, ?_⟩
  · simpa [World.setCell] using hi
  · go_simp
  · go_simp
  · go_simp
  · go_simp

theorem Own2.mono {w w1 : World} {b : Nat} {n d : Int} (h : Own2 w b n d) (k : Below (b + 1) w w1) : Own2 w1 b n d := h.below k (by omega)

set_option maxHeartbeats 1000000 in
theorem total_any (b off cap : Nat) (l : List (Int × Int)) (w : World) (ht : TimesAt w b off l) (hl : l.length ≤ cap) (hm : cap ≤ 9223372036854775807) :
    Calls Tryd.prog 48 #[.slice (some ⟨b, off, none⟩) l.length cap] w fun e w' => e = .returned (tev (sumV l)) ∧ Below w.heap.size w w' := by
  have hin := ht.inb
  have HT := Lib.hid ht
  clear ht
  go_enter Tryd.func48, Tryd.ntmps48
  go_wp2_with fail
  go_loopw [14] (fun i wr => ∃ k : Nat, k ≤ l.length ∧ i = .int .i64 k ∧ Hid (Below (w.heap.size + 1) (w.alloc (.cells #[.int .i64 0, .int .i64 0] 23)) wr) ∧ Hid (chkL (l.drop k) = chkL l)) (fun i _ => l.length - (intOf i).toNat)
  case atStart => exact ⟨0, by omega, rfl, Lib.hid (Below.refl _ _), Lib.hid rfl⟩
  case round =>
    obtain ⟨k, hk, rfl, hb, hg⟩ := hrel
    have hz : w.heap.size + 1 ≤ wr.heap.size := by have := hb.out.size; simpa using this
    have own := Lib.hid ((Own2.made w 0 0 23).mono hb.out)
    by_cases hlt : k < l.length
    · have c1 : wr.cell? ⟨b, off + k * 2, none⟩ = some (.int .i64 (l.getD k (0, 0)).1) := by
        rw [hb.out.cell (p := ⟨b, off + k * 2, none⟩) (by show b < _; omega)]
        rw [← HT.out.num k hlt]
        exact (ba (br w) _).cell (p := ⟨b, off + k * 2, none⟩) hin
      have c2 : wr.cell? ⟨b, off + k * 2 + 1, none⟩ = some (.int .i64 (l.getD k (0, 0)).2) := by
        rw [hb.out.cell (p := ⟨b, off + k * 2 + 1, none⟩) (by show b < _; omega)]
        rw [← HT.out.den k hlt]
        exact (ba (br w) _).cell (p := ⟨b, off + k * 2 + 1, none⟩) hin
      have st := Lib.hid (chkL_step l k hlt)
      generalize (l.getD k (0, 0)).1 = n at *
      generalize (l.getD k (0, 0)).2 = d at *
      by_cases h0 : chk n d = 0
      · have hne : (chk n d != 0) = false := by simp [h0]
        have h1 := Lib.hid (show chkL (l.drop (k + 1)) = chkL l by rw [← hg.out, st.out, if_pos h0])
        clear h0 st hg
        go_wp2_with fail
        refine (check_any n d _).mono ?_
        rintro e w1 ⟨rfl, hb1⟩
        go_wp2_with fail
        go_roundw
        case rel => exact ⟨k + 1, by omega, by go_num, Lib.hid ((hb.out.alloc (by omega) _).trans (hb1.mono (by simp; omega))), h1⟩
        case measure => simp [intOf]; omega
      · have hne : (chk n d != 0) = true := by simp [h0]
        have h1 := Lib.hid (show sumV l = (0, 0, chk n d) by
          have : chkL l = chk n d := by rw [← hg.out, st.out, if_neg h0]
          unfold sumV; rw [this, if_neg h0])
        clear h0 st hg
        go_wp2_with fail
        refine (check_any n d _).mono ?_
        rintro e w1 ⟨rfl, hb1⟩
        obtain ⟨i0, o0, o1, o2, o3⟩ := own.out.later (bl (ba (br wr) _) hb1)
        clear c1 c2
        go_wp2_with fail
        refine bodyPost_ret (v := .tuple #[.agg #[.int .i64 0, .int .i64 0], .int .i64 (chk n d)]) (by simp [results, Tryd.results48, go_sem, o0, o1]) rfl ⟨by rw [h1.out], ?_⟩
        exact bs (bs (bl (bl (bl (ba (br w) _) (hb.out.mono (by simp))) (ba (br wr) _)) hb1) (by simp) _) (by simp) _
    · obtain rfl : k = l.length := by omega
      have hv := Lib.hid (chkL_all l (by rw [← hg.out]; simp [chkL]))
      have hs := Lib.hid (show sumV l = addL 0 1 l by unfold sumV; rw [if_pos]; rw [← hg.out]; simp [chkL])
      clear hg
      obtain ⟨wo, rfl⟩ : ∃ wo : World, wo = wr := ⟨_, rfl⟩
      go_wp2_with fail
      go_loopw [28] (fun i wr => ∃ (k : Nat) (sn sd : Int), k ≤ l.length ∧ i = .int .i64 k ∧ Hid (Below wo.heap.size wo wr) ∧ Hid (Own2 wr wo.heap.size sn sd) ∧ Hid (Valid sn sd) ∧ Hid (addL sn sd (l.drop k) = addL 0 1 l)) (fun i _ => l.length - (intOf i).toNat)
      case atStart => exact ⟨0, 0, 1, by omega, rfl, Lib.hid (ba (br wo) _), Lib.hid (Own2.made wo 0 1 23), Lib.hid ⟨by omega, by omega, by omega, by omega, gcdI_one_right 0⟩, Lib.hid rfl⟩
      case round =>
        obtain ⟨k, sn, sd, hk, rfl, hb2, hown, hval, hg⟩ := hrel
        have hz2 : wo.heap.size < wr.heap.size := hown.out.inb
        by_cases hlt : k < l.length
        · have c1 : wr.cell? ⟨b, off + k * 2, none⟩ = some (.int .i64 (l.getD k (0, 0)).1) := by
            rw [hb2.out.cell (p := ⟨b, off + k * 2, none⟩) (by show b < _; omega)]
            rw [hb.out.cell (p := ⟨b, off + k * 2, none⟩) (by show b < _; omega)]
            rw [← HT.out.num k hlt]
            exact (ba (br w) _).cell (p := ⟨b, off + k * 2, none⟩) hin
          have c2 : wr.cell? ⟨b, off + k * 2 + 1, none⟩ = some (.int .i64 (l.getD k (0, 0)).2) := by
            rw [hb2.out.cell (p := ⟨b, off + k * 2 + 1, none⟩) (by show b < _; omega)]
            rw [hb.out.cell (p := ⟨b, off + k * 2 + 1, none⟩) (by show b < _; omega)]
            rw [← HT.out.den k hlt]
            exact (ba (br w) _).cell (p := ⟨b, off + k * 2 + 1, none⟩) hin
          have st := Lib.hid (addL_step sn sd l k hlt)
          have hel := Lib.hid (hv.out k hlt)
          generalize (l.getD k (0, 0)).1 = n at *
          generalize (l.getD k (0, 0)).2 = d at *
          obtain ⟨a0, a1, b0, b1, e0, e1, d0, d1, ad0, ad1, cb0, cb1, bd0, bd1⟩ := bd_of ⟨hval.out, hel.out⟩
          obtain ⟨i0, o0, o1, o2, o3⟩ := hown.out
          have hlow := Lib.hid (low_err (sn * d + n * sd) (sd * d))
          have hlv := Lib.hid (low_valid (sn * d + n * sd) (sd * d) (by omega) (by omega))
          by_cases h0 : (low (sn * d + n * sd) (sd * d)).2.2 = 0
          · have hne : ((low (sn * d + n * sd) (sd * d)).2.2 != 0) = false := by simp [h0]
            have h1 := Lib.hid (show addL (low (sn * d + n * sd) (sd * d)).1 (low (sn * d + n * sd) (sd * d)).2.1 (l.drop (k + 1)) = addL 0 1 l by rw [← hg.out, st.out, if_pos h0])
            have hlv2 := Lib.hid (hlv.out h0)
            clear h0 st hg hlv hlow
            go_wp2_with fail
            refine (lowest_any (sn * d + n * sd) (sd * d) _ (by omega) (by omega) (by omega) (by omega)).mono ?_
            rintro e w1 ⟨rfl, hb1⟩
            have own1 := Lib.hid (hown.out.later (bl (ba (br wr) _) hb1))
            clear o0 o1 o2 o3 i0 c1 c2
            obtain ⟨i0, o0, o1, o2, o3⟩ := own1.out
            generalize low (sn * d + n * sd) (sd * d) = r at *
            go_wp2_with fail
            go_roundw
            case rel => exact ⟨k + 1, r.1, r.2.1, by omega, by go_num, Lib.hid (ba (bs (bs (bl (bl hb2.out (ba (br wr) _)) hb1) (by simp) _) (by simp) _) _), Lib.hid (own1.out.set.later (ba (br _) _)), hlv2, h1⟩
            case measure => simp [intOf]; omega
          · have hne : ((low (sn * d + n * sd) (sd * d)).2.2 != 0) = true := by simp [h0]
            have h1 := Lib.hid (show sumV l = (0, 0, (low (sn * d + n * sd) (sd * d)).2.2) by rw [hs.out, ← hg.out, st.out, if_neg h0])
            have ownr := Lib.hid ((((Own2.made w 0 0 23).mono hb.out).below hb2.out (by omega)))
            clear h0 st hg hlv hlow
            go_wp2_with fail
            refine (lowest_any (sn * d + n * sd) (sd * d) _ (by omega) (by omega) (by omega) (by omega)).mono ?_
            rintro e w1 ⟨rfl, hb1⟩
            have own1 := Lib.hid (ownr.out.later (bl (ba (br wr) _) hb1))
            clear o0 o1 o2 o3 i0 c1 c2
            obtain ⟨i0, o0, o1, o2, o3⟩ := own1.out
            generalize low (sn * d + n * sd) (sd * d) = r at *
            go_wp2_with fail
            refine bodyPost_ret (v := .tuple #[.agg #[.int .i64 0, .int .i64 0], .int .i64 r.2.2]) (by simp [results, Tryd.results48, go_sem, o0, o1, i0]) rfl ⟨by rw [h1.out], ?_⟩
            exact ba (bs (bs (bl (bl (bl (bl (ba (br w) _) (hb.out.mono (by simp))) hb2.out) (ba (br wr) _)) hb1) (by simp) _) (by simp) _) _
        · have ownr := Lib.hid ((((Own2.made w 0 0 23).mono hb.out).below hb2.out (by omega)))
          obtain rfl : k = l.length := by omega
          have h1 := Lib.hid (show sumV l = (sn, sd, 0) by rw [hs.out, ← hg.out]; simp [addL])
          obtain ⟨i0, o0, o1, o2, o3⟩ := ownr.out
          obtain ⟨j0, p0, p1, p2, p3⟩ := hown.out
          go_wp2_with fail
          refine bodyPost_ret (v := .tuple #[.agg #[.int .i64 sn, .int .i64 sd], .int .i64 0]) (by simp [results, Tryd.results48, go_sem, o0, o1]) rfl ⟨by rw [h1.out], ?_⟩
          exact bs (bs (bl (bl (ba (br w) _) (hb.out.mono (by simp))) hb2.out) (by simp) _) (by simp) _

theorem addL_one (a b : Int) (h : Valid a b) (t : List (Int × Int)) : addL 0 1 ((a, b) :: t) = addL a b t := by
  have e : low (0 * b + a * 1) (1 * b) = (a, b, 0) := by
    rw [Int.zero_mul, Int.zero_add, Int.mul_one, Int.one_mul, low_idem h]
  show (if (low (0 * b + a * 1) (1 * b)).2.2 = 0 then _ else _) = _
  rw [e]; rfl

theorem timesAt_two (w : World) (a b c d : Int) (t : TypeId) : TimesAt (w.alloc (.cells #[.int .i64 a, .int .i64 b, .int .i64 c, .int .i64 d] t)) w.heap.size 0 [(a, b), (c, d)] := by
  refine ⟨by simp, fun k hk => ?_, fun k hk => ?_⟩
  · match k, hk with
    | 0, _ => simp [go_sem]
    | 1, _ => simp [go_sem]
  · match k, hk with
    | 0, _ => simp [go_sem]
    | 1, _ => simp [go_sem]

theorem sumV_two (a b c d : Int) : sumV [(a, b), (c, d)] = addV a b c d := by
  by_cases h : chk2 a b c d = 0
  · have v := valid2_of h
    have k : chkL [(a, b), (c, d)] = 0 := by simp [chkL, chk_valid v.l, chk_valid v.r]
    unfold sumV
    rw [if_pos k, addL_one a b v.l, addV_ok h]
    show (if (low (a * d + c * b) (b * d)).2.2 = 0 then _ else _) = _
    rcases low_err (a * d + c * b) (b * d) with e | e
    · rw [if_pos e]
      show (_, _, (0 : Int)) = _
      rw [← e]
    · rw [e]; rfl
  · have k : chkL [(a, b), (c, d)] = chk2 a b c d := by
      unfold chk2; simp only [chkL]
      split
      · split <;> omega
      · rfl
    unfold sumV
    rw [k, if_neg h, addV_err h]

set_option maxHeartbeats 1000000 in
theorem add_any (a b c d : Int) (w : World) :
    Calls Tryd.prog 18 #[tv a b, tv c d] w fun e w' => e = .returned (tev (addV a b c d)) ∧ Below w.heap.size w w' := by
  have hs := Lib.hid (sumV_two a b c d)
  go_enter Tryd.func18, Tryd.ntmps18
  go_wp2_with fail
  refine (total_any (w.heap.size + 1 + 1 + 1) 0 2 [(a, b), (c, d)] _ (by have := timesAt_two (((w.alloc (.cells #[.int .i64 a, .int .i64 b] 23)).alloc (.cells #[.int .i64 c, .int .i64 d] 23)).alloc (.cells #[.int .i64 0, .int .i64 0] 23)) a b c d 23; simpa using this) (by simp) (by omega)).mono ?_
  rintro e w1 ⟨rfl, hb1⟩
  obtain ⟨i0, o0, o1, o2, o3⟩ := ((Own2.made ((w.alloc (.cells #[.int .i64 a, .int .i64 b] 23)).alloc (.cells #[.int .i64 c, .int .i64 d] 23)) 0 0 23).later (ba (br _) _)).later hb1
  simp at i0 o0 o1 o2 o3
  go_wp2_with fail
  refine bodyPost_ret (v := tev (sumV [(a, b), (c, d)])) (by simp [results, Tryd.results18, go_sem, o0, o1]) rfl ⟨by rw [hs.out], ?_⟩
  exact bs (bs (bl (ba (ba (ba (ba (br _) _) _) _) _) hb1) (by simp; omega) _) (by simp; omega) _

set_option maxHeartbeats 1000000 in
theorem sum_any (b off cap : Nat) (l : List (Int × Int)) (w : World) (ht : TimesAt w b off l) (hl : l.length ≤ cap) (hm : cap ≤ 9223372036854775807) :
    Calls Tryd.prog 29 #[.slice (some ⟨b, off, none⟩) l.length cap] w fun e w' => e = .returned (tev (sumV l)) ∧ Below w.heap.size w w' := by
  have hin := ht.inb
  have HT := Lib.hid ht
  clear ht
  go_enter Tryd.func29, Tryd.ntmps29
  go_wp2_with fail
  refine (total_any b off cap l _ ⟨by simp; omega, fun k hk => ?_, fun k hk => ?_⟩ hl hm).mono ?_
  · rw [← HT.out.num k hk]; exact (ba (br w) _).cell (p := ⟨b, off + k * 2, none⟩) hin
  · rw [← HT.out.den k hk]; exact (ba (br w) _).cell (p := ⟨b, off + k * 2 + 1, none⟩) hin
  rintro e w1 ⟨rfl, hb1⟩
  obtain ⟨i0, o0, o1, o2, o3⟩ := (Own2.made w 0 0 23).later hb1
  go_wp2_with fail
  refine bodyPost_ret (v := tev (sumV l)) (by simp [results, Tryd.results29, go_sem, o0, o1]) rfl ⟨rfl, ?_⟩
  exact bs (bs (bl (ba (br _) _) hb1) (by simp) _) (by simp) _

end Go.Proofs.YtjgkliiofechfaaDoor
