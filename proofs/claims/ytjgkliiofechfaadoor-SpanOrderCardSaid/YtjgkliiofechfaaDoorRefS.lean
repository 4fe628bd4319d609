/- The sums of lists of times: the reference's Sum for every list, and the program's for a list without elements. -/
import Derived.Test.YtjgkliiofechfaaDoorSeq
import Derived.Test.YtjgkliiofechfaaDoorKnown
namespace Go.Proofs.YtjgkliiofechfaaDoor
open Go.RowKit

set_option maxHeartbeats 1000000 in
theorem total_none (p : Option Addr) (cap : Nat) (w : World) :
    Calls Tryd.prog 48 #[.slice p 0 cap] w fun e w' => e = .returned (tev (0, 1, 0)) ∧ Below w.heap.size w w' := by
  go_enter Tryd.func48, Tryd.ntmps48
  go_wp2_with fail
  go_loop [14] (fun i => i = .int .i64 0) (fun _ => 0)
  case atStart => rfl
  case round =>
    obtain rfl := hrel
    go_wp2_with fail
    go_loop [28] (fun i => i = .int .i64 0) (fun _ => 0)
    case atStart => rfl
    case round =>
      obtain rfl := hrel
      have own := Own2.made ((w.alloc (.cells #[.int .i64 0, .int .i64 0] 23))) 0 1 23
      obtain ⟨i0, o0, o1, o2, o3⟩ := (Own2.made w 0 0 23).later (ba (br _) (.cells #[.int .i64 0, .int .i64 1] 23))
      obtain ⟨j0, p0, p1, p2, p3⟩ := own
      simp at i0 j0 o0 o1 o2 o3 p0 p1 p2 p3
      go_wp2_with fail
      refine bodyPost_ret (v := .tuple #[.agg #[.int .i64 0, .int .i64 1], .int .i64 0]) (by simp [results, Tryd.results48, go_sem]) rfl ⟨rfl, ?_⟩
      exact ba (ba (br w) _) _

set_option maxHeartbeats 1000000 in
theorem sumv_any (p : Option Addr) (cap : Nat) (l : List (Int × Int)) (w : World) (hp : TimesP w p cap l) :
    Calls Tryd.prog 29 #[.slice p l.length cap] w fun e w' => e = .returned (tev (sumV l)) ∧ Below w.heap.size w w' := by
  by_cases h : 0 < l.length
  · obtain ⟨b, off, rfl, ht⟩ := hp.at_ h
    exact sum_any b off cap l w ht hp.fit hp.max
  · obtain rfl : l = [] := List.length_eq_zero_iff.1 (by omega)
    clear hp h
    go_enter Tryd.func29, Tryd.ntmps29
    go_wp2_with fail
    refine (total_none p cap _).mono ?_
    rintro e w1 ⟨rfl, hb1⟩
    obtain ⟨i0, o0, o1, o2, o3⟩ := (Own2.made w 0 0 23).later hb1
    go_wp2_with fail
    refine bodyPost_ret (v := tev (0, 1, 0)) (by simp [results, Tryd.results29, go_sem, o0, o1]) rfl ⟨rfl, ?_⟩
    exact bs (bs (bl (ba (br _) _) hb1) (by simp) _) (by simp) _

theorem addV_valid {a b c d : Int} (h : Valid a b) (k : Valid c d) : addV a b c d = low (a * d + c * b) (b * d) :=
  addV_ok (by unfold chk2; rw [if_pos (chk_valid h)]; exact chk_valid k)

set_option maxHeartbeats 4000000 in
theorem rsum_any (p : Option Addr) (cap : Nat) (l : List (Int × Int)) (w : World) (hp : TimesP w p cap l) :
    Calls Tryd.prog 30 #[.slice p l.length cap] w fun e w' => e = .returned (tev (sumV l)) ∧ Below w.heap.size w w' := by
  have f1 := hp.fit
  have m1 := hp.max
  have HP := Lib.hid hp
  clear hp
  go_enter Tryd.func30, Tryd.ntmps30
  go_wp2_with fail
  go_loopw [4] (fun i wr => ∃ k : Nat, k ≤ l.length ∧ i = .int .i64 k ∧ Hid (Below (w.heap.size + 1) (w.alloc (.cells #[.int .i64 0, .int .i64 0] 23)) wr) ∧ Hid (chkL (l.drop k) = chkL l)) (fun i _ => l.length - (intOf i).toNat)
  case atStart => exact ⟨0, by omega, rfl, Lib.hid (Below.refl _ _), Lib.hid rfl⟩
  case round =>
    obtain ⟨k, hk, rfl, hb, hg⟩ := hrel
    have hz : w.heap.size + 1 ≤ wr.heap.size := by have := hb.out.size; simpa using this
    have own := Lib.hid ((Own2.made w 0 0 23).mono hb.out)
    by_cases hlt : k < l.length
    · obtain ⟨b, off, rfl, ht⟩ := HP.out.at_ (by omega)
      have ht2 := (ht.later (ba (br w) (.cells #[.int .i64 0, .int .i64 0] 23))).below hb.out (by have := ht.inb; omega)
      have c1 := ht2.num k hlt
      have c2 := ht2.den k hlt
      clear ht ht2
      have st := Lib.hid (chkL_step l k hlt)
      generalize (l.getD k (0, 0)).1 = n at *
      generalize (l.getD k (0, 0)).2 = d at *
      by_cases h0 : chk n d = 0
      · have hne : (chk n d != 0) = false := by simp [h0]
        have h1 := Lib.hid (show chkL (l.drop (k + 1)) = chkL l by rw [← hg.out, st.out, if_pos h0])
        clear h0 st hg
        go_wp2_with fail
        refine (rcheck_any n d _).mono ?_
        rintro e w1 ⟨rfl, hb1⟩
        go_wp2_with fail
        go_roundw
        case rel => exact ⟨k + 1, by omega, by go_num, Lib.hid (hb.out.trans (hb1.mono (by omega))), h1⟩
        case measure => simp [intOf]; omega
      · have hne : (chk n d != 0) = true := by simp [h0]
        have h1 := Lib.hid (show sumV l = (0, 0, chk n d) by
          have : chkL l = chk n d := by rw [← hg.out, st.out, if_neg h0]
          unfold sumV; rw [this, if_neg h0])
        clear h0 st hg
        go_wp2_with fail
        refine (rcheck_any n d _).mono ?_
        rintro e w1 ⟨rfl, hb1⟩
        obtain ⟨i0, o0, o1, o2, o3⟩ := own.out.later hb1
        clear c1 c2
        go_wp2_with fail
        refine bodyPost_ret (v := .tuple #[.agg #[.int .i64 0, .int .i64 0], .int .i64 (chk n d)]) (by simp [results, Tryd.results30, go_sem, o0, o1]) rfl ⟨by rw [h1.out], ?_⟩
        exact bs (bs (bl (bl (ba (br w) _) (hb.out.mono (by simp))) hb1) (by simp) _) (by simp) _
    · obtain rfl : k = l.length := by omega
      have hv := Lib.hid (chkL_all l (by rw [← hg.out]; simp [chkL]))
      have hs := Lib.hid (show sumV l = addL 0 1 l by unfold sumV; rw [if_pos]; rw [← hg.out]; simp [chkL])
      clear hg
      obtain ⟨wo, rfl⟩ : ∃ wo : World, wo = wr := ⟨_, rfl⟩
      go_wp2_with fail
      go_loopw [7] (fun i wr => ∃ (k : Nat) (sn sd : Int), k ≤ l.length ∧ i = .int .i64 k ∧ Hid (Below wo.heap.size wo wr) ∧ Hid (Own2 wr wo.heap.size sn sd) ∧ Hid (Valid sn sd) ∧ Hid (addL sn sd (l.drop k) = addL 0 1 l)) (fun i _ => l.length - (intOf i).toNat)
      case atStart => exact ⟨0, 0, 1, by omega, rfl, Lib.hid (ba (br wo) _), Lib.hid (Own2.made wo 0 1 23), Lib.hid ⟨by omega, by omega, by omega, by omega, gcdI_one_right 0⟩, Lib.hid rfl⟩
      case round =>
        obtain ⟨k, sn, sd, hk, rfl, hb2, hown, hval, hg⟩ := hrel
        have hz2 : wo.heap.size < wr.heap.size := hown.out.inb
        by_cases hlt : k < l.length
        · obtain ⟨b, off, rfl, ht⟩ := HP.out.at_ (by omega)
          have ht2 := ((ht.later (ba (br w) (.cells #[.int .i64 0, .int .i64 0] 23))).below hb.out (by have := ht.inb; omega)).below hb2.out (by have := ht.inb; omega)
          have c1 := ht2.num k hlt
          have c2 := ht2.den k hlt
          have hbb : b < wr.heap.size := ht2.inb
          clear ht ht2
          have st := Lib.hid (addL_step sn sd l k hlt)
          have hel := Lib.hid (hv.out k hlt)
          generalize (l.getD k (0, 0)).1 = n at *
          generalize (l.getD k (0, 0)).2 = d at *
          have hlow := Lib.hid (addV_valid hval.out hel.out)
          have hlv := Lib.hid (by
            obtain ⟨a0, a1, b0, b1, e0, e1, d0, d1, ad0, ad1, cb0, cb1, bd0, bd1⟩ := bd_of ⟨hval.out, hel.out⟩
            exact low_valid (sn * d + n * sd) (sd * d) (by omega) (by omega))
          rw [← hlow.out] at st hlv
          clear hlow
          obtain ⟨i0, o0, o1, o2, o3⟩ := hown.out
          have AD := Lib.hid (fun W => radd_any sn sd n d W)
          have A0 : (wr.alloc (.cells #[.int .i64 0, .int .i64 0] 23)).cell? ⟨wo.heap.size, 0, none⟩ = some (.int .i64 sn) := by rw [(ba (br wr) _).cell (p := ⟨wo.heap.size, 0, none⟩) hz2]; exact o0
          have A1 : (wr.alloc (.cells #[.int .i64 0, .int .i64 0] 23)).cell? ⟨wo.heap.size, 1, none⟩ = some (.int .i64 sd) := by rw [(ba (br wr) _).cell (p := ⟨wo.heap.size, 1, none⟩) hz2]; exact o1
          have A2 : (wr.alloc (.cells #[.int .i64 0, .int .i64 0] 23)).cell? ⟨b, off + k * 2, none⟩ = some (.int .i64 n) := by rw [(ba (br wr) _).cell (p := ⟨b, off + k * 2, none⟩) hbb]; exact c1
          have A3 : (wr.alloc (.cells #[.int .i64 0, .int .i64 0] 23)).cell? ⟨b, off + k * 2 + 1, none⟩ = some (.int .i64 d) := by rw [(ba (br wr) _).cell (p := ⟨b, off + k * 2 + 1, none⟩) hbb]; exact c2
          generalize addV sn sd n d = r at *
          go_upto_region 11 with (fail)
          go_cut [8, 9] (fun s8 s9 wc => ∃ B : Nat, s8 = .pointer (some ⟨B, 0, none⟩) ∧ s9 = .int .i64 r.2.2 ∧ Hid (Below wr.heap.size wr wc) ∧ Hid (Own2 wc B r.1 r.2.1) ∧ wr.heap.size ≤ B)
          case first =>
            go_region_with (first | (go_at_call 19; ((with_reducible refine (AD.out (World.drew (World.alloc _ _))).mono ?_); rintro e w2 ⟨rfl, hb2b⟩; have own1 := own_drew hb2b; have own2 := Lib.hid own1; obtain ⟨i0, o0, o1, o2, o3⟩ := own1)) | (go_at_call 19; ((with_reducible refine (AD.out _).mono ?_); rintro e w2 ⟨rfl, hb2b⟩)))
            all_goals (go_wp2_with fail; go_meet)
            all_goals first
              | exact ⟨w2.heap.size, rfl, rfl, Lib.hid (ba (bl (br wr).drew hb2b) _), Lib.hid (Own2.made w2 _ _ 23), hb2b.size⟩
              | exact ⟨wr.heap.size, rfl, rfl, Lib.hid (bs (bs (bl (ba (br wr) _).drew hb2b) (Nat.le_refl _) _) (Nat.le_refl _) _), Lib.hid own2.out.set, Nat.le_refl _⟩
          case rest =>
            obtain ⟨B, rfl, rfl, hbc, hownc, hB⟩ := hcut
            have hownw := Lib.hid (hown.out.later hbc.out)
            clear A0 A1 A2 A3 c1 c2 i0 o0 o1 o2 o3 AD
            obtain ⟨i0, o0, o1, o2, o3⟩ := hownc.out
            obtain ⟨j0, p0, p1, p2, p3⟩ := hownw.out
            by_cases h0 : r.2.2 = 0
            · have hne : (r.2.2 != 0) = false := by simp [h0]
              have h1 := Lib.hid (show addL r.1 r.2.1 (l.drop (k + 1)) = addL 0 1 l by rw [← hg.out, st.out, if_pos h0])
              have hlv2 := Lib.hid (hlv.out h0)
              clear h0 st hg hlv
              go_wp2_with fail
              go_roundw
              case rel => exact ⟨k + 1, r.1, r.2.1, by omega, by go_num, Lib.hid (bs (bs (bl hb2.out hbc.out) (Nat.le_refl _) _) (Nat.le_refl _) _), Lib.hid hownw.out.set, hlv2, h1⟩
              case measure => simp [intOf]; omega
            · have hne : (r.2.2 != 0) = true := by simp [h0]
              have h1 := Lib.hid (show sumV l = (0, 0, r.2.2) by rw [hs.out, ← hg.out, st.out, if_neg h0])
              have ownr := Lib.hid ((((Own2.made w 0 0 23).mono hb.out).below hb2.out (by omega)).later hbc.out)
              clear h0 st hg hlv i0 o0 o1 o2 o3 j0 p0 p1 p2 p3
              obtain ⟨i0, o0, o1, o2, o3⟩ := ownr.out
              go_wp2_with fail
              refine bodyPost_ret (v := .tuple #[.agg #[.int .i64 0, .int .i64 0], .int .i64 r.2.2]) (by simp [results, Tryd.results30, go_sem, o0, o1]) rfl ⟨by rw [h1.out], ?_⟩
              exact bs (bs (bl (bl (bl (ba (br w) _) (hb.out.mono (by simp))) hb2.out) hbc.out) (by simp) _) (by simp) _
        · have ownr := Lib.hid ((((Own2.made w 0 0 23).mono hb.out).below hb2.out (by omega)))
          obtain rfl : k = l.length := by omega
          have h1 := Lib.hid (show sumV l = (sn, sd, 0) by rw [hs.out, ← hg.out]; simp [addL])
          obtain ⟨i0, o0, o1, o2, o3⟩ := ownr.out
          obtain ⟨j0, p0, p1, p2, p3⟩ := hown.out
          go_wp2_with fail
          refine bodyPost_ret (v := .tuple #[.agg #[.int .i64 sn, .int .i64 sd], .int .i64 0]) (by simp [results, Tryd.results30, go_sem, o0, o1]) rfl ⟨by rw [h1.out], ?_⟩
          exact bs (bs (bl (bl (ba (br w) _) (hb.out.mono (by simp))) hb2.out) (by simp) _) (by simp) _

end Go.Proofs.YtjgkliiofechfaaDoor
