/- The reference's test of a ligature's signs, and its check of a part. -/
import Derived.Test.YtcomjcflllfobaaDoorSPart
import Derived.Test.YtcomjcflllfobaaDoorSRefE
namespace Go.Proofs.YtcomjcflllfobaaDoor
open Go.RowKit

def tdB (l : List Sg) (i : Int) : Bool := decide (0 ≤ i ∧ i < l.length) && kB l i.toNat
set_option maxHeartbeats 2000000 in
theorem rtied_any (l : List Sg) (i : Int) (p : Option Addr) (cap : Nat) (w : World) (h : SlP w 17 p l.length cap (flatG l)) :
    Calls Tryd.prog 51 #[.slice p l.length cap, .int .i64 i] w fun e w' => e = .returned (.bool (tdB l i)) ∧ w = w' := by
  have f1 := h.fit
  have m1 := h.max
  by_cases h0 : 0 ≤ i
  · by_cases h1 : i < l.length
    · have hi : i.toNat < l.length := by omega
      rw [show tdB l i = kB l i.toNat by unfold tdB; rw [decide_eq_true ⟨h0, h1⟩, Bool.true_and]]
      obtain ⟨b, off, rfl, hb, hs⟩ := h.sg (sg_some hi)
      have n0 := hs.e0
      have kj : ((l.getD i.toNat zS).kind == 4) = kB l i.toNat := rfl
      clear h hs hi
      generalize l.getD i.toNat zS = s at *
      generalize kB l i.toNat = K at *
      go_enter Tryd.func51, Tryd.ntmps51
      go_wp2_with fail
      go_ret
      exact ⟨rfl, rfl⟩
    · rw [show tdB l i = false by unfold tdB; rw [decide_eq_false (fun g => h1 g.2), Bool.false_and]]
      clear h
      go_enter Tryd.func51, Tryd.ntmps51
      go_wp2_with fail
      go_ret
      exact ⟨rfl, rfl⟩
  · rw [show tdB l i = false by unfold tdB; rw [decide_eq_false (fun g => h0 g.1), Bool.false_and]]
    clear h
    go_enter Tryd.func51, Tryd.ntmps51
    go_wp2_with fail
    go_ret
    exact ⟨rfl, rfl⟩
theorem td_next (l : List Sg) (k : Nat) : tdB l ((k : Int) + 1) = (decide (k + 1 < l.length) && kB l (k + 1)) := by
  unfold tdB
  rw [show ((k : Int) + 1).toNat = k + 1 by omega]
  congr 1
  by_cases h : k + 1 < l.length
  · rw [decide_eq_true h, decide_eq_true (by omega)]
  · rw [decide_eq_false h, decide_eq_false (by omega)]
theorem td_prev {l : List Sg} {j : Nat} (h : j < l.length) : tdB l ((j + 1 : Nat) - 1 : Int) = kB l j := by
  unfold tdB
  rw [show (((j + 1 : Nat) : Int) - 1).toNat = j by omega, decide_eq_true (by omega), Bool.true_and]
theorem td_first (l : List Sg) : tdB l ((0 : Nat) - 1 : Int) = false := by
  unfold tdB
  rw [decide_eq_false (by omega), Bool.false_and]

set_option maxRecDepth 100000 in
set_option maxHeartbeats 8000000 in
theorem rchk_any (nm : ByteArray) (hnm : nm.size ≤ maxLen) (l : List Sg) (p : Option Addr) (cap : Nat) (w : World) (h : SlP w 17 p l.length cap (flatG l)) :
    Calls Tryd.prog 20 #[ptv nm p l.length cap] w fun e w' => e = .returned (.tuple #[.int .i64 (chkV (nameV nm.data.toList) l).1, .int .i64 (chkV (nameV nm.data.toList) l).2]) ∧ Below w.heap.size w w' := by
  have f1 := h.fit
  have m1 := h.max
  have NC := Lib.hid (fun W => rname_any nm W hnm)
  have HP := Lib.hid (pt_new w nm p l.length cap)
  have B1 := Lib.hid (w_alloc (w_refl w) (ptO nm p l.length cap))
  have HL := Lib.hid (h.later (w_alloc (w_refl w) (ptO nm p l.length cap)))
  have k0 := HP.out.cell (j := 0) rfl
  have k1 := HP.out.cell (j := 1) rfl
  clear h
  generalize nameV nm.data.toList = NM at *
  cases NM with
  | false =>
    rw [chk_name]
    go_enter Tryd.func20, Tryd.ntmps20
    go_wp2_with fail
    refine (NC.out _).mono ?_
    rintro e w1 ⟨rfl, rfl⟩
    go_wp2_with fail
    go_ret2
    exact ⟨rfl, B1.out⟩
  | true =>
    by_cases hf : 400 < l.length
    · rw [chk_full hf]
      have hf' : (400 : Int) < l.length := by omega
      go_enter Tryd.func20, Tryd.ntmps20
      go_wp2_with fail
      refine (NC.out _).mono ?_
      rintro e w1 ⟨rfl, rfl⟩
      go_wp2_with fail
      go_ret2
      exact ⟨rfl, B1.out⟩
    have hf' : ¬ (400 : Int) < l.length := by omega
    have HH := Lib.hid (fun j hj he hb => chk_hit (l := l) hf (j := j) hj he hb)
    have HO := Lib.hid (fun hb => chk_ok (l := l) hf hb)
    have ON := Lib.hid (fun s W => rone_any s W)
    have TD := Lib.hid (fun i W h => rtied_any l i p cap W h)
    generalize chkV true l = R at *
    obtain ⟨r1, r2⟩ := R
    go_enter Tryd.func20, Tryd.ntmps20
    go_wp2_with fail
    refine (NC.out _).mono ?_
    rintro e w1 ⟨rfl, rfl⟩
    clear NC
    go_wp2_with fail
    clear k0 k1
    have b0 : w.heap.size < (w.alloc (ptO nm p l.length cap)).heap.size := HP.out.lt
    generalize w.alloc (ptO nm p l.length cap) = y at *
    go_loopw [4] (fun s4 wr => ∃ k : Nat, k ≤ l.length ∧ s4 = .int .i64 k ∧ Hid (∀ j, j < k → sgnE l j = 0) ∧ Hid (Below y.heap.size y wr)) (fun s4 _ => l.length - (intOf s4).toNat)
    case atStart => exact ⟨0, by omega, rfl, Lib.hid (fun j hj => by omega), Lib.hid (w_refl _)⟩
    case round =>
      obtain ⟨k, hk, rfl, hall, hbr⟩ := hrel
      rename World => wr
      have c1 := cell_later hbr.out (HP.out.cell (j := 1) rfl)
      by_cases hlt : k < l.length
      · have hlt' : (k : Int) < l.length := by omega
        have hk0 : (0 : Int) ≤ k := by omega
        obtain ⟨s, hs⟩ : ∃ s, l.getD k zS = s := ⟨_, rfl⟩
        have O1 := Lib.hid (fun W => ON.out s W)
        have hsg := (HL.out.later hbr.out).sg (sg_some hlt)
        rw [hs] at hsg
        obtain ⟨b, off, hpp, _, hx⟩ := hsg
        have HX := Lib.hid hx
        have HN := Lib.hid (sg_new wr s)
        have B3 := Lib.hid (w_alloc hbr.out (sgO s))
        have c2 := (cell_later (w_alloc (w_refl wr) (sgO s)) c1)
        have S1k := Lib.hid (fun h => sgn_one (l := l) (i := k) h)
        have S0k := Lib.hid (fun h j => sgn_ok (l := l) (i := k) h j)
        have S3k := Lib.hid (fun h j => sgn_no (l := l) (i := k) h j)
        rw [hs] at S1k S0k S3k
        clear ON hx
        subst hpp
        by_cases he : oneE s = 0
        · have HK : kB l k = (s.kind == 4) := by unfold kB; rw [hs]
          have HA : laB l k = s.last := by unfold laB; rw [hs]
          rw [he] at O1
          cases hk4 : kB l k with
          | false =>
            have hEk := S0k.out he (jn_free hk4)
            have q : (s.kind != 4) = true := by rw [HK] at hk4; simpa using hk4
            have hall2 := Lib.hid (show ∀ j, j < k + 1 → sgnE l j = 0 from fun j hj => by
              by_cases e : j = k
              · rw [e]; exact hEk
              · exact hall.out j (by omega))
            clear S1k S0k S3k hEk he HH HO hall hs HK HA TD hk4
            go_wp2_with (first | (refine wl_load b (off + k * 17) s (by kernel_rfl) HX.out ?_) | (refine wl_load wr.heap.size 0 s (by kernel_rfl) HN.out.sg ?_) | (refine wl_store0 wr.heap.size _ s rfl (by kernel_rfl) (by kernel_rfl) rfl ?_) | fail)
            refine (O1.out _).mono ?_
            rintro e w2 ⟨rfl, hb⟩
            have hB := Lib.hid (w_below B3.out hb)
            have c3 := cell_later hb c2
            have m0 := cell_later hb (HN.out.cell (j := 0) (v := .int .i64 s.kind) rfl)
            clear hb O1 HX c1 c2 HN
            go_wp2_with fail
            go_roundw
            case rel => exact ⟨k + 1, by omega, by go_num, hall2, hB⟩
            case measure => simp [intOf]; omega
          | true =>
            have q : (s.kind != 4) = false := by rw [HK] at hk4; simpa using hk4
            have TN := Lib.hid (fun W h => TD.out ((k : Int) + 1) W h)
            rw [td_next] at TN
            have xn : IntKind.i64.wrap ((k : Int) + 1) = (k : Int) + 1 := IntWalk.i64_in _ (by omega)
            obtain ⟨J, hJ⟩ : ∃ J : Int, (k : Int) - 1 = J := ⟨_, rfl⟩
            have xp : IntKind.i64.wrap ((k : Int) - 1) = J := by rw [IntWalk.i64_in _ (by omega)]; exact hJ
            have TP := Lib.hid (fun W h => TD.out J W h)
            by_cases hz : k = 0
            · have HF : fstB l k = true := by rw [hz] at hk4 ⊢; rw [fst_zero, hk4]
              rw [show tdB l J = false by rw [← hJ, hz]; exact td_first l] at TP
              clear hJ hz
              cases hl : s.last with
              | true =>
                have hEk := S3k.out he (by rw [jn_last hk4 (HA.trans hl), HF]; rfl)
                have hfh := HH.out k hlt (by rw [hEk]; decide) hall.out
                have hfin := Lib.hid (show Ending.returned (Value.tuple #[.int .i64 r1, .int .i64 r2]) = .returned (.tuple #[.int .i64 3, .int .i64 (k : Int)]) by
                  rw [Prod.mk.injEq] at hfh; rw [hfh.1, hfh.2, hEk])
                clear S1k S0k S3k hEk he HH HO hall hs HK HA TD hk4 HF TN hfh
                go_wp2_with (first | (refine wl_load b (off + k * 17) s (by kernel_rfl) HX.out ?_) | (refine wl_load wr.heap.size 0 s (by kernel_rfl) HN.out.sg ?_) | (refine wl_store0 wr.heap.size _ s rfl (by kernel_rfl) (by kernel_rfl) rfl ?_) | fail)
                refine (O1.out _).mono ?_
                rintro e w2 ⟨rfl, hb⟩
                have hB := Lib.hid (w_below B3.out hb)
                have c3 := cell_later hb c2
                have m0 := cell_later hb (HN.out.cell (j := 0) (v := .int .i64 s.kind) rfl)
                have m7 := cell_later hb (HN.out.cell (j := 7) (v := .bool s.last) rfl); rw [hl] at m7
                clear hb O1 HX c1 c2 HN
                go_wp2_with fail
                refine (TP.out _ (HL.out.later hB.out)).mono ?_
                rintro e w3 ⟨rfl, rfl⟩
                clear TP
                go_wp2_with fail
                go_ret2
                exact ⟨hfin.out.symm, w_below B1.out hB.out⟩
              | false =>
                cases hn : (decide (k + 1 < l.length) && kB l (k + 1)) with
                | true =>
                  have hEk := S0k.out he (by rw [jn_mid hk4 (HA.trans hl), hn])
                  have hall2 := Lib.hid (show ∀ j, j < k + 1 → sgnE l j = 0 from fun j hj => by
                    by_cases e : j = k
                    · rw [e]; exact hEk
                    · exact hall.out j (by omega))
                  rw [hn] at TN
                  clear S1k S0k S3k hEk he HH HO hall hs HK HA TD hk4 HF hn
                  go_wp2_with (first | (refine wl_load b (off + k * 17) s (by kernel_rfl) HX.out ?_) | (refine wl_load wr.heap.size 0 s (by kernel_rfl) HN.out.sg ?_) | (refine wl_store0 wr.heap.size _ s rfl (by kernel_rfl) (by kernel_rfl) rfl ?_) | fail)
                  refine (O1.out _).mono ?_
                  rintro e w2 ⟨rfl, hb⟩
                  have hB := Lib.hid (w_below B3.out hb)
                  have c3 := cell_later hb c2
                  have m0 := cell_later hb (HN.out.cell (j := 0) (v := .int .i64 s.kind) rfl)
                  have m7 := cell_later hb (HN.out.cell (j := 7) (v := .bool s.last) rfl); rw [hl] at m7
                  clear hb O1 HX c1 c2 HN
                  go_wp2_with fail
                  refine (TP.out _ (HL.out.later hB.out)).mono ?_
                  rintro e w3 ⟨rfl, rfl⟩
                  clear TP
                  go_wp2_with fail
                  refine (TN.out _ (HL.out.later hB.out)).mono ?_
                  rintro e w4 ⟨rfl, rfl⟩
                  clear TN
                  go_wp2_with fail
                  go_roundw
                  case rel => exact ⟨k + 1, by omega, by go_num, hall2, hB⟩
                  case measure => simp [intOf]; omega
                | false =>
                  have hEk := S3k.out he (by rw [jn_mid hk4 (HA.trans hl), hn])
                  have hfh := HH.out k hlt (by rw [hEk]; decide) hall.out
                  have hfin := Lib.hid (show Ending.returned (Value.tuple #[.int .i64 r1, .int .i64 r2]) = .returned (.tuple #[.int .i64 3, .int .i64 (k : Int)]) by
                    rw [Prod.mk.injEq] at hfh; rw [hfh.1, hfh.2, hEk])
                  rw [hn] at TN
                  clear S1k S0k S3k hEk he HH HO hall hs HK HA TD hk4 HF hn hfh
                  go_wp2_with (first | (refine wl_load b (off + k * 17) s (by kernel_rfl) HX.out ?_) | (refine wl_load wr.heap.size 0 s (by kernel_rfl) HN.out.sg ?_) | (refine wl_store0 wr.heap.size _ s rfl (by kernel_rfl) (by kernel_rfl) rfl ?_) | fail)
                  refine (O1.out _).mono ?_
                  rintro e w2 ⟨rfl, hb⟩
                  have hB := Lib.hid (w_below B3.out hb)
                  have c3 := cell_later hb c2
                  have m0 := cell_later hb (HN.out.cell (j := 0) (v := .int .i64 s.kind) rfl)
                  have m7 := cell_later hb (HN.out.cell (j := 7) (v := .bool s.last) rfl); rw [hl] at m7
                  clear hb O1 HX c1 c2 HN
                  go_wp2_with fail
                  refine (TP.out _ (HL.out.later hB.out)).mono ?_
                  rintro e w3 ⟨rfl, rfl⟩
                  clear TP
                  go_wp2_with fail
                  refine (TN.out _ (HL.out.later hB.out)).mono ?_
                  rintro e w4 ⟨rfl, rfl⟩
                  clear TN
                  go_wp2_with fail
                  go_ret2
                  exact ⟨hfin.out.symm, w_below B1.out hB.out⟩
            · have HF0 : fstB l k = (kB l k && (!(kB l (k - 1)) || laB l (k - 1))) := by unfold fstB; rw [decide_eq_false hz, Bool.false_or]
              rw [show tdB l J = kB l (k - 1) by rw [← hJ]; have := td_prev (l := l) (j := k - 1) (by omega); rwa [show k - 1 + 1 = k by omega] at this] at TP
              have hJ0 : 0 ≤ J := by omega
              have hJ1 : J < l.length := by omega
              obtain ⟨o', ho'⟩ : ∃ o, off + (k - 1) * 17 = o := ⟨_, rfl⟩
              have hoff : off + J.toNat * 17 = o' := by rw [← ho', show J.toNat = k - 1 by omega]
              obtain ⟨_, _, e9, _, hx⟩ := HL.out.sg (sg_some (show k - 1 < l.length by omega))
              injection e9 with e9
              injection e9 with e9 e10 _
              subst e9 e10
              rw [ho'] at hx
              have HJ := Lib.hid hx
              clear hx hJ hz ho'
              have lj : (l.getD (k - 1) zS).last = laB l (k - 1) := rfl
              cases hp : kB l (k - 1) with
              | false =>
                rw [hp] at TP
                have HF : fstB l k = true := by rw [HF0, hk4, hp]; rfl
                clear HF0 HJ lj
                cases hl : s.last with
                | true =>
                  have hEk := S3k.out he (by rw [jn_last hk4 (HA.trans hl), HF]; rfl)
                  have hfh := HH.out k hlt (by rw [hEk]; decide) hall.out
                  have hfin := Lib.hid (show Ending.returned (Value.tuple #[.int .i64 r1, .int .i64 r2]) = .returned (.tuple #[.int .i64 3, .int .i64 (k : Int)]) by
                    rw [Prod.mk.injEq] at hfh; rw [hfh.1, hfh.2, hEk])
                  clear S1k S0k S3k hEk he HH HO hall hs HK HA TD hk4 HF TN hfh
                  go_wp2_with (first | (refine wl_load b (off + k * 17) s (by kernel_rfl) HX.out ?_) | (refine wl_load wr.heap.size 0 s (by kernel_rfl) HN.out.sg ?_) | (refine wl_store0 wr.heap.size _ s rfl (by kernel_rfl) (by kernel_rfl) rfl ?_) | fail)
                  refine (O1.out _).mono ?_
                  rintro e w2 ⟨rfl, hb⟩
                  have hB := Lib.hid (w_below B3.out hb)
                  have c3 := cell_later hb c2
                  have m0 := cell_later hb (HN.out.cell (j := 0) (v := .int .i64 s.kind) rfl)
                  have m7 := cell_later hb (HN.out.cell (j := 7) (v := .bool s.last) rfl); rw [hl] at m7
                  clear hb O1 HX c1 c2 HN
                  go_wp2_with fail
                  refine (TP.out _ (HL.out.later hB.out)).mono ?_
                  rintro e w3 ⟨rfl, rfl⟩
                  clear TP
                  go_wp2_with fail
                  go_ret2
                  exact ⟨hfin.out.symm, w_below B1.out hB.out⟩
                | false =>
                  cases hn : (decide (k + 1 < l.length) && kB l (k + 1)) with
                  | true =>
                    have hEk := S0k.out he (by rw [jn_mid hk4 (HA.trans hl), hn])
                    have hall2 := Lib.hid (show ∀ j, j < k + 1 → sgnE l j = 0 from fun j hj => by
                      by_cases e : j = k
                      · rw [e]; exact hEk
                      · exact hall.out j (by omega))
                    rw [hn] at TN
                    clear S1k S0k S3k hEk he HH HO hall hs HK HA TD hk4 HF hn
                    go_wp2_with (first | (refine wl_load b (off + k * 17) s (by kernel_rfl) HX.out ?_) | (refine wl_load wr.heap.size 0 s (by kernel_rfl) HN.out.sg ?_) | (refine wl_store0 wr.heap.size _ s rfl (by kernel_rfl) (by kernel_rfl) rfl ?_) | fail)
                    refine (O1.out _).mono ?_
                    rintro e w2 ⟨rfl, hb⟩
                    have hB := Lib.hid (w_below B3.out hb)
                    have c3 := cell_later hb c2
                    have m0 := cell_later hb (HN.out.cell (j := 0) (v := .int .i64 s.kind) rfl)
                    have m7 := cell_later hb (HN.out.cell (j := 7) (v := .bool s.last) rfl); rw [hl] at m7
                    clear hb O1 HX c1 c2 HN
                    go_wp2_with fail
                    refine (TP.out _ (HL.out.later hB.out)).mono ?_
                    rintro e w3 ⟨rfl, rfl⟩
                    clear TP
                    go_wp2_with fail
                    refine (TN.out _ (HL.out.later hB.out)).mono ?_
                    rintro e w4 ⟨rfl, rfl⟩
                    clear TN
                    go_wp2_with fail
                    go_roundw
                    case rel => exact ⟨k + 1, by omega, by go_num, hall2, hB⟩
                    case measure => simp [intOf]; omega
                  | false =>
                    have hEk := S3k.out he (by rw [jn_mid hk4 (HA.trans hl), hn])
                    have hfh := HH.out k hlt (by rw [hEk]; decide) hall.out
                    have hfin := Lib.hid (show Ending.returned (Value.tuple #[.int .i64 r1, .int .i64 r2]) = .returned (.tuple #[.int .i64 3, .int .i64 (k : Int)]) by
                      rw [Prod.mk.injEq] at hfh; rw [hfh.1, hfh.2, hEk])
                    rw [hn] at TN
                    clear S1k S0k S3k hEk he HH HO hall hs HK HA TD hk4 HF hn hfh
                    go_wp2_with (first | (refine wl_load b (off + k * 17) s (by kernel_rfl) HX.out ?_) | (refine wl_load wr.heap.size 0 s (by kernel_rfl) HN.out.sg ?_) | (refine wl_store0 wr.heap.size _ s rfl (by kernel_rfl) (by kernel_rfl) rfl ?_) | fail)
                    refine (O1.out _).mono ?_
                    rintro e w2 ⟨rfl, hb⟩
                    have hB := Lib.hid (w_below B3.out hb)
                    have c3 := cell_later hb c2
                    have m0 := cell_later hb (HN.out.cell (j := 0) (v := .int .i64 s.kind) rfl)
                    have m7 := cell_later hb (HN.out.cell (j := 7) (v := .bool s.last) rfl); rw [hl] at m7
                    clear hb O1 HX c1 c2 HN
                    go_wp2_with fail
                    refine (TP.out _ (HL.out.later hB.out)).mono ?_
                    rintro e w3 ⟨rfl, rfl⟩
                    clear TP
                    go_wp2_with fail
                    refine (TN.out _ (HL.out.later hB.out)).mono ?_
                    rintro e w4 ⟨rfl, rfl⟩
                    clear TN
                    go_wp2_with fail
                    go_ret2
                    exact ⟨hfin.out.symm, w_below B1.out hB.out⟩
              | true =>
                rw [hp] at TP
                cases hlj : laB l (k - 1) with
                | true =>
                  have HF : fstB l k = true := by rw [HF0, hk4, hp, hlj]; rfl
                  clear HF0
                  cases hl : s.last with
                  | true =>
                    have hEk := S3k.out he (by rw [jn_last hk4 (HA.trans hl), HF]; rfl)
                    have hfh := HH.out k hlt (by rw [hEk]; decide) hall.out
                    have hfin := Lib.hid (show Ending.returned (Value.tuple #[.int .i64 r1, .int .i64 r2]) = .returned (.tuple #[.int .i64 3, .int .i64 (k : Int)]) by
                      rw [Prod.mk.injEq] at hfh; rw [hfh.1, hfh.2, hEk])
                    clear S1k S0k S3k hEk he HH HO hall hs HK HA TD hk4 HF TN hfh
                    go_wp2_with (first | (refine wl_load b (off + k * 17) s (by kernel_rfl) HX.out ?_) | (refine wl_load wr.heap.size 0 s (by kernel_rfl) HN.out.sg ?_) | (refine wl_store0 wr.heap.size _ s rfl (by kernel_rfl) (by kernel_rfl) rfl ?_) | fail)
                    refine (O1.out _).mono ?_
                    rintro e w2 ⟨rfl, hb⟩
                    have hB := Lib.hid (w_below B3.out hb)
                    have c3 := cell_later hb c2
                    have m0 := cell_later hb (HN.out.cell (j := 0) (v := .int .i64 s.kind) rfl)
                    have m7 := cell_later hb (HN.out.cell (j := 7) (v := .bool s.last) rfl); rw [hl] at m7
                    have j7 := (HJ.out.later hB.out).e7; rw [lj, hlj] at j7; clear lj HJ
                    clear hb O1 HX c1 c2 HN
                    go_wp2_with fail
                    refine (TP.out _ (HL.out.later hB.out)).mono ?_
                    rintro e w3 ⟨rfl, rfl⟩
                    clear TP
                    go_wp2_with fail
                    go_ret2
                    exact ⟨hfin.out.symm, w_below B1.out hB.out⟩
                  | false =>
                    cases hn : (decide (k + 1 < l.length) && kB l (k + 1)) with
                    | true =>
                      have hEk := S0k.out he (by rw [jn_mid hk4 (HA.trans hl), hn])
                      have hall2 := Lib.hid (show ∀ j, j < k + 1 → sgnE l j = 0 from fun j hj => by
                        by_cases e : j = k
                        · rw [e]; exact hEk
                        · exact hall.out j (by omega))
                      rw [hn] at TN
                      clear S1k S0k S3k hEk he HH HO hall hs HK HA TD hk4 HF hn
                      go_wp2_with (first | (refine wl_load b (off + k * 17) s (by kernel_rfl) HX.out ?_) | (refine wl_load wr.heap.size 0 s (by kernel_rfl) HN.out.sg ?_) | (refine wl_store0 wr.heap.size _ s rfl (by kernel_rfl) (by kernel_rfl) rfl ?_) | fail)
                      refine (O1.out _).mono ?_
                      rintro e w2 ⟨rfl, hb⟩
                      have hB := Lib.hid (w_below B3.out hb)
                      have c3 := cell_later hb c2
                      have m0 := cell_later hb (HN.out.cell (j := 0) (v := .int .i64 s.kind) rfl)
                      have m7 := cell_later hb (HN.out.cell (j := 7) (v := .bool s.last) rfl); rw [hl] at m7
                      have j7 := (HJ.out.later hB.out).e7; rw [lj, hlj] at j7; clear lj HJ
                      clear hb O1 HX c1 c2 HN
                      go_wp2_with fail
                      refine (TP.out _ (HL.out.later hB.out)).mono ?_
                      rintro e w3 ⟨rfl, rfl⟩
                      clear TP
                      go_wp2_with fail
                      refine (TN.out _ (HL.out.later hB.out)).mono ?_
                      rintro e w4 ⟨rfl, rfl⟩
                      clear TN
                      go_wp2_with fail
                      go_roundw
                      case rel => exact ⟨k + 1, by omega, by go_num, hall2, hB⟩
                      case measure => simp [intOf]; omega
                    | false =>
                      have hEk := S3k.out he (by rw [jn_mid hk4 (HA.trans hl), hn])
                      have hfh := HH.out k hlt (by rw [hEk]; decide) hall.out
                      have hfin := Lib.hid (show Ending.returned (Value.tuple #[.int .i64 r1, .int .i64 r2]) = .returned (.tuple #[.int .i64 3, .int .i64 (k : Int)]) by
                        rw [Prod.mk.injEq] at hfh; rw [hfh.1, hfh.2, hEk])
                      rw [hn] at TN
                      clear S1k S0k S3k hEk he HH HO hall hs HK HA TD hk4 HF hn hfh
                      go_wp2_with (first | (refine wl_load b (off + k * 17) s (by kernel_rfl) HX.out ?_) | (refine wl_load wr.heap.size 0 s (by kernel_rfl) HN.out.sg ?_) | (refine wl_store0 wr.heap.size _ s rfl (by kernel_rfl) (by kernel_rfl) rfl ?_) | fail)
                      refine (O1.out _).mono ?_
                      rintro e w2 ⟨rfl, hb⟩
                      have hB := Lib.hid (w_below B3.out hb)
                      have c3 := cell_later hb c2
                      have m0 := cell_later hb (HN.out.cell (j := 0) (v := .int .i64 s.kind) rfl)
                      have m7 := cell_later hb (HN.out.cell (j := 7) (v := .bool s.last) rfl); rw [hl] at m7
                      have j7 := (HJ.out.later hB.out).e7; rw [lj, hlj] at j7; clear lj HJ
                      clear hb O1 HX c1 c2 HN
                      go_wp2_with fail
                      refine (TP.out _ (HL.out.later hB.out)).mono ?_
                      rintro e w3 ⟨rfl, rfl⟩
                      clear TP
                      go_wp2_with fail
                      refine (TN.out _ (HL.out.later hB.out)).mono ?_
                      rintro e w4 ⟨rfl, rfl⟩
                      clear TN
                      go_wp2_with fail
                      go_ret2
                      exact ⟨hfin.out.symm, w_below B1.out hB.out⟩
                | false =>
                  have HF : fstB l k = false := by rw [HF0, hk4, hp, hlj]; rfl
                  clear HF0
                  cases hl : s.last with
                  | true =>
                    have hEk := S0k.out he (by rw [jn_last hk4 (HA.trans hl), HF]; rfl)
                    have hall2 := Lib.hid (show ∀ j, j < k + 1 → sgnE l j = 0 from fun j hj => by
                      by_cases e : j = k
                      · rw [e]; exact hEk
                      · exact hall.out j (by omega))
                    clear S1k S0k S3k hEk he HH HO hall hs HK HA TD hk4 HF TN
                    go_wp2_with (first | (refine wl_load b (off + k * 17) s (by kernel_rfl) HX.out ?_) | (refine wl_load wr.heap.size 0 s (by kernel_rfl) HN.out.sg ?_) | (refine wl_store0 wr.heap.size _ s rfl (by kernel_rfl) (by kernel_rfl) rfl ?_) | fail)
                    refine (O1.out _).mono ?_
                    rintro e w2 ⟨rfl, hb⟩
                    have hB := Lib.hid (w_below B3.out hb)
                    have c3 := cell_later hb c2
                    have m0 := cell_later hb (HN.out.cell (j := 0) (v := .int .i64 s.kind) rfl)
                    have m7 := cell_later hb (HN.out.cell (j := 7) (v := .bool s.last) rfl); rw [hl] at m7
                    have j7 := (HJ.out.later hB.out).e7; rw [lj, hlj] at j7; clear lj HJ
                    clear hb O1 HX c1 c2 HN
                    go_wp2_with fail
                    refine (TP.out _ (HL.out.later hB.out)).mono ?_
                    rintro e w3 ⟨rfl, rfl⟩
                    clear TP
                    go_wp2_with fail
                    go_roundw
                    case rel => exact ⟨k + 1, by omega, by go_num, hall2, hB⟩
                    case measure => simp [intOf]; omega
                  | false =>
                    cases hn : (decide (k + 1 < l.length) && kB l (k + 1)) with
                    | true =>
                      have hEk := S0k.out he (by rw [jn_mid hk4 (HA.trans hl), hn])
                      have hall2 := Lib.hid (show ∀ j, j < k + 1 → sgnE l j = 0 from fun j hj => by
                        by_cases e : j = k
                        · rw [e]; exact hEk
                        · exact hall.out j (by omega))
                      rw [hn] at TN
                      clear S1k S0k S3k hEk he HH HO hall hs HK HA TD hk4 HF hn
                      go_wp2_with (first | (refine wl_load b (off + k * 17) s (by kernel_rfl) HX.out ?_) | (refine wl_load wr.heap.size 0 s (by kernel_rfl) HN.out.sg ?_) | (refine wl_store0 wr.heap.size _ s rfl (by kernel_rfl) (by kernel_rfl) rfl ?_) | fail)
                      refine (O1.out _).mono ?_
                      rintro e w2 ⟨rfl, hb⟩
                      have hB := Lib.hid (w_below B3.out hb)
                      have c3 := cell_later hb c2
                      have m0 := cell_later hb (HN.out.cell (j := 0) (v := .int .i64 s.kind) rfl)
                      have m7 := cell_later hb (HN.out.cell (j := 7) (v := .bool s.last) rfl); rw [hl] at m7
                      have j7 := (HJ.out.later hB.out).e7; rw [lj, hlj] at j7; clear lj HJ
                      clear hb O1 HX c1 c2 HN
                      go_wp2_with fail
                      refine (TP.out _ (HL.out.later hB.out)).mono ?_
                      rintro e w3 ⟨rfl, rfl⟩
                      clear TP
                      go_wp2_with fail
                      refine (TN.out _ (HL.out.later hB.out)).mono ?_
                      rintro e w4 ⟨rfl, rfl⟩
                      clear TN
                      go_wp2_with fail
                      go_roundw
                      case rel => exact ⟨k + 1, by omega, by go_num, hall2, hB⟩
                      case measure => simp [intOf]; omega
                    | false =>
                      have hEk := S3k.out he (by rw [jn_mid hk4 (HA.trans hl), hn])
                      have hfh := HH.out k hlt (by rw [hEk]; decide) hall.out
                      have hfin := Lib.hid (show Ending.returned (Value.tuple #[.int .i64 r1, .int .i64 r2]) = .returned (.tuple #[.int .i64 3, .int .i64 (k : Int)]) by
                        rw [Prod.mk.injEq] at hfh; rw [hfh.1, hfh.2, hEk])
                      rw [hn] at TN
                      clear S1k S0k S3k hEk he HH HO hall hs HK HA TD hk4 HF hn hfh
                      go_wp2_with (first | (refine wl_load b (off + k * 17) s (by kernel_rfl) HX.out ?_) | (refine wl_load wr.heap.size 0 s (by kernel_rfl) HN.out.sg ?_) | (refine wl_store0 wr.heap.size _ s rfl (by kernel_rfl) (by kernel_rfl) rfl ?_) | fail)
                      refine (O1.out _).mono ?_
                      rintro e w2 ⟨rfl, hb⟩
                      have hB := Lib.hid (w_below B3.out hb)
                      have c3 := cell_later hb c2
                      have m0 := cell_later hb (HN.out.cell (j := 0) (v := .int .i64 s.kind) rfl)
                      have m7 := cell_later hb (HN.out.cell (j := 7) (v := .bool s.last) rfl); rw [hl] at m7
                      have j7 := (HJ.out.later hB.out).e7; rw [lj, hlj] at j7; clear lj HJ
                      clear hb O1 HX c1 c2 HN
                      go_wp2_with fail
                      refine (TP.out _ (HL.out.later hB.out)).mono ?_
                      rintro e w3 ⟨rfl, rfl⟩
                      clear TP
                      go_wp2_with fail
                      refine (TN.out _ (HL.out.later hB.out)).mono ?_
                      rintro e w4 ⟨rfl, rfl⟩
                      clear TN
                      go_wp2_with fail
                      go_ret2
                      exact ⟨hfin.out.symm, w_below B1.out hB.out⟩
        · have hEk := S1k.out he
          have hfh := HH.out k hlt (by rw [hEk]; exact he) hall.out
          have hfin := Lib.hid (show Ending.returned (Value.tuple #[.int .i64 r1, .int .i64 r2]) = .returned (.tuple #[.int .i64 (oneE s), .int .i64 (k : Int)]) by
            rw [Prod.mk.injEq] at hfh; rw [hfh.1, hfh.2, hEk])
          have e1 : (oneE s == 0) = false := beq_eq_false_iff_ne.2 he
          have e2 : (oneE s != 0) = true := by simp [he]
          clear S1k S0k S3k hEk he HH HO hall hs hfh TD
          generalize oneE s = fe at *
          go_wp2_with (first | (refine wl_load b (off + k * 17) s (by kernel_rfl) HX.out ?_) | (refine wl_load wr.heap.size 0 s (by kernel_rfl) HN.out.sg ?_) | (refine wl_store0 wr.heap.size _ s rfl (by kernel_rfl) (by kernel_rfl) rfl ?_) | fail)
          refine (O1.out _).mono ?_
          rintro e w2 ⟨rfl, hb⟩
          have hB := Lib.hid (w_below B3.out hb)
          clear hb O1 HX c1 c2 HN
          go_wp2_with fail
          go_ret2
          exact ⟨hfin.out.symm, w_below B1.out hB.out⟩
      · have hlt' : ¬ (k : Int) < l.length := by omega
        have hfh := HO.out (fun j hj => hall.out j (by omega))
        have hfin := Lib.hid (show Ending.returned (Value.tuple #[.int .i64 r1, .int .i64 r2]) = .returned (.tuple #[.int .i64 0, .int .i64 0]) by
          rw [Prod.mk.injEq] at hfh; rw [hfh.1, hfh.2]; rfl)
        clear HH HO hall hfh ON TD
        go_wp2_with fail
        go_ret2
        exact ⟨hfin.out.symm, w_below B1.out hbr.out⟩

end Go.Proofs.YtcomjcflllfobaaDoor
