/- The kit's run of notes, rests and dots made of numbers: a list of valid signs. -/
import Derived.Test.YtdmedealdhadcaaGreatDoorG27

namespace Go.Proofs.YtdmedealdhadcaaGreatDoor
open Go.RowKit
set_option maxHeartbeats 4000000 in
theorem kabove_any (q : Q4) (v : Int) (hv : 0 ≤ v ∧ v ≤ 100) (w : World) : Calls Tryz.prog 105 #[mv q, .int .i64 v] w fun e w' => (∃ r, e = .returned (.bool r)) ∧ Below w.heap.size w w' := by
  have K := Lib.hid (Cell4.made w q 23)
  have B := Lib.hid (w_alloc (w_refl w) (mO q))
  have PA := Lib.hid (fun v W => kparts_any q v W)
  obtain ⟨a, b, c, d⟩ := q
  go_enter Tryz.func105, Tryz.ntmps105
  go_upto_region 1 with (fail)
  obtain ⟨b1, hb1⟩ : ∃ b1, w.heap.size = b1 := ⟨_, rfl⟩
  rw [hb1] at K ⊢
  generalize w.alloc (mO (a, b, c, d)) = y at *
  go_wp2_with fail
  go_loopw [5] (fun i wr => ∃ k : Int, 1 ≤ k ∧ k ≤ 101 ∧ i = .int .i64 k ∧ Hid (Cell4 wr b1 (a, b, c, d)) ∧ Hid (Below w.heap.size w wr)) (fun i _ => (v - intOf i).toNat)
  case atStart => exact ⟨1, by omega, by omega, rfl, K, B⟩
  case round =>
    rename World => wr
    obtain ⟨k, hk0, hk1, rfl, HK, HB⟩ := hrel
    clear K B
    by_cases hlt : k < v
    · obtain ⟨_, c0, c1, c2, c3, _, _, _, _⟩ := HK.out
      have x1 : IntKind.i64.wrap (k + 1) = k + 1 := IntWalk.i64_in _ (by omega)
      go_wp2_with fail
      refine (PA.out _ _).mono ?_
      rintro e w2 ⟨⟨r, rfl⟩, hb⟩
      replace HK := Lib.hid (HK.out.later hb)
      replace HB := Lib.hid (w_below HB.out hb)
      clear c0 c1 c2 c3 hb PA
      by_cases h3 : r = 3
      · subst h3
        go_wp2_with fail
        go_ret
        exact ⟨⟨_, rfl⟩, HB.out⟩
      · go_wp2_with fail
        go_roundw
        case rel => exact ⟨k + 1, by omega, by omega, rfl, HK, HB⟩
        case measure => simp [intOf]; omega
    · go_wp2_with fail
      go_ret
      exact ⟨.inl rfl, by rw [← hb1]; exact HB.out⟩
section
variable {ops : Array Oper} {rest : List Oper} {t : TypeId} {ps : String} {af : Array Edge} {a : Act} {Q : Exit → Act → World → Prop}
theorem wl_one {w : World} {d : Tmp} (x : Operand) (s : Sg) (hx : a.eval x = sgv s)
    (h : wpList Tryz.prog ops Q rest (a.put (some d) (.slice (some ⟨w.heap.size, 0, none⟩) 1 1)) (w.alloc (sgO s))) :
    wpList Tryz.prog ops Q ({ dst := some d, op := .buildSlice 35 1 #[(0, x)], type := t, pos := ps, after := af, guard := none } :: rest) a w := by
  have hr := run_lit_sg s w
  rw [← hx] at hr
  refine wpList_plain rfl fun K hK => ?_
  unfold Oper.wp execOp
  simp only [Sem.run_bind, Sem.run_pure, List.map_toArray, List.map_cons, List.map_nil]
  rw [hr]
  exact hK _ _ h
theorem wl_appS {w0 w w1 : World} {d : Tmp} {s x : Operand} {v : Value} {zs : List Sg} (z : Sg) (h : SgO w0 w v zs) (hw1 : w1 = w.alloc (sgO z)) (hn : zs.length ≤ 100000) (hs : a.eval s = v) (hx : a.eval x = .slice (some ⟨w.heap.size, 0, none⟩) 1 1)
    (k : ∀ g cap w2, SgO w0 w2 (.slice (some ⟨g, 0, none⟩) (zs.length + 1) cap) (zs ++ [z]) → w1.grownBy w2 v.ownBlock → wpList Tryz.prog ops Q rest (a.put (some d) (.slice (some ⟨g, 0, none⟩) (zs.length + 1) cap)) w2) :
    wpList Tryz.prog ops Q ({ dst := some d, op := .call { callee := .builtin .append, args := #[s, x], argTypes := #[35, 35] }, type := t, pos := ps, after := af, guard := none } :: rest) a w1 := by
  subst hw1
  obtain ⟨i0, hi0, hz0, hz1, hz2⟩ := info_parts info_sign
  have hl : SgO w0 (w.alloc (sgO z)) v zs := h.later (w_alloc (w_refl w) _)
  refine wpList_append_lies _ rfl s x 35 rfl w0.heap.size 27 i0 (sgv zS) 17 128 Tryz.underlying35 hi0 hz0 hz1 hz2 rfl (by decide) v zs.length (flatG zs) hs hl.row ⟨w.heap.size, 0, none⟩ 1 1 (flatG [z]) hx rfl (fun j u hj => World.news_of_block (sg_new w z) j u (by simpa [flatG, sgL] using hj)) (flatG_one [z]) (by decide) (by unfold maxLen; omega) (by omega) hl.bel.size _ rfl ?_
  intro g cap w2 h2 h3 _ _
  exact k g cap w2 (hl.app h2 h3) h3
end
/-! ### The run -/
def ruV (r : Nat) : Int := ([3, 4, 4, 5, 5, 3, 2, 6] : List Int).getD r 0
def ruA : Array Value := #[.int .i64 3, .int .i64 4, .int .i64 4, .int .i64 5, .int .i64 5, .int .i64 3, .int .i64 2, .int .i64 6]
theorem ru_at : ∀ r : Nat, r < 8 → ruA[r]? = some (.int .i64 (ruV r)) ∧ 1 ≤ ruV r ∧ ruV r ≤ 8 := by
  intro r hr
  have c : r = 0 ∨ r = 1 ∨ r = 2 ∨ r = 3 ∨ r = 4 ∨ r = 5 ∨ r = 6 ∨ r = 7 := by omega
  rcases c with rfl | rfl | rfl | rfl | rfl | rfl | rfl | rfl <;> exact ⟨rfl, by decide, by decide⟩
theorem pl_nP {v p : Int} (c : Bool) (hv : 1 ≤ v ∧ v ≤ 8) (hp : 0 ≤ p ∧ p ≤ 8) : PlS (nP v p 0 c) := ⟨one_nP c hv (by omega) (by omega), rfl⟩
theorem pl_reP {v : Int} (hv : 1 ≤ v ∧ v ≤ 8) : PlS (reP v) := ⟨one_reP hv, rfl⟩
theorem pl_doP : PlS doP := ⟨one_bare.2.2.2, rfl⟩
theorem SgO.near {w0 w W : World} {v : Value} {zs : List Sg} {b : Nat} (h : SgO w0 w v zs) (hne : v.ownBlock ≠ some b) (bel : Below w0.heap.size w0 W) (ho : ∀ c, c ≠ b → W.heap[c]? = w.heap[c]?) : SgO w0 W v zs := by
  refine ⟨bel, h.row.1, ?_⟩
  rcases h.row.2 with h2 | ⟨g, cap, cur, hv, hb, hg, rest⟩
  · exact .inl h2
  · have hne : g ≠ b := fun e => hne (by rw [hv, e]; rfl)
    exact .inr ⟨g, cap, cur, hv, hb, (ho g hne).trans hg, rest⟩
set_option maxRecDepth 100000 in
set_option maxHeartbeats 16000000 in
theorem krun_any (q : Q4) (p : Option Addr) (cap : Nat) (zs : List Int) (hb : ∀ z ∈ zs, -9223372036854775808 ≤ z ∧ z ≤ 9223372036854775807) (w : World) (h : SlP w 1 p zs.length cap (ints zs)) :
    Calls Tryz.prog 56 #[mv q, .slice p zs.length cap, .int .i64 30] w fun e w' => ∃ v l, e = .returned v ∧ SgO w w' v l ∧ l.length ≤ 30 ∧ ∀ s ∈ l, PlS s := by
  have M := Lib.hid (fun (i : Nat) W => mod_any (zs.getD i 0) 504 W (getD_bdsL hb i).1 (getD_bdsL hb i).2 (by decide) (by decide))
  have AB := Lib.hid (fun v hv W => kabove_any q v hv W)
  have f1 := h.fit
  have f2 := h.max
  have CQ := Lib.hid ((Cell4.made w q 23).later (w_alloc (w_refl _) (.cells ruA 3)))
  have HV := Lib.hid (HoldsB.new (w.alloc (mO q)) 3 ruA)
  have B0 := Lib.hid (w_alloc (w_alloc (w_refl w) (mO q)) (.cells ruA 3))
  have HN := Lib.hid (h.later B0.out)
  rw [World.size_alloc] at HV
  obtain ⟨qa, qb, qc, qd⟩ := q
  clear h
  go_enter Tryz.func56, Tryz.ntmps56
  go_upto_region 2 with (fail)
  obtain ⟨b3, hb3⟩ : ∃ b3, w.heap.size = b3 := ⟨_, rfl⟩
  rw [hb3] at HV CQ ⊢
  change Code.wp _ _ _ _ ((w.alloc (mO (qa, qb, qc, qd))).alloc (.cells ruA 3))
  generalize (w.alloc (mO (qa, qb, qc, qd))).alloc (.cells ruA 3) = y at *
  clear hb3
  go_wp2_with fail
  go_loopw [8, 9] (fun v i wr => ∃ (k : Nat) (l : List Sg), i = .int .i64 k ∧ (∃ q c, v = .slice q l.length c) ∧ k ≤ l.length ∧ l.length ≤ 30 ∧ Hid (∀ s ∈ l, PlS s) ∧ Hid (SgO y wr v l)) (fun _ i _ => zs.length - (intOf i).toNat)
  case atStart => exact ⟨0, [], rfl, ⟨none, 0, rfl⟩, by simp, by simp, Lib.hid (fun _ h => by simp at h), Lib.hid (SgO.start y)⟩
  case round =>
    obtain ⟨k, l, rfl, ⟨q1, a1, rfl⟩, hk, hl, hP, hS⟩ := hrel
    by_cases hlt : k < zs.length
    · have hlt' : (k : Int) < zs.length := by omega
      have hk0 : (0 : Int) ≤ k := by omega
      by_cases hl2 : l.length < 30
      · have hl2' : (l.length : Int) < 30 := by omega
        obtain ⟨bz, oz, rfl, -, hc⟩ := HN.out.at_ (by omega)
        have c0 : wr.cell? ⟨bz, oz + k, none⟩ = some (.int .i64 (zs.getD k 0)) := cell_later hS.out.bel (hc k _ (by simp [List.getElem?_map, List.getElem?_eq_getElem hlt, List.getD]))
        have hm := Lib.hid (M.out k)
        obtain ⟨z, hz⟩ : ∃ z, zs.getD k 0 = z := ⟨_, rfl⟩
        rw [hz] at c0 hm
        clear hc hz
        go_wp2_with fail
        refine (hm.out _).mono ?_
        rintro e w1 ⟨rfl, rfl⟩
        clear hm c0 hlt'
        obtain ⟨r, hr, hr1⟩ : ∃ r : Nat, (z % 504) % 8 = (r : Int) ∧ r < 8 := ⟨((z % 504) % 8).toNat, by omega, by omega⟩
        obtain ⟨n, hn⟩ : ∃ n, z % 504 = n := ⟨_, rfl⟩
        rw [hn] at hr ⊢
        have hn1 : 0 ≤ n ∧ n ≤ 503 := by omega
        obtain ⟨hn1, hn2⟩ := hn1
        clear hn
        have x0 : n.tmod 8 = (r : Int) := by rw [Int.tmod_eq_emod_of_nonneg hn1]; exact hr
        have x1 : ((k : Int)).tmod 9 = (k : Int) % 9 := Int.tmod_eq_emod_of_nonneg hk0
        have x2 : IntKind.i64.wrap (n.tdiv 8) = n / 8 := tq hn1 (by omega) 8 (by decide)
        have x3 : (n / 8).tmod 9 = (n / 8) % 9 := Int.tmod_eq_emod_of_nonneg (by omega)
        have x4 : IntKind.i64.wrap (n.tdiv 72) = n / 72 := tq hn1 (by omega) 72 (by decide)
        have x5 : IntKind.i64.wrap ((k : Int) + 1) = (k : Int) + 1 := IntWalk.i64_in _ (by omega)
        obtain ⟨pl, hpl, hpl1⟩ : ∃ pl, (k : Int) % 9 = pl ∧ (0 ≤ pl ∧ pl ≤ 8) := ⟨_, rfl, by omega⟩
        rw [hpl] at x1
        obtain ⟨rv, rv1⟩ := ru_at r hr1
        have cv := cell_later hS.out.bel (HV.out.cell rv)
        obtain ⟨v, hv⟩ : ∃ v, ruV r = v := ⟨_, rfl⟩
        rw [hv] at cv rv1
        clear hv rv hr hpl
        obtain ⟨g, hg⟩ : ∃ g, (n / 8) % 9 = g := ⟨_, rfl⟩
        rw [hg] at x3
        obtain ⟨d, hd⟩ : ∃ d, n / 72 = d := ⟨_, rfl⟩
        rw [hd] at x4
        have hr1' : (r : Int) < 8 := by omega
        have hr0 : (0 : Int) ≤ r := by omega
        clear hg hd hn2
        have R0 := Lib.hid (sg_new wr (nP v pl 0 false))
        have b0 := w_alloc (w_refl wr) (sgO (nP v pl 0 false))
        have S0 := Lib.hid (hS.out.later b0)
        have C0 := Lib.hid ((CQ.out.later hS.out.bel).later b0)
        have N0 := Lib.hid (hS.out.lt)
        clear b0
        go_upto_region 8 with (first | (with_reducible refine wl_buildS (d := 38) _ (nP v pl 0 false) (by kernel_rfl) ?_) | (with_reducible refine wl_store0 wr.heap.size _ (nP v pl 0 false) rfl (by kernel_rfl) (by kernel_rfl) rfl ?_) | fail)
        obtain ⟨b11, hb11⟩ : ∃ b11, wr.heap.size = b11 := ⟨_, rfl⟩
        have L0 := Lib.hid (show y.heap.size ≤ b11 by rw [← hb11]; exact hS.out.bel.size)
        rw [hb11] at R0 N0 ⊢
        generalize wr.alloc (sgO (nP v pl 0 false)) = y1 at *
        clear hb11 cv x0 x1 hr0 hr1' hr1 hS
        by_cases g0 : g = 0
        · subst g0
          have c1 := R0.out.cell (j := 1) (v := .int .i64 v) rfl
          go_wp2_with (first | (with_reducible refine wl_buildS (d := 46) _ (reP v) (by kernel_rfl) ?_) | (with_reducible refine wl_rowS b11 _ (reP v) R0.out (by kernel_rfl) (by kernel_rfl) rfl ?_) | fail)
          intro W5 h5 hB5 ho
          have R1 := Lib.hid h5
          have S1 := Lib.hid (S0.out.near N0.out (hB5 _ _ S0.out.bel L0.out) ho)
          have P1 := Lib.hid (pl_reP rv1)
          clear c1 h5 hB5 ho R0 S0 C0
          go_upto_region 15 with (first | (with_reducible refine wl_load b11 0 (reP v) (by kernel_rfl) R1.out.sg ?_) | (with_reducible refine wl_one _ (reP v) (by kernel_rfl) ?_) | (with_reducible refine wl_appS (reP v) S1.out rfl (by omega) (by kernel_rfl) (by kernel_rfl) ?_) | fail)
          intro g2 cap2 w2 hown hgrow
          have R2 := Lib.hid ((R1.out.later (w_alloc (w_refl _) (sgO (reP v)))).kept hgrow (fun e => N0.out e.symm))
          have S2 := Lib.hid hown
          have C2 := Lib.hid (CQ.out.later hown.bel)
          clear hown hgrow R1 S1 N0 L0
          go_upto_region 15 with (fail)
          have k0 := R2.out.cell (j := 0) (v := .int .i64 2) rfl
          have k1 := R2.out.cell (j := 1) (v := .int .i64 v) rfl
          have y0 := C2.out.c0
          have y1 := C2.out.c1
          have y2 := C2.out.c2
          have y3 := C2.out.c3
          by_cases d0 : d = 0
          · subst d0
            by_cases hl3 : l.length + 1 < 30
            · have hl4 : (l.length : Int) + 1 < 30 := by omega
              go_wp2_with fail
              refine (AB.out v (by omega) _).mono ?_
              rintro e w3 ⟨⟨r9, rfl⟩, hb⟩
              replace S2 := Lib.hid (S2.out.later hb)
              clear hb R2 C2 k0 k1 y0 y1 y2 y3
              cases r9 with
              | true =>
                have hn9 : (l ++ [(reP v)]).length ≤ 100000 := by rw [List.length_append]; show l.length + 1 ≤ _; omega
                go_wp2_with (first | (with_reducible refine wl_buildS (d := 77) _ doP (by kernel_rfl) ?_) | (with_reducible refine wl_one _ doP (by kernel_rfl) ?_) | (with_reducible refine wl_appS doP S2.out rfl hn9 (by kernel_rfl) (by kernel_rfl) ?_) | fail)
                intro g3 cap3 w3 hown3 _
                go_wp2_with fail
                go_roundw
                case rel => exact ⟨k + 1, l ++ [(reP v)] ++ [doP], rfl, ⟨some ⟨g3, 0, none⟩, cap3, by rw [List.length_append, List.length_append]; rfl⟩, by simp only [List.length_append, List.length_cons, List.length_nil]; omega, by simp only [List.length_append, List.length_cons, List.length_nil]; omega, Lib.hid (pl_add (pl_add hP.out P1.out) pl_doP), Lib.hid (by have h := hown3; rw [List.length_append] at h; exact h)⟩
                case measure => simp [intOf]; omega
              | false =>
                go_wp2_with fail
                go_roundw
                case rel => exact ⟨k + 1, l ++ [(reP v)], rfl, ⟨some ⟨g2, 0, none⟩, cap2, by rw [List.length_append]; rfl⟩, by simp only [List.length_append, List.length_cons, List.length_nil]; omega, by simp only [List.length_append, List.length_cons, List.length_nil]; omega, Lib.hid (pl_add hP.out P1.out), S2⟩
                case measure => simp [intOf]; omega
            · have hl4 : ¬ (l.length : Int) + 1 < 30 := by omega
              go_wp2_with fail
              go_roundw
              case rel => exact ⟨k + 1, l ++ [(reP v)], rfl, ⟨some ⟨g2, 0, none⟩, cap2, by rw [List.length_append]; rfl⟩, by simp only [List.length_append, List.length_cons, List.length_nil]; omega, by simp only [List.length_append, List.length_cons, List.length_nil]; omega, Lib.hid (pl_add hP.out P1.out), S2⟩
              case measure => simp [intOf]; omega
          · go_wp2_with fail
            go_roundw
            case rel => exact ⟨k + 1, l ++ [(reP v)], rfl, ⟨some ⟨g2, 0, none⟩, cap2, by rw [List.length_append]; rfl⟩, by simp only [List.length_append, List.length_cons, List.length_nil]; omega, by simp only [List.length_append, List.length_cons, List.length_nil]; omega, Lib.hid (pl_add hP.out P1.out), S2⟩
            case measure => simp [intOf]; omega
        by_cases g1 : g = 1
        · subst g1
          have c4 := R0.out.cell (j := 4) (v := .bool false) rfl
          have f4 := R0.out.frozen 4
          go_upto_region 14 with (fail)
          have R1 := Lib.hid (show HoldsB (y1.setCell ⟨b11, 4, none⟩ (.bool true)) b11 27 (sgA (nP v pl 0 true)) from R0.out.set 4 (.bool true))
          have S1 := Lib.hid (S0.out.near N0.out (w_set (p := ⟨b11, 4, none⟩) S0.out.bel L0.out (.bool true)) (fun c hc => Below.heap_setCell _ _ _ _ hc))
          have P1 := Lib.hid (pl_nP true rv1 hpl1)
          clear c4 f4 R0 S0 C0
          generalize y1.setCell ⟨b11, 4, none⟩ (.bool true) = W5 at *
          go_upto_region 15 with (first | (with_reducible refine wl_load b11 0 (nP v pl 0 true) (by kernel_rfl) R1.out.sg ?_) | (with_reducible refine wl_one _ (nP v pl 0 true) (by kernel_rfl) ?_) | (with_reducible refine wl_appS (nP v pl 0 true) S1.out rfl (by omega) (by kernel_rfl) (by kernel_rfl) ?_) | fail)
          intro g2 cap2 w2 hown hgrow
          have R2 := Lib.hid ((R1.out.later (w_alloc (w_refl _) (sgO (nP v pl 0 true)))).kept hgrow (fun e => N0.out e.symm))
          have S2 := Lib.hid hown
          have C2 := Lib.hid (CQ.out.later hown.bel)
          clear hown hgrow R1 S1 N0 L0
          go_upto_region 15 with (fail)
          have k0 := R2.out.cell (j := 0) (v := .int .i64 1) rfl
          have k1 := R2.out.cell (j := 1) (v := .int .i64 v) rfl
          have y0 := C2.out.c0
          have y1 := C2.out.c1
          have y2 := C2.out.c2
          have y3 := C2.out.c3
          by_cases d0 : d = 0
          · subst d0
            by_cases hl3 : l.length + 1 < 30
            · have hl4 : (l.length : Int) + 1 < 30 := by omega
              have hn9 : (l ++ [(nP v pl 0 true)]).length ≤ 100000 := by rw [List.length_append]; show l.length + 1 ≤ _; omega
              clear y0 y1 y2 y3 k1 C2 R2 x2 x3
              go_wp2_with (first | (with_reducible refine wl_buildS (d := 77) _ doP (by kernel_rfl) ?_) | (with_reducible refine wl_one _ doP (by kernel_rfl) ?_) | (with_reducible refine wl_appS doP S2.out rfl hn9 (by kernel_rfl) (by kernel_rfl) ?_) | fail)
              intro g3 cap3 w3 hown3 _
              go_wp2_with fail
              go_roundw
              case rel => exact ⟨k + 1, l ++ [(nP v pl 0 true)] ++ [doP], rfl, ⟨some ⟨g3, 0, none⟩, cap3, by rw [List.length_append, List.length_append]; rfl⟩, by simp only [List.length_append, List.length_cons, List.length_nil]; omega, by simp only [List.length_append, List.length_cons, List.length_nil]; omega, Lib.hid (pl_add (pl_add hP.out P1.out) pl_doP), Lib.hid (by have h := hown3; rw [List.length_append] at h; exact h)⟩
              case measure => simp [intOf]; omega
            · have hl4 : ¬ (l.length : Int) + 1 < 30 := by omega
              go_wp2_with fail
              go_roundw
              case rel => exact ⟨k + 1, l ++ [(nP v pl 0 true)], rfl, ⟨some ⟨g2, 0, none⟩, cap2, by rw [List.length_append]; rfl⟩, by simp only [List.length_append, List.length_cons, List.length_nil]; omega, by simp only [List.length_append, List.length_cons, List.length_nil]; omega, Lib.hid (pl_add hP.out P1.out), S2⟩
              case measure => simp [intOf]; omega
          · go_wp2_with fail
            go_roundw
            case rel => exact ⟨k + 1, l ++ [(nP v pl 0 true)], rfl, ⟨some ⟨g2, 0, none⟩, cap2, by rw [List.length_append]; rfl⟩, by simp only [List.length_append, List.length_cons, List.length_nil]; omega, by simp only [List.length_append, List.length_cons, List.length_nil]; omega, Lib.hid (pl_add hP.out P1.out), S2⟩
            case measure => simp [intOf]; omega
        by_cases g2 : g = 2
        · subst g2
          have c4 := R0.out.cell (j := 4) (v := .bool false) rfl
          have f4 := R0.out.frozen 4
          go_upto_region 14 with (fail)
          have R1 := Lib.hid (show HoldsB (y1.setCell ⟨b11, 4, none⟩ (.bool true)) b11 27 (sgA (nP v pl 0 true)) from R0.out.set 4 (.bool true))
          have S1 := Lib.hid (S0.out.near N0.out (w_set (p := ⟨b11, 4, none⟩) S0.out.bel L0.out (.bool true)) (fun c hc => Below.heap_setCell _ _ _ _ hc))
          have P1 := Lib.hid (pl_nP true rv1 hpl1)
          clear c4 f4 R0 S0 C0
          generalize y1.setCell ⟨b11, 4, none⟩ (.bool true) = W5 at *
          go_upto_region 15 with (first | (with_reducible refine wl_load b11 0 (nP v pl 0 true) (by kernel_rfl) R1.out.sg ?_) | (with_reducible refine wl_one _ (nP v pl 0 true) (by kernel_rfl) ?_) | (with_reducible refine wl_appS (nP v pl 0 true) S1.out rfl (by omega) (by kernel_rfl) (by kernel_rfl) ?_) | fail)
          intro g2 cap2 w2 hown hgrow
          have R2 := Lib.hid ((R1.out.later (w_alloc (w_refl _) (sgO (nP v pl 0 true)))).kept hgrow (fun e => N0.out e.symm))
          have S2 := Lib.hid hown
          have C2 := Lib.hid (CQ.out.later hown.bel)
          clear hown hgrow R1 S1 N0 L0
          go_upto_region 15 with (fail)
          have k0 := R2.out.cell (j := 0) (v := .int .i64 1) rfl
          have k1 := R2.out.cell (j := 1) (v := .int .i64 v) rfl
          have y0 := C2.out.c0
          have y1 := C2.out.c1
          have y2 := C2.out.c2
          have y3 := C2.out.c3
          by_cases d0 : d = 0
          · subst d0
            by_cases hl3 : l.length + 1 < 30
            · have hl4 : (l.length : Int) + 1 < 30 := by omega
              have hn9 : (l ++ [(nP v pl 0 true)]).length ≤ 100000 := by rw [List.length_append]; show l.length + 1 ≤ _; omega
              clear y0 y1 y2 y3 k1 C2 R2 x2 x3
              go_wp2_with (first | (with_reducible refine wl_buildS (d := 77) _ doP (by kernel_rfl) ?_) | (with_reducible refine wl_one _ doP (by kernel_rfl) ?_) | (with_reducible refine wl_appS doP S2.out rfl hn9 (by kernel_rfl) (by kernel_rfl) ?_) | fail)
              intro g3 cap3 w3 hown3 _
              go_wp2_with fail
              go_roundw
              case rel => exact ⟨k + 1, l ++ [(nP v pl 0 true)] ++ [doP], rfl, ⟨some ⟨g3, 0, none⟩, cap3, by rw [List.length_append, List.length_append]; rfl⟩, by simp only [List.length_append, List.length_cons, List.length_nil]; omega, by simp only [List.length_append, List.length_cons, List.length_nil]; omega, Lib.hid (pl_add (pl_add hP.out P1.out) pl_doP), Lib.hid (by have h := hown3; rw [List.length_append] at h; exact h)⟩
              case measure => simp [intOf]; omega
            · have hl4 : ¬ (l.length : Int) + 1 < 30 := by omega
              go_wp2_with fail
              go_roundw
              case rel => exact ⟨k + 1, l ++ [(nP v pl 0 true)], rfl, ⟨some ⟨g2, 0, none⟩, cap2, by rw [List.length_append]; rfl⟩, by simp only [List.length_append, List.length_cons, List.length_nil]; omega, by simp only [List.length_append, List.length_cons, List.length_nil]; omega, Lib.hid (pl_add hP.out P1.out), S2⟩
              case measure => simp [intOf]; omega
          · go_wp2_with fail
            go_roundw
            case rel => exact ⟨k + 1, l ++ [(nP v pl 0 true)], rfl, ⟨some ⟨g2, 0, none⟩, cap2, by rw [List.length_append]; rfl⟩, by simp only [List.length_append, List.length_cons, List.length_nil]; omega, by simp only [List.length_append, List.length_cons, List.length_nil]; omega, Lib.hid (pl_add hP.out P1.out), S2⟩
            case measure => simp [intOf]; omega
        have R1 := R0
        have S1 := S0
        have P1 := Lib.hid (pl_nP false rv1 hpl1)
        clear R0 S0 C0
        go_upto_region 14 with (fail)
        go_upto_region 15 with (first | (with_reducible refine wl_load b11 0 (nP v pl 0 false) (by kernel_rfl) R1.out.sg ?_) | (with_reducible refine wl_one _ (nP v pl 0 false) (by kernel_rfl) ?_) | (with_reducible refine wl_appS (nP v pl 0 false) S1.out rfl (by omega) (by kernel_rfl) (by kernel_rfl) ?_) | fail)
        intro g2 cap2 w2 hown hgrow
        have R2 := Lib.hid ((R1.out.later (w_alloc (w_refl _) (sgO (nP v pl 0 false)))).kept hgrow (fun e => N0.out e.symm))
        have S2 := Lib.hid hown
        have C2 := Lib.hid (CQ.out.later hown.bel)
        clear hown hgrow R1 S1 N0 L0
        go_upto_region 15 with (fail)
        have k0 := R2.out.cell (j := 0) (v := .int .i64 1) rfl
        have k1 := R2.out.cell (j := 1) (v := .int .i64 v) rfl
        have y0 := C2.out.c0
        have y1 := C2.out.c1
        have y2 := C2.out.c2
        have y3 := C2.out.c3
        by_cases d0 : d = 0
        · subst d0
          by_cases hl3 : l.length + 1 < 30
          · have hl4 : (l.length : Int) + 1 < 30 := by omega
            have hn9 : (l ++ [(nP v pl 0 false)]).length ≤ 100000 := by rw [List.length_append]; show l.length + 1 ≤ _; omega
            clear y0 y1 y2 y3 k1 C2 R2 x2 x3
            go_wp2_with (first | (with_reducible refine wl_buildS (d := 77) _ doP (by kernel_rfl) ?_) | (with_reducible refine wl_one _ doP (by kernel_rfl) ?_) | (with_reducible refine wl_appS doP S2.out rfl hn9 (by kernel_rfl) (by kernel_rfl) ?_) | fail)
            intro g3 cap3 w3 hown3 _
            go_wp2_with fail
            go_roundw
            case rel => exact ⟨k + 1, l ++ [(nP v pl 0 false)] ++ [doP], rfl, ⟨some ⟨g3, 0, none⟩, cap3, by rw [List.length_append, List.length_append]; rfl⟩, by simp only [List.length_append, List.length_cons, List.length_nil]; omega, by simp only [List.length_append, List.length_cons, List.length_nil]; omega, Lib.hid (pl_add (pl_add hP.out P1.out) pl_doP), Lib.hid (by have h := hown3; rw [List.length_append] at h; exact h)⟩
            case measure => simp [intOf]; omega
          · have hl4 : ¬ (l.length : Int) + 1 < 30 := by omega
            go_wp2_with fail
            go_roundw
            case rel => exact ⟨k + 1, l ++ [(nP v pl 0 false)], rfl, ⟨some ⟨g2, 0, none⟩, cap2, by rw [List.length_append]; rfl⟩, by simp only [List.length_append, List.length_cons, List.length_nil]; omega, by simp only [List.length_append, List.length_cons, List.length_nil]; omega, Lib.hid (pl_add hP.out P1.out), S2⟩
            case measure => simp [intOf]; omega
        · go_wp2_with fail
          go_roundw
          case rel => exact ⟨k + 1, l ++ [(nP v pl 0 false)], rfl, ⟨some ⟨g2, 0, none⟩, cap2, by rw [List.length_append]; rfl⟩, by simp only [List.length_append, List.length_cons, List.length_nil]; omega, by simp only [List.length_append, List.length_cons, List.length_nil]; omega, Lib.hid (pl_add hP.out P1.out), S2⟩
          case measure => simp [intOf]; omega
      · go_wp2_with fail
        go_ret
        exact ⟨_, l, rfl, hS.out.base B0.out, hl, hP.out⟩
    · go_wp2_with fail
      go_ret
      exact ⟨_, l, rfl, hS.out.base B0.out, hl, hP.out⟩
end Go.Proofs.YtdmedealdhadcaaGreatDoor
