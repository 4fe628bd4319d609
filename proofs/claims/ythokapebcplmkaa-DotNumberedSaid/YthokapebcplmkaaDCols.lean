/- The program's collect, at both types. -/
import Derived.Test.YthokapebcplmkaaDByr
namespace Go.Proofs.Ythokapebcplmkaa
open Go.RowKit

set_option maxRecDepth 100000 in
set_option maxHeartbeats 8000000 in
theorem pcolL_any (q : Q4) (l : List Sg) (hl : l.length ≤ 1000) (bm : Nat) (p : Option Addr) (cap : Nat) (w : World) (h : SlP w 17 p l.length cap (flatG l)) (hm : Cell4 w bm q) :
    Calls Try.prog 43 #[.slice p l.length cap, .func (.func 44) #[] #[.pointer (some ⟨bm, 0, none⟩)]] w fun e w' => ∃ v, e = .returned v ∧ ∃ vs, GrpI w w' v vs (mnP q l l.length) := by
  obtain ⟨i0, hi0, hz0, hz1, hz2⟩ := info_parts info_ints
  have f1 := h.fit
  have f2 := h.max
  have HP := Lib.hid h
  have KM := Lib.hid (fun W (hb : Below w.heap.size w W) => hm.later hb)
  have DB := Lib.hid (dtb_any w)
  have DT := Lib.hid (fun b cur s W hh => dts_any b cur s W hh)
  have HLEN := Lib.hid (fun k => mnP_len q l k)
  clear h hm
  obtain ⟨q1, q2, q3, q4⟩ := q
  go_enter Try.func43, Try.ntmps43
  go_wp2_with fail
  refine DB.out.mono ?_
  rintro e w2 ⟨rfl, hS, hb⟩
  have hL0 := Lib.hid hS
  have hG0 := Lib.hid (show GrpI w w2 (.slice none 0 0) [] (mnP (q1, q2, q3, q4) l 0) from ⟨⟨hb, World.ownsRow_nil _ _ _ _⟩, InnI.nil _ _⟩)
  obtain ⟨b, hbb⟩ : ∃ b, w.heap.size = b := ⟨_, rfl⟩
  have hle : w.heap.size ≤ b := by omega
  rw [hbb] at hL0 ⊢
  clear hS hb DB hbb
  go_wp2_with fail
  go_loopw [5, 7, 8, 9, 13] (fun s5 _ _ _ s13 wr => ∃ k : Nat, k ≤ l.length ∧ s13 = .int .i64 k ∧ Hid (∃ vs : List Value, GrpI w wr s5 vs (mnP (q1, q2, q3, q4) l k)) ∧ Hid (HoldsB wr b 51 (sgA (bef l k)))) (fun _ _ _ _ s13 _ => l.length - (intOf s13).toNat)
  case atStart => exact ⟨0, by omega, rfl, Lib.hid ⟨[], hG0.out⟩, hL0⟩
  case round =>
    rename World => wr
    clear hL0 hG0
    obtain ⟨k, hk, rfl, hG, hL⟩ := hrel
    obtain ⟨vs, hG⟩ := hG.out
    have GV := Lib.hid hG
    clear hG
    obtain ⟨q5, c5, hv⟩ := GV.out.own.val
    subst hv
    by_cases hlt : k < l.length
    · have hlt' : (k : Int) < l.length := by omega
      have hk0 : (0 : Int) ≤ k := by omega
      have hs := sg_some hlt
      obtain ⟨bb, off, rfl, _, hsg⟩ := (HP.out.later GV.out.own.bel).sg hs
      have SK := Lib.hid hsg
      have HN := Lib.hid (show bef l (k + 1) = nxt (l.getD k zS) from rfl)
      have HD := Lib.hid (fun h3 => mnP_dot (q := (q1, q2, q3, q4)) (l := l) (k := k) h3)
      have HX := Lib.hid (fun h3 => mnP_not (q := (q1, q2, q3, q4)) (l := l) (k := k) h3)
      have hll := HLEN.out k
      have MF := Lib.hid (fun pa n ca W hh => pm1_any (q1, q2, q3, q4) (bef l k) pa n ca W bm hh)
      clear hsg hs
      generalize bef l k = cur at *
      generalize hs : l.getD k zS = s at *
      generalize mnP (q1, q2, q3, q4) l k = LL at *
      generalize hX : mns (q1, q2, q3, q4) cur = X at *
      have hbl := hL.out.lt
      have hsz := GV.out.own.bel.size
      have GA := Lib.hid (GV.out.later (w_alloc (w_refl wr) (sgO s)))
      have H8 := Lib.hid (sg_new wr s)
      have HLa := Lib.hid (hL.out.al (sgO s))
      clear hL GV hs
      go_upto_region 6 with (first | (refine wl_load (x := .tmp 16) bb (off + k * 17) s (by kernel_rfl) SK.out ?_) | (refine wl_store wr.heap.size _ s rfl (by kernel_rfl) (by kernel_rfl) rfl ?_) | fail)
      obtain ⟨m8, hm8⟩ : ∃ m8, wr.heap.size = m8 := ⟨_, rfl⟩
      rw [hm8] at H8 hbl hsz ⊢
      generalize World.alloc wr (sgO s) = z1 at *
      clear hm8 SK
      go_wp2_with (first | (refine wl_load (x := .tmp 8) m8 0 s (by kernel_rfl) H8.out.sg ?_) | fail)
      refine (DT.out b cur s _ HLa.out).mono ?_
      rintro e y1 ⟨rfl, hH, hg⟩
      have GB := Lib.hid (show GrpI w y1 (.slice q5 LL.length c5) vs LL from GA.out.kept2 HLa.out (by decide) (by decide) hg hle)
      have H8b := Lib.hid (H8.out.kept hg (fun e => by injection e with e; omega))
      have HLb := Lib.hid hH
      have hz1 := hg.size
      clear hH hg GA H8 HLa DT
      have GC := Lib.hid (GB.out.later (w_alloc (w_refl y1) (sgO cur)))
      have H8c := Lib.hid (H8b.out.al (sgO cur))
      have H9 := Lib.hid (sg_new y1 cur)
      have HLc := Lib.hid (HLb.out.al (sgO cur))
      clear GB H8b HLb
      go_upto_region 7 with (first | (refine wl_store y1.heap.size _ cur rfl (by kernel_rfl) (by kernel_rfl) rfl ?_) | fail)
      obtain ⟨m9, hm9⟩ : ∃ m9, y1.heap.size = m9 := ⟨_, rfl⟩
      rw [hm9] at H9 ⊢
      generalize World.alloc y1 (sgO cur) = z2 at *
      clear hm9 hz1
      have e8 := H8c.out.cell (j := 0) (v := .int .i64 s.kind) rfl
      by_cases h3 : s.kind = 3
      · have h31 : (s.kind == 3) = true := by simp [h3]
        have hE := Lib.hid (HD.out h3)
        have x1 : IntKind.i64.wrap ((k : Int) + 1) = (k : Int) + 1 := IntWalk.i64_in _ (by omega)
        have hkc := Lib.hid (show (k : Int) + 1 = ((k + 1 : Nat) : Int) by omega)
        have FX0 := Lib.hid (show (GrpI w z2 (.slice q5 LL.length c5) vs LL) ∧ Cell4 z2 bm (q1, q2, q3, q4) ∧ HoldsB z2 m9 51 (sgA cur) ∧ HoldsB z2 b 51 (sgA (nxt s)) ∧ SlP z2 17 (some ⟨bb, off, none⟩) l.length cap (flatG l) from ⟨GC.out, KM.out _ GC.out.own.bel, H9.out, HLc.out, HP.out.later GC.out.own.bel⟩)
        clear HX HD GC H8c H9 HLc h3
        go_wp2_with fail
        clear e8
        refine wp_region_held (S := (fun W => SgAt W m9 0 cur)) (by kernel_rfl) ?_
        change wpAnyH _ _ _ _ _ _ _ _ (World.drew _)
        have FX := Lib.hid (show (GrpI w (World.drew z2) (.slice q5 LL.length c5) vs LL) ∧ Cell4 (World.drew z2) bm (q1, q2, q3, q4) ∧ HoldsB (World.drew z2) m9 51 (sgA cur) ∧ HoldsB (World.drew z2) b 51 (sgA (nxt s)) ∧ SlP (World.drew z2) 17 (some ⟨bb, off, none⟩) l.length cap (flatG l) from ⟨FX0.out.1.later (w_refl _).drew, FX0.out.2.1.later (w_refl _).drew, FX0.out.2.2.1.later (w_refl _).drew, FX0.out.2.2.2.1.later (w_refl _).drew, FX0.out.2.2.2.2.later (w_refl _).drew⟩)
        clear FX0
        generalize World.drew z2 = y at *
        refine wpAnyH_take (i := 0) (v := .slice q5 LL.length c5) rfl (by kernel_rfl) (by kernel_rfl) (by kernel_rfl) (fun _ _ _ h => h) (Or.inl ⟨by kernel_rfl, fun _ _ => by go_simp⟩) FX.out.2.2.1.sg ?_
        refine wpAnyH_take (i := 1) (v := .func (.func 44) #[] #[.pointer (some ⟨bm, 0, none⟩)]) rfl (by kernel_rfl) (by kernel_rfl) (by kernel_rfl) (fun _ _ _ h => h) (Or.inl ⟨by kernel_rfl, fun _ _ => by go_simp⟩) FX.out.2.2.1.sg ?_
        refine wpAnyH_take (i := 2) (v := sgv cur) rfl (by kernel_rfl) (by kernel_rfl) (by kernel_rfl) (fun _ _ _ h => h) (sg_yields (.tmp 9) m9 0 cur (by kernel_rfl) rfl (by kernel_rfl) (fun _ h => h)) FX.out.2.2.1.sg ?_
        refine wpAnyH_take (i := 3) (v := .slice (some ⟨bb, off, none⟩) l.length cap) rfl (by kernel_rfl) (by kernel_rfl) (by kernel_rfl) (fun _ _ _ h => h) (Or.inl ⟨by kernel_rfl, fun _ _ => by go_simp⟩) FX.out.2.2.1.sg ?_
        refine wpAnyH_take (i := 4) (v := .int .i64 (k : Int)) rfl (by kernel_rfl) (by kernel_rfl) (by kernel_rfl) (fun _ _ _ h => h) (Or.inl ⟨by kernel_rfl, fun _ _ => by go_simp⟩) FX.out.2.2.1.sg ?_
        refine wpAnyH_take (i := 5) (v := .int .i64 ((k : Int) + 1)) rfl (by kernel_rfl) (by kernel_rfl) (by kernel_rfl) (fun _ _ _ h => h) (Or.inl ⟨by kernel_rfl, fun _ _ => by go_simp⟩) FX.out.2.2.1.sg ?_
        refine wpAnyH_take (i := 6) (v := .slice (dropQ (some ⟨bb, off, none⟩) cap (k + 1)) (l.length - (k + 1)) (cap - (k + 1))) rfl (by kernel_rfl) (by kernel_rfl) (by kernel_rfl) (fun _ _ _ h => h) (sl_yields 24 (.tmp 27) (some (.tmp 29)) none (.slice (some ⟨bb, off, none⟩) l.length cap) (some (.int .i64 ((k : Int) + 1))) none _ (by kernel_rfl) rfl (by kernel_rfl) (by kernel_rfl) rfl (sl_from _ _ _ _ _ _ hkc.out hlt)) FX.out.2.2.1.sg ?_
        refine wpAnyH_ready (rs := [7]) (by kernel_rfl) (by simp) ?_
        refine AllReadyH.cons rfl (fun K hK => ?_) AllReadyH.nil
        rw [if_pos (by kernel_rfl)]
        go_simp
        go_at_call 44
        refine ((MF.out _ _ _ _ FX.out.2.1)).mono ?_
        rintro e y3 ⟨u, rfl, ho⟩
        obtain ⟨pu, cu, rfl⟩ := ho.val
        have HU := Lib.hid (show OwnL w y3 3 1 (.slice pu X.length cu) X.length (ints X) from ⟨w_below FX.out.1.own.bel ho.bel, own_base ho.row FX.out.1.own.bel.size⟩)
        replace FX := Lib.hid (show (GrpI w y3 (.slice q5 LL.length c5) vs LL) ∧ Cell4 y3 bm (q1, q2, q3, q4) ∧ HoldsB y3 m9 51 (sgA cur) ∧ HoldsB y3 b 51 (sgA (nxt s)) ∧ SlP y3 17 (some ⟨bb, off, none⟩) l.length cap (flatG l) from ⟨FX.out.1.later ho.bel, FX.out.2.1.later ho.bel, FX.out.2.2.1.later ho.bel, FX.out.2.2.2.1.later ho.bel, FX.out.2.2.2.2.later ho.bel⟩)
        clear ho MF
        go_simp
        refine hK.out _ _ FX.out.2.2.1.sg (fun _ => ?_)
        clear hK K
        refine wpAnyH_ready (rs := [8]) (by kernel_rfl) (by simp) ?_
        refine AllReadyH.cons rfl (fun K hK => ?_) AllReadyH.nil
        rw [if_pos (by kernel_rfl)]
        go_simp
        have hLt := lit_new y3 #[.slice pu X.length cu] 32
        have hFx := (show ((GrpI w (World.alloc y3 (.cells #[.slice pu X.length cu] 32)) (.slice q5 LL.length c5) vs LL) ∧ Cell4 (World.alloc y3 (.cells #[.slice pu X.length cu] 32)) bm (q1, q2, q3, q4) ∧ HoldsB (World.alloc y3 (.cells #[.slice pu X.length cu] 32)) m9 51 (sgA cur) ∧ HoldsB (World.alloc y3 (.cells #[.slice pu X.length cu] 32)) b 51 (sgA (nxt s)) ∧ SlP (World.alloc y3 (.cells #[.slice pu X.length cu] 32)) 17 (some ⟨bb, off, none⟩) l.length cap (flatG l)) ∧ OwnL w (World.alloc y3 (.cells #[.slice pu X.length cu] 32)) 3 1 (.slice pu X.length cu) X.length (ints X) from ⟨⟨FX.out.1.later (w_alloc (w_refl y3) (.cells #[.slice pu X.length cu] 32)), FX.out.2.1.later (w_alloc (w_refl y3) (.cells #[.slice pu X.length cu] 32)), FX.out.2.2.1.later (w_alloc (w_refl y3) (.cells #[.slice pu X.length cu] 32)), FX.out.2.2.2.1.later (w_alloc (w_refl y3) (.cells #[.slice pu X.length cu] 32)), FX.out.2.2.2.2.later (w_alloc (w_refl y3) (.cells #[.slice pu X.length cu] 32))⟩, HU.out.later (w_alloc (w_refl y3) (.cells #[.slice pu X.length cu] 32))⟩)
        have LT := Lib.hid hLt
        replace FX := Lib.hid hFx
        clear hLt hFx
        refine hK.out _ (World.alloc y3 (.cells #[.slice pu X.length cu] 32)) FX.out.1.2.2.1.sg (fun _ => ?_)
        clear hK K
        generalize hy : World.alloc y3 (.cells #[.slice pu X.length cu] 32) = y4 at *
        clear hy
        refine wpAnyH_ready (rs := [9]) (by kernel_rfl) (by simp) ?_
        refine AllReadyH.cons rfl (fun K hK => ?_) AllReadyH.nil
        refine step_append_lies _ rfl (.tmp 24) (.tmp 32) 27 rfl w.heap.size 32 i0 (.slice none 0 0) 1 24 Try.underlying27 hi0 hz0 hz1 hz2 rfl (by decide) (.slice q5 LL.length c5) LL.length vs (by kernel_rfl) FX.out.1.1.own.row ⟨y3.heap.size, 0, none⟩ 1 1 [.slice pu X.length cu] (by kernel_rfl) rfl LT.out (fun u hu => by (obtain rfl := List.mem_singleton.1 hu; rfl)) (by decide) (by unfold maxLen; omega) (by omega) FX.out.1.1.own.bel.size _ rfl ?_
        intro g9 c9 y5 hown hgrow hat hgl
        have hFx := (show GrpI w y5 (.slice (some ⟨g9, 0, none⟩) (LL.length + 1) c9) (vs ++ [.slice pu X.length cu]) (LL ++ [X]) from FX.out.1.1.app (w_refl y4) FX.out.2.row hown rfl hgrow)
        have hL9 := (show HoldsB y5 b 51 (sgA (nxt s)) from FX.out.1.2.2.2.1.kept hgrow (own_ne FX.out.1.1.own.row FX.out.1.2.2.2.1 (by decide)))
        have hM9 := (show HoldsB y5 m9 51 (sgA cur) from FX.out.1.2.2.1.kept hgrow (own_ne FX.out.1.1.own.row FX.out.1.2.2.1 (by decide)))
        clear hown hgrow hat hgl LT FX HU
        have FX := Lib.hid hM9.sg
        clear hM9
        refine hK.out _ _ FX.out (fun _ => ?_)
        clear hK K
        refine wpAnyH_take (i := 10) (v := .slice (some ⟨g9, 0, none⟩) (LL.length + 1) c9) rfl (by kernel_rfl) (by kernel_rfl) (by kernel_rfl) (fun _ _ _ h => h) (Or.inl ⟨by kernel_rfl, fun _ _ => by go_simp⟩) FX.out ?_
        refine wpAnyH_done (by kernel_rfl) ?_ _
        have hll2 := hFx.own.bel
        have HG2 := Lib.hid hFx
        have HL2 := Lib.hid hL9
        clear hFx hL9 hll2 FX
        go_wp2_with fail
        try simp only [Act.put, List.getElem_toArray, List.getElem_cons_succ, List.getElem_cons_zero, List.setIfInBounds_toArray, List.set_cons_succ, List.set_cons_zero]
        exact ⟨⟨k + 1, by omega, by go_num, Lib.hid ⟨vs ++ [.slice pu X.length cu], by (rw [hE.out]; exact HG2.out)⟩, Lib.hid (by rw [HN.out]; exact HL2.out)⟩, by simp [intOf]; omega⟩
      · have h31 : (s.kind == 3) = false := by simpa using h3
        have hE := Lib.hid (HX.out h3)
        clear HX HD h3 H9
        go_wp2_with fail
        exact ⟨⟨k + 1, by omega, by go_num, Lib.hid ⟨vs, by (rw [hE.out]; exact GC.out)⟩, Lib.hid (by rw [HN.out]; exact HLc.out)⟩, by simp [intOf]; omega⟩
    · obtain rfl : k = l.length := by omega
      have hlt' : ¬ ((l.length : Int) < l.length) := by omega
      have HG2 := Lib.hid GV.out
      clear GV HLEN
      go_wp2_with fail
      go_ret
      exact ⟨_, rfl, vs, HG2.out⟩

end Go.Proofs.Ythokapebcplmkaa

/- The program's collect, at both types. -/
namespace Go.Proofs.Ythokapebcplmkaa
open Go.RowKit

set_option maxRecDepth 100000 in
set_option maxHeartbeats 8000000 in
theorem pcolI_any (q : Q4) (l : List Sg) (hl : l.length ≤ 1000) (bm : Nat) (p : Option Addr) (cap : Nat) (w : World) (h : SlP w 17 p l.length cap (flatG l)) (hm : Cell4 w bm q) :
    Calls Try.prog 47 #[.slice p l.length cap, .func (.func 48) #[] #[.pointer (some ⟨bm, 0, none⟩)]] w fun e w' => ∃ v, e = .returned v ∧ OwnL w w' 3 1 v (ruP q l l.length).length (ints (ruP q l l.length)) := by
  obtain ⟨i0, hi0, hz0, hz1, hz2⟩ := info_parts info_int
  have f1 := h.fit
  have f2 := h.max
  have HP := Lib.hid h
  have KM := Lib.hid (fun W (hb : Below w.heap.size w W) => hm.later hb)
  have DB := Lib.hid (dtb_any w)
  have DT := Lib.hid (fun b cur s W hh => dts_any b cur s W hh)
  have HLEN := Lib.hid (fun k => (show (ruP q l k).length ≤ k by rw [ruP_len]; exact mnP_len q l k))
  clear h hm
  obtain ⟨q1, q2, q3, q4⟩ := q
  go_enter Try.func47, Try.ntmps47
  go_wp2_with fail
  refine DB.out.mono ?_
  rintro e w2 ⟨rfl, hS, hb⟩
  have hL0 := Lib.hid hS
  have hG0 := Lib.hid (show OwnL w w2 3 1 (.slice none 0 0) (ruP (q1, q2, q3, q4) l 0).length (ints (ruP (q1, q2, q3, q4) l 0)) from ⟨hb, World.ownsRow_nil _ _ _ _⟩)
  obtain ⟨b, hbb⟩ : ∃ b, w.heap.size = b := ⟨_, rfl⟩
  have hle : w.heap.size ≤ b := by omega
  rw [hbb] at hL0 ⊢
  clear hS hb DB hbb
  go_wp2_with fail
  go_loopw [5, 7, 8, 9, 13] (fun s5 _ _ _ s13 wr => ∃ k : Nat, k ≤ l.length ∧ s13 = .int .i64 k ∧ Hid (OwnL w wr 3 1 s5 (ruP (q1, q2, q3, q4) l k).length (ints (ruP (q1, q2, q3, q4) l k))) ∧ Hid (HoldsB wr b 51 (sgA (bef l k)))) (fun _ _ _ _ s13 _ => l.length - (intOf s13).toNat)
  case atStart => exact ⟨0, by omega, rfl, hG0, hL0⟩
  case round =>
    rename World => wr
    clear hL0 hG0
    obtain ⟨k, hk, rfl, hG, hL⟩ := hrel
    replace hG := hG.out
    have GV := Lib.hid hG
    clear hG
    obtain ⟨q5, c5, hv⟩ := GV.out.val
    subst hv
    by_cases hlt : k < l.length
    · have hlt' : (k : Int) < l.length := by omega
      have hk0 : (0 : Int) ≤ k := by omega
      have hs := sg_some hlt
      obtain ⟨bb, off, rfl, _, hsg⟩ := (HP.out.later GV.out.bel).sg hs
      have SK := Lib.hid hsg
      have HN := Lib.hid (show bef l (k + 1) = nxt (l.getD k zS) from rfl)
      have HD := Lib.hid (fun h3 => ruP_dot (q := (q1, q2, q3, q4)) (l := l) (k := k) h3)
      have HX := Lib.hid (fun h3 => ruP_not (q := (q1, q2, q3, q4)) (l := l) (k := k) h3)
      have hll := HLEN.out k
      have MF := Lib.hid (fun pa n ca W hn hh hx => pr1_any (q1, q2, q3, q4) (bef l k) (nextV l k) pa n ca W bm hn hh hx)
      clear hsg hs
      generalize bef l k = cur at *
      generalize hs : l.getD k zS = s at *
      generalize ruP (q1, q2, q3, q4) l k = LL at *
      generalize hX : rul (q1, q2, q3, q4) cur (nextV l k) = X at *
      have hbl := hL.out.lt
      have hsz := GV.out.bel.size
      have GA := Lib.hid (GV.out.later (w_alloc (w_refl wr) (sgO s)))
      have H8 := Lib.hid (sg_new wr s)
      have HLa := Lib.hid (hL.out.al (sgO s))
      clear hL GV hs
      go_upto_region 6 with (first | (refine wl_load (x := .tmp 16) bb (off + k * 17) s (by kernel_rfl) SK.out ?_) | (refine wl_store wr.heap.size _ s rfl (by kernel_rfl) (by kernel_rfl) rfl ?_) | fail)
      obtain ⟨m8, hm8⟩ : ∃ m8, wr.heap.size = m8 := ⟨_, rfl⟩
      rw [hm8] at H8 hbl hsz ⊢
      generalize World.alloc wr (sgO s) = z1 at *
      clear hm8 SK
      go_wp2_with (first | (refine wl_load (x := .tmp 8) m8 0 s (by kernel_rfl) H8.out.sg ?_) | fail)
      refine (DT.out b cur s _ HLa.out).mono ?_
      rintro e y1 ⟨rfl, hH, hg⟩
      have GB := Lib.hid (show OwnL w y1 3 1 (.slice q5 LL.length c5) LL.length (ints LL) from GA.out.kept2 HLa.out (by decide) hg hle)
      have H8b := Lib.hid (H8.out.kept hg (fun e => by injection e with e; omega))
      have HLb := Lib.hid hH
      have hz1 := hg.size
      clear hH hg GA H8 HLa DT
      have GC := Lib.hid (GB.out.later (w_alloc (w_refl y1) (sgO cur)))
      have H8c := Lib.hid (H8b.out.al (sgO cur))
      have H9 := Lib.hid (sg_new y1 cur)
      have HLc := Lib.hid (HLb.out.al (sgO cur))
      clear GB H8b HLb
      go_upto_region 7 with (first | (refine wl_store y1.heap.size _ cur rfl (by kernel_rfl) (by kernel_rfl) rfl ?_) | fail)
      obtain ⟨m9, hm9⟩ : ∃ m9, y1.heap.size = m9 := ⟨_, rfl⟩
      rw [hm9] at H9 ⊢
      generalize World.alloc y1 (sgO cur) = z2 at *
      clear hm9 hz1
      have e8 := H8c.out.cell (j := 0) (v := .int .i64 s.kind) rfl
      by_cases h3 : s.kind = 3
      · have h31 : (s.kind == 3) = true := by simp [h3]
        have hE := Lib.hid (HD.out h3)
        have x1 : IntKind.i64.wrap ((k : Int) + 1) = (k : Int) + 1 := IntWalk.i64_in _ (by omega)
        have hkc := Lib.hid (show (k : Int) + 1 = ((k + 1 : Nat) : Int) by omega)
        have FX0 := Lib.hid (show (OwnL w z2 3 1 (.slice q5 LL.length c5) LL.length (ints LL)) ∧ Cell4 z2 bm (q1, q2, q3, q4) ∧ HoldsB z2 m9 51 (sgA cur) ∧ HoldsB z2 b 51 (sgA (nxt s)) ∧ SlP z2 17 (some ⟨bb, off, none⟩) l.length cap (flatG l) from ⟨GC.out, KM.out _ GC.out.bel, H9.out, HLc.out, HP.out.later GC.out.bel⟩)
        clear HX HD GC H8c H9 HLc h3
        go_wp2_with fail
        clear e8
        refine wp_region_held (S := (fun W => SgAt W m9 0 cur)) (by kernel_rfl) ?_
        change wpAnyH _ _ _ _ _ _ _ _ (World.drew _)
        have FX := Lib.hid (show (OwnL w (World.drew z2) 3 1 (.slice q5 LL.length c5) LL.length (ints LL)) ∧ Cell4 (World.drew z2) bm (q1, q2, q3, q4) ∧ HoldsB (World.drew z2) m9 51 (sgA cur) ∧ HoldsB (World.drew z2) b 51 (sgA (nxt s)) ∧ SlP (World.drew z2) 17 (some ⟨bb, off, none⟩) l.length cap (flatG l) from ⟨FX0.out.1.later (w_refl _).drew, FX0.out.2.1.later (w_refl _).drew, FX0.out.2.2.1.later (w_refl _).drew, FX0.out.2.2.2.1.later (w_refl _).drew, FX0.out.2.2.2.2.later (w_refl _).drew⟩)
        clear FX0
        generalize World.drew z2 = y at *
        refine wpAnyH_take (i := 0) (v := .slice q5 LL.length c5) rfl (by kernel_rfl) (by kernel_rfl) (by kernel_rfl) (fun _ _ _ h => h) (Or.inl ⟨by kernel_rfl, fun _ _ => by go_simp⟩) FX.out.2.2.1.sg ?_
        refine wpAnyH_take (i := 1) (v := .func (.func 48) #[] #[.pointer (some ⟨bm, 0, none⟩)]) rfl (by kernel_rfl) (by kernel_rfl) (by kernel_rfl) (fun _ _ _ h => h) (Or.inl ⟨by kernel_rfl, fun _ _ => by go_simp⟩) FX.out.2.2.1.sg ?_
        refine wpAnyH_take (i := 2) (v := sgv cur) rfl (by kernel_rfl) (by kernel_rfl) (by kernel_rfl) (fun _ _ _ h => h) (sg_yields (.tmp 9) m9 0 cur (by kernel_rfl) rfl (by kernel_rfl) (fun _ h => h)) FX.out.2.2.1.sg ?_
        refine wpAnyH_take (i := 3) (v := .slice (some ⟨bb, off, none⟩) l.length cap) rfl (by kernel_rfl) (by kernel_rfl) (by kernel_rfl) (fun _ _ _ h => h) (Or.inl ⟨by kernel_rfl, fun _ _ => by go_simp⟩) FX.out.2.2.1.sg ?_
        refine wpAnyH_take (i := 4) (v := .int .i64 (k : Int)) rfl (by kernel_rfl) (by kernel_rfl) (by kernel_rfl) (fun _ _ _ h => h) (Or.inl ⟨by kernel_rfl, fun _ _ => by go_simp⟩) FX.out.2.2.1.sg ?_
        refine wpAnyH_take (i := 5) (v := .int .i64 ((k : Int) + 1)) rfl (by kernel_rfl) (by kernel_rfl) (by kernel_rfl) (fun _ _ _ h => h) (Or.inl ⟨by kernel_rfl, fun _ _ => by go_simp⟩) FX.out.2.2.1.sg ?_
        refine wpAnyH_take (i := 6) (v := .slice (dropQ (some ⟨bb, off, none⟩) cap (k + 1)) (l.length - (k + 1)) (cap - (k + 1))) rfl (by kernel_rfl) (by kernel_rfl) (by kernel_rfl) (fun _ _ _ h => h) (sl_yields 24 (.tmp 27) (some (.tmp 29)) none (.slice (some ⟨bb, off, none⟩) l.length cap) (some (.int .i64 ((k : Int) + 1))) none _ (by kernel_rfl) rfl (by kernel_rfl) (by kernel_rfl) rfl (sl_from _ _ _ _ _ _ hkc.out hlt)) FX.out.2.2.1.sg ?_
        refine wpAnyH_ready (rs := [7]) (by kernel_rfl) (by simp) ?_
        refine AllReadyH.cons rfl (fun K hK => ?_) AllReadyH.nil
        rw [if_pos (by kernel_rfl)]
        go_simp
        go_at_call 48
        refine ((MF.out _ _ _ _ (by omega) FX.out.2.1 (next_at FX.out.2.2.2.2 hlt))).mono ?_
        rintro e y3 ⟨rfl, hb⟩
        replace FX := Lib.hid (show (OwnL w y3 3 1 (.slice q5 LL.length c5) LL.length (ints LL)) ∧ Cell4 y3 bm (q1, q2, q3, q4) ∧ HoldsB y3 m9 51 (sgA cur) ∧ HoldsB y3 b 51 (sgA (nxt s)) ∧ SlP y3 17 (some ⟨bb, off, none⟩) l.length cap (flatG l) from ⟨FX.out.1.later hb, FX.out.2.1.later hb, FX.out.2.2.1.later hb, FX.out.2.2.2.1.later hb, FX.out.2.2.2.2.later hb⟩)
        clear hb MF
        go_simp
        refine hK.out _ _ FX.out.2.2.1.sg (fun _ => ?_)
        clear hK K
        refine wpAnyH_ready (rs := [8]) (by kernel_rfl) (by simp) ?_
        refine AllReadyH.cons rfl (fun K hK => ?_) AllReadyH.nil
        rw [if_pos (by kernel_rfl)]
        go_simp
        have hLt := lit_new y3 #[.int .i64 X] 3
        have hFx := (show (OwnL w (World.alloc y3 (.cells #[.int .i64 X] 3)) 3 1 (.slice q5 LL.length c5) LL.length (ints LL)) ∧ Cell4 (World.alloc y3 (.cells #[.int .i64 X] 3)) bm (q1, q2, q3, q4) ∧ HoldsB (World.alloc y3 (.cells #[.int .i64 X] 3)) m9 51 (sgA cur) ∧ HoldsB (World.alloc y3 (.cells #[.int .i64 X] 3)) b 51 (sgA (nxt s)) ∧ SlP (World.alloc y3 (.cells #[.int .i64 X] 3)) 17 (some ⟨bb, off, none⟩) l.length cap (flatG l) from ⟨FX.out.1.later (w_alloc (w_refl y3) (.cells #[.int .i64 X] 3)), FX.out.2.1.later (w_alloc (w_refl y3) (.cells #[.int .i64 X] 3)), FX.out.2.2.1.later (w_alloc (w_refl y3) (.cells #[.int .i64 X] 3)), FX.out.2.2.2.1.later (w_alloc (w_refl y3) (.cells #[.int .i64 X] 3)), FX.out.2.2.2.2.later (w_alloc (w_refl y3) (.cells #[.int .i64 X] 3))⟩)
        have LT := Lib.hid hLt
        replace FX := Lib.hid hFx
        clear hLt hFx
        refine hK.out _ (World.alloc y3 (.cells #[.int .i64 X] 3)) FX.out.2.2.1.sg (fun _ => ?_)
        clear hK K
        generalize hy : World.alloc y3 (.cells #[.int .i64 X] 3) = y4 at *
        clear hy
        refine wpAnyH_ready (rs := [9]) (by kernel_rfl) (by simp) ?_
        refine AllReadyH.cons rfl (fun K hK => ?_) AllReadyH.nil
        refine step_append_lies _ rfl (.tmp 24) (.tmp 32) 32 rfl w.heap.size 3 i0 (.int .i64 0) 1 8 Try.underlying32 hi0 hz0 hz1 hz2 rfl (by decide) (.slice q5 LL.length c5) LL.length (ints LL) (by kernel_rfl) FX.out.1.row ⟨y3.heap.size, 0, none⟩ 1 1 (ints [X]) (by kernel_rfl) rfl LT.out (ints_one _) (by decide) (by unfold maxLen; omega) (by omega) FX.out.1.bel.size _ rfl ?_
        intro g9 c9 y5 hown hgrow hat hgl
        have hFx := (show OwnL w y5 3 1 (.slice (some ⟨g9, 0, none⟩) (LL.length + 1) c9) (LL.length + 1) (ints LL ++ ints [X]) from FX.out.1.app (w_refl y4) hown hgrow)
        have hL9 := (show HoldsB y5 b 51 (sgA (nxt s)) from FX.out.2.2.2.1.kept hgrow (own_ne FX.out.1.row FX.out.2.2.2.1 (by decide)))
        have hM9 := (show HoldsB y5 m9 51 (sgA cur) from FX.out.2.2.1.kept hgrow (own_ne FX.out.1.row FX.out.2.2.1 (by decide)))
        clear hown hgrow hat hgl LT FX
        have FX := Lib.hid hM9.sg
        clear hM9
        refine hK.out _ _ FX.out (fun _ => ?_)
        clear hK K
        refine wpAnyH_take (i := 10) (v := .slice (some ⟨g9, 0, none⟩) (LL.length + 1) c9) rfl (by kernel_rfl) (by kernel_rfl) (by kernel_rfl) (fun _ _ _ h => h) (Or.inl ⟨by kernel_rfl, fun _ _ => by go_simp⟩) FX.out ?_
        refine wpAnyH_done (by kernel_rfl) ?_ _
        have hll2 := hFx.bel
        have HG2 := Lib.hid hFx
        have HL2 := Lib.hid hL9
        clear hFx hL9 hll2 FX
        go_wp2_with fail
        try simp only [Act.put, List.getElem_toArray, List.getElem_cons_succ, List.getElem_cons_zero, List.setIfInBounds_toArray, List.set_cons_succ, List.set_cons_zero]
        exact ⟨⟨k + 1, by omega, by go_num, Lib.hid (by (rw [hE.out, List.length_append, show ints (LL ++ [X]) = ints LL ++ ints [X] from List.map_append ..]; exact HG2.out)), Lib.hid (by rw [HN.out]; exact HL2.out)⟩, by simp [intOf]; omega⟩
      · have h31 : (s.kind == 3) = false := by simpa using h3
        have hE := Lib.hid (HX.out h3)
        clear HX HD h3 H9
        go_wp2_with fail
        exact ⟨⟨k + 1, by omega, by go_num, Lib.hid (by (rw [hE.out]; exact GC.out)), Lib.hid (by rw [HN.out]; exact HLc.out)⟩, by simp [intOf]; omega⟩
    · obtain rfl : k = l.length := by omega
      have hlt' : ¬ ((l.length : Int) < l.length) := by omega
      have HG2 := Lib.hid GV.out
      clear GV HLEN
      go_wp2_with fail
      go_ret
      exact ⟨_, rfl, HG2.out⟩

end Go.Proofs.Ythokapebcplmkaa
