/- The text of a part, of the program. -/
import Derived.Test.YtdmedealdhadcaaGreatDoorG21
import Derived.Test.YtdmedealdhadcaaGreatDoorG20
import Derived.Deep.OwnRows

namespace Go.Proofs.YtdmedealdhadcaaGreatDoor
open Go.RowKit Go.Shelf
attribute [local go_sem] Oper.semAt_some
theorem own_block {W : World} {b base : Nat} {t : TypeId} {k n : Nat} {cs : Array Value} (h : HoldsB W b t cs) (hb : base ≤ b) (hz : cs.size = n * k) (hn : n ≤ 1000) : W.ownsRow base t k (.slice (some ⟨b, 0, none⟩) n n) n cs.toList := by
  refine ⟨by simp [hz], .inr ⟨b, n, cs, rfl, hb, h, Nat.le_refl _, by unfold maxLen; omega, hz, ?_⟩⟩
  rw [← hz]
  exact List.take_of_length_le (by simp)
theorem sl_strs {W : World} {b : Nat} {ts : List ByteArray} (h : HoldsB W b 9 (ts.map Value.string).toArray) (hn : ts.length ≤ 1000000) : SlP W 1 (some ⟨b, 0, none⟩) ts.length ts.length (ts.map .string) := by
  have := sl_lit (n := ts.length) h (by simp) hn (by
    intro u hu
    rw [List.mem_map] at hu
    obtain ⟨x, _, rfl⟩ := hu
    rfl)
  exact this
theorem info_str : (Tryz.prog.info? 9).map (fun i => (i.zero, i.size, i.bytes)) = some (some (.string ⟨#[]⟩), 1, 16) := by kernel_rfl
theorem piece_sl {W : World} {b off c k : Nat} {l : List Sg} (h : SlP W 17 (some ⟨b, off, none⟩) l.length c (flatG l)) (hk : 16 * k < l.length) : SlP W 17 (some ⟨b, off + 16 * k * 17, none⟩) (chN l.length k) (chN l.length k) (flatG (pieceS l k)) := by
  have m := h.max
  have f := h.fit
  refine ⟨by rw [flatG_len, piece_len], Nat.le_refl _, by unfold chN; omega, fun e => (by cases e), flatG_one _, fun _ => ?_⟩
  obtain ⟨b', off', e, hb, hc⟩ := h.at_ (by omega)
  cases e
  refine ⟨_, _, rfl, hb, fun j u hj => ?_⟩
  rw [Nat.add_assoc]
  refine hc _ u ?_
  unfold pieceS at hj
  rw [flatG_take, flatG_drop] at hj
  have hlt := (List.getElem?_eq_some_iff.1 hj).1
  rw [List.length_take] at hlt
  rwa [List.getElem?_take, if_pos (by omega), List.getElem?_drop] at hj
def TxPost (nm : ByteArray) (l : List Sg) (w : World) (e : Ending) (w' : World) : Prop := e = .returned (.tuple #[.string (txtV nm l).1, .int .i64 (txtV nm l).2]) ∧ Below w.heap.size w w'
set_option maxRecDepth 100000 in
set_option maxHeartbeats 8000000 in
theorem ptext_any (nm : ByteArray) (hnm : nm.size ≤ maxLen) (q : Option Addr) (c : Nat) (l : List Sg) (w : World) (h : SlP w 17 q l.length c (flatG l)) (T : TabN w) :
    Calls Tryz.prog 16 #[ptv nm q l.length c] w (TxPost nm l w) := by
  unfold TxPost
  refine (callsIn_wide (n := 1)).1 ?_
  have f1 := h.fit
  have f2 := h.max
  have HP := Lib.hid (pt_new w nm q l.length c)
  have B0 := Lib.hid (w_alloc (w_refl w) (ptO nm q l.length c))
  have CK := Lib.hid (callsIn_wide (n := 0) |>.2 (pchk_any nm hnm l q c (w.alloc (ptO nm q l.length c)) (h.later B0.out) (T.s.later B0.out)))
  have hq : 0 < l.length → ∃ b off, q = some ⟨b, off, none⟩ := fun h0 => by obtain ⟨b, off, e, _⟩ := h.at_ h0; exact ⟨b, off, e⟩
  have HL := Lib.hid (fun V (b : Below w.heap.size w V) => h.later b)
  have HT := Lib.hid (fun V (b : Below w.heap.size w V) => T.later b)
  have E1 := Lib.hid (fun (h : (chkV (nameV nm.data.toList) l).1 = 0) => show txtV nm l = (bytes (outT nm l), 0) from if_pos h)
  have E2 := Lib.hid (fun (h : ¬ (chkV (nameV nm.data.toList) l).1 = 0) => show txtV nm l = (emp, (chkV (nameV nm.data.toList) l).1) from if_neg h)
  have CG := Lib.hid (fun h => chk_good (b := nameV nm.data.toList) (l := l) h)
  have TX := Lib.hid (fun a b c => rows_text (nm := nm) (l := l) a b c)
  have p0 := HP.out.cell (j := 0) rfl
  have p1 := HP.out.cell (j := 1) rfl
  clear h T
  generalize txtV nm l = R at *
  generalize chkV (nameV nm.data.toList) l = ck at *
  obtain ⟨ce, cn⟩ := ck
  simp only at CK E1 E2 CG
  refine callsIn_of_wp_marks Tryz.func16 rfl trivial ?_ rfl
  simp only [Tryz.ntmps16, List.size_toArray, List.length_cons, List.length_nil, Nat.reduceAdd, Nat.reduceSub, Array.replicate_succ, Array.replicate_zero, List.push_toArray, List.append_toArray, List.nil_append, List.cons_append]
  by_cases hz : ce = 0
  · subst hz
    obtain ⟨hn, hl, hv, _⟩ := CG.out rfl
    have fin := Lib.hid (E1.out rfl)
    have TE := Lib.hid (TX.out hn hl hv)
    have MD := Lib.hid (rows_modest hn hl hv)
    have HV := Lib.hid hv
    clear E1 E2 CG TX hn hv
    gi_wp2_with fail
    refine ⟨trivial, CK.out.mono ?_⟩
    rintro e w1 ⟨rfl, hb⟩
    replace HP := Lib.hid (HP.out.later hb)
    replace B0 := Lib.hid (w_below B0.out hb)
    clear hb CK p0 p1
    have p0 := HP.out.cell (j := 0) rfl
    have RO := Lib.hid (fun (ts : List ByteArray) (p : Option Addr) (cap : Nat) (hn : ts.length ≤ 1000000) (V : World) (h : SlP V 1 p ts.length cap (ts.map .string)) => callsIn_wide (n := 0) |>.2 (prow_any ts p cap hn V h))
    gi_wp2_with fail
    refine ⟨trivial, (RO.out [partB, nm] (some ⟨w1.heap.size, 0, none⟩) 2 (show 2 ≤ 1000000 by decide) _ (sl_strs (ts := [partB, nm]) (HoldsB.new w1 _ _) (show 2 ≤ 1000000 by decide))).mono ?_⟩
    rintro e w2 ⟨v, rfl, hW⟩
    obtain ⟨q2, c2, rfl⟩ := hW.val
    replace HP := Lib.hid ((HP.out.al (.cells #[.string partB, .string nm] 9)).later hW.bel)
    replace B0 := Lib.hid (w_below (w_alloc B0.out (.cells #[.string partB, .string nm] 9)) hW.bel)
    have HW := Lib.hid hW.words
    clear hW p0
    have p1 := (HP.out.al (.cells #[.int .i64 0, .slice q2 2 c2] 62)).al (.cells #[.slice (some ⟨w2.heap.size, 0, none⟩) 1 1] 57) |>.cell (j := 1) rfl
    have CC := Lib.hid (fun V => callsIn_wide (n := 0) |>.2 (pchunk_any q l.length c V))
    gi_wp2_with fail
    refine ⟨trivial, (CC.out _).mono ?_⟩
    rintro e w3 ⟨rfl, hb, h1, h2⟩
    have b3 := w_below (w_alloc (w_alloc (w_refl w2) (.cells #[.int .i64 0, .slice q2 2 c2] 62)) (.cells #[.slice (some ⟨w2.heap.size, 0, none⟩) 1 1] 57)) hb
    have N0 := ((HoldsB.new w2 62 #[.int .i64 0, .slice q2 2 c2]).al (.cells #[.slice (some ⟨w2.heap.size, 0, none⟩) 1 1] 57)).later hb
    have N6 := (HoldsB.new (w2.alloc (.cells #[.int .i64 0, .slice q2 2 c2] 62)) 57 #[.slice (some ⟨w2.heap.size, 0, none⟩) 1 1]).later hb
    simp only [World.size_alloc] at h1 h2 N6 ⊢
    have I0 := Lib.hid (show TxI w (w2.heap.size + 1 + 1) (w2.heap.size + 1 + 1 + 1) (w2.heap.size + 1) q l.length c (rowsB nm l 0) w3 from ⟨w_below B0.out b3, h1, h2, ⟨some ⟨w2.heap.size, 0, none⟩, 1, N6, [(0, .slice q2 2 c2)], own_block N0 B0.out.size rfl (show 1 ≤ 1000 by decide),
      ⟨rfl, HW.out.later b3, fun h0 e => by
        obtain ⟨b, e1, e2⟩ := HW.out.block h0
        have e3 := e1.symm.trans e
        simp only [Value.ownBlock, Option.some.injEq] at e3
        omega⟩, trivial⟩, by have := B0.out.size; omega⟩)
    have hr0 := Lib.hid B0.out.size
    clear hb h1 h2 N0 N6 b3 HW CC p1 HP B0
    obtain ⟨r0, hr⟩ : ∃ r0, w2.heap.size = r0 := ⟨_, rfl⟩
    rw [hr] at I0 hr0 ⊢
    have hlt3 := Lib.hid (show r0 + 1 + 1 + 1 < w3.heap.size from I0.out.ch2.lt)
    clear hr
    gi_wp2_with fail
    have PW := Lib.hid (fun s V T => pword_any s V T)
    obtain ⟨k0, hk0, hx0, hx1, hx2⟩ := info_parts info_str
    obtain ⟨j0, hj0, hy0, hy1, hy2⟩ := info_parts info_row
    have hlc : chC l.length = (l.length + 15) / 16 := rfl
    refine wpIn_gives (chunk_gives q l.length c (by omega) f1 f2 hq (r0 + 1 + 1) (r0 + 1 + 1 + 1)) rfl (enters_of Tryz.func93 (by kernel_rfl) rfl) rfl
      (fun pre A => TxI w (r0 + 1 + 1) (r0 + 1 + 1 + 1) (r0 + 1) q l.length c (rowsB nm l pre.length) A) (fun _ => False) ?hC ?hI ?hIx ?h0
      (fun x a' _ => a' = { tmps := #[ptv nm q l.length c, .pointer (some ⟨w.heap.size, 0, none⟩), .string ⟨#[]⟩, .int .i64 0, .int .i64 0, .int .i64 (cn : Int), .pointer (some ⟨r0 + 1, 0, none⟩), chV q l.length x, undef, undef, undef, .tuple #[.int .i64 0, .int .i64 (cn : Int)], .agg #[.string nm, .slice q l.length c], .tuple #[.int .i64 0, .int .i64 (cn : Int)], .int .i64 0, .int .i64 (cn : Int), .int .i64 0, .bool false, undef, .pointer (some ⟨w.heap.size, 0, none⟩), .string nm, .slice (some ⟨w1.heap.size, 0, none⟩) 2 2, .agg #[.int .i64 0, .slice q2 2 c2], .slice (some ⟨r0, 0, none⟩) 1 1, .pointer (some ⟨w.heap.size, 1, none⟩), .slice q l.length c, .func (.func 93) #[] #[.pointer (some ⟨r0 + 1 + 1, 0, none⟩), .pointer (some ⟨r0 + 1 + 1 + 1, 0, none⟩)], chV q l.length x, undef, undef, undef, undef, undef, undef, undef, undef, undef, undef, undef, undef, undef, undef, undef, undef, undef, undef, undef, undef, undef, undef, undef, undef, undef, undef, undef, undef, undef, undef, undef, undef], defers := [] })
      ?hAx ?assign ?body ?done ?stop
    case hC => exact fun pre A hi => ⟨hi.ch1.cell rfl, hi.ch2.cell rfl⟩
    case hI => exact txI_from (by have := hr0.out; have := hlt3.out; omega) _ _ _ _ _ _ _
    case hIx => exact fun _ _ _ _ h _ _ => h
    case h0 => exact I0.out
    case hAx => exact fun _ _ _ _ _ _ h _ _ => h
    case assign =>
      rintro m2 l2 pre x A K hle hi hK
      gi_wp2_with fail
      exact hK _ _ (Mid.refl _ _) hi rfl
    case body =>
      rintro m2 l2 pre x post a' A hx hle hi rfl
      obtain ⟨rfl, hk⟩ := range_mid hx
      clear hx
      obtain ⟨k, hkk⟩ : ∃ k, pre.length = k := ⟨_, rfl⟩
      have hlen : (pre ++ [pre.length]).length = k + 1 := by simp [hkk]
      rw [hkk] at hi hk ⊢
      have hlen' : (pre ++ [k]).length = k + 1 := by rw [← hkk] at hlen ⊢; exact hlen
      obtain ⟨b, off, rfl⟩ := hq (by omega)
      obtain ⟨i, hii⟩ : ∃ i, 16 * k = i := ⟨_, rfl⟩
      have HPc := Lib.hid (fun V (bb : Below w.heap.size w V) => piece_sl (k := k) (HL.out V bb) (by omega))
      obtain ⟨d, hd⟩ : ∃ d, chN l.length k = d := ⟨_, rfl⟩
      have hd1 : 0 < d := by rw [← hd]; unfold chN; omega
      have hd2 : d ≤ 16 := by rw [← hd]; unfold chN; omega
      have hcv : chV (some ⟨b, off, none⟩) l.length k = .slice (some ⟨b, off + i * 17, none⟩) d d := by
        unfold chV; rw [hd, hii, Option.map_some, add_none]
      have hpl := piece_len l k
      rw [hd, hii] at HPc
      rw [hd] at hpl
      have hrow := Lib.hid (rowsB_succ nm l k)
      unfold rowP at hrow
      obtain ⟨p, hp⟩ : ∃ p, pieceS l k = p := ⟨_, rfl⟩
      rw [hp] at HPc hpl hrow
      rw [hcv]
      have HI := Lib.hid hi
      replace hpl := Lib.hid hpl
      clear hcv hp hi hlen hkk
      obtain ⟨F, hF⟩ : ∃ F : Nat → ByteArray, (fun i => bytes (wdT (p.getD i zS))) = F := ⟨_, rfl⟩
      replace hF := Lib.hid hF
      have hmk : ∀ W, (Instr.makeSlice 63 (.int .i64 (d : Int)) (.int .i64 (d : Int))).run Tryz.prog W = .ok (.slice (some ⟨W.heap.size, 0, none⟩) d d) (W.alloc (.cells (fillS F d 0) 9)) := fun W => by
        rw [← fillS_zero]
        exact run_make_row 63 9 k0 _ Tryz.underlying63 hk0 hx0 hx1 rfl .i64 .i64 d (by rw [hx2]; omega) (by omega) W
      gi_wp2_with fail
      have HB0 := Lib.hid (HoldsB.new A 9 (fillS F d 0))
      have BB0 := Lib.hid (w_alloc (w_refl A) (.cells (fillS F d 0) 9))
      obtain ⟨mt, hmt⟩ : ∃ mt, A.heap.size = mt := ⟨_, rfl⟩
      rw [hmt] at HB0 ⊢
      clear hmk
      generalize A.alloc (.cells (fillS F d 0) 9) = A1 at *
      have hmA := Lib.hid (show A.heap.size ≤ mt by omega)
      clear hmt
      gi_loopw [33] (fun s33 wr => ∃ j : Nat, j ≤ d ∧ s33 = .int .i64 j ∧ Hid (HoldsB wr mt 9 (fillS F d j)) ∧ Hid (Below A.heap.size A wr)) (fun s33 _ => d - (intOf s33).toNat)
      case atStart => exact ⟨0, Nat.zero_le _, rfl, HB0, BB0⟩
      case round =>
        clear HB0 BB0
        obtain ⟨j, hj, rfl, HB, BB⟩ := hrel
        by_cases hjd : j < d
        · have hjd' : (j : Int) < d := by omega
          have hj0 : (0 : Int) ≤ j := by omega
          obtain ⟨s, hs⟩ : ∃ s, p[j]? = some s := ⟨p[j]'(by rw [hpl.out]; exact hjd), List.getElem?_eq_getElem (by rw [hpl.out]; exact hjd)⟩
          have hgs : p.getD j zS = s := by rw [List.getD, hs]; rfl
          have HPw := HPc.out wr (w_below HI.out.bel BB.out)
          have SG := Lib.hid (show SgAt wr b (off + i * 17 + j * 17) s from by
            have h2 : SlP wr 17 (some ⟨b, off + i * 17, none⟩) p.length d (flatG p) := by rw [hpl.out]; exact HPw
            obtain ⟨b', o', e, _, hsg⟩ := h2.sg hs
            cases e
            exact hsg)
          have HN := Lib.hid (show (fillS F d j).setIfInBounds j (.string (bytes (wdT s))) = fillS F d (j + 1) by
            have := fillS_put F d j
            rw [← hF.out] at this ⊢
            simp only [hgs] at this
            exact this)
          have HCell := Lib.hid (fillS_at F j hjd)
          have W1 := Lib.hid (fun V (bb : Below w.heap.size w V) => PW.out s V (HT.out V bb))
          have SN := Lib.hid (sg_new wr s)
          have HB1 := Lib.hid (HB.out.al (sgO s))
          have BB1 := Lib.hid (w_alloc BB.out (sgO s))
          clear hs hgs HPw HB BB
          generalize (if j < j then _ else _) = z0 at *
          generalize wdT s = tx at *
          gi_wp2_with (first | (refine wpListIn_at 37 rfl (by kernel_rfl) (by rintro ⟨_, _, h⟩; exact h) ?_) | fail)
          go_wp2_with (first | (refine wl_load b (off + i * 17 + j * 17) s (by kernel_rfl) SG.out ?_) | (refine wl_store0 wr.heap.size _ s rfl (by kernel_rfl) (by kernel_rfl) rfl ?_) | fail)
          have SG2 := Lib.hid SN.out.sg
          clear SG SN
          obtain ⟨mb, hmb⟩ : ∃ mb, wr.heap.size = mb := ⟨_, rfl⟩
          rw [hmb] at SG2 ⊢
          generalize wr.alloc (sgO s) = y1 at *
          clear hmb
          gi_wp2_with (first | (refine wpListIn_at 41 rfl (by kernel_rfl) (by rintro ⟨_, _, h⟩; exact h) ?_) | fail)
          go_wp2_with (first | (refine wl_load mb 0 s (by kernel_rfl) SG2.out ?_) | fail)
          refine (W1.out _ (w_below HI.out.bel BB1.out)).mono ?_
          rintro e y2 ⟨rfl, hb⟩
          have HB2 := Lib.hid (HB1.out.later hb)
          have BB2 := Lib.hid (w_below BB1.out hb)
          clear hb W1 SG2 HB1 BB1
          have z1 := HB2.out.cell HCell.out
          have zf := HB2.out.frozen j
          go_wp2_with fail
          have HB3 := Lib.hid (show HoldsB (y2.setCell ⟨mt, j, none⟩ (.string (bytes tx))) mt 9 (fillS F d (j + 1)) by rw [← HN.out]; exact HB2.out.set j _)
          have BB3 := Lib.hid (show Below A.heap.size A (y2.setCell ⟨mt, j, none⟩ (.string (bytes tx))) from w_put BB2.out hmA.out j _)
          clear HB2 BB2 HN HCell z1 zf
          generalize y2.setCell ⟨mt, j, none⟩ (.string (bytes tx)) = y3 at *
          gi_wp2_with fail
          go_roundw
          case rel => exact ⟨j + 1, by omega, by go_num, HB3, BB3⟩
          case measure => simp [intOf]; omega
        · obtain rfl : d = j := by omega
          have hts : (p.map fun s => bytes (wdT s)).length = d := by rw [List.length_map]; exact hpl.out
          have HBf := Lib.hid (show HoldsB wr mt 9 ((p.map fun s => bytes (wdT s)).map Value.string).toArray from by
            have e := fillS_all p
            rw [hpl.out, hF.out] at e
            rw [List.map_map]
            rw [e] at HB
            exact HB.out)
          have RP := Lib.hid (show ∀ V, SlP V 1 (some ⟨mt, 0, none⟩) d d ((p.map fun s => bytes (wdT s)).map .string) → Calls Tryz.prog 46 #[.slice (some ⟨mt, 0, none⟩) d d] V fun e w' => ∃ v, e = .returned (.agg #[.int .i64 0, v]) ∧ WdO V w' v (p.map wrdW) from fun V hV => by
            have h3 := prow_any (p.map fun s => bytes (wdT s)) (some ⟨mt, 0, none⟩) d (by rw [hts]; omega) V (by rw [hts]; exact hV)
            rw [hts, List.map_map] at h3
            exact h3)
          have HSf := Lib.hid (show ∀ V, Below wr.heap.size wr V → SlP V 1 (some ⟨mt, 0, none⟩) d d ((p.map fun s => bytes (wdT s)).map .string) from fun V bb => by
            have h3 := sl_strs (HBf.out.later bb) (by rw [hts]; omega)
            rw [hts] at h3
            exact h3)
          have HIw := HI.out.later BB.out
          obtain ⟨qq, cc, hv6, hri⟩ := HIw.vr
          obtain ⟨vs, ho, ha⟩ := rowsI_parts hri
          have FX := Lib.hid (show TxF w (r0 + 1 + 1) (r0 + 1 + 1 + 1) (r0 + 1) (some ⟨b, off, none⟩) l.length c qq (rowsB nm l k).length cc wr from ⟨HIw.bel, HIw.ch1, HIw.ch2, hv6⟩)
          have HO := Lib.hid (fun V (bb : Below wr.heap.size wr V) => own_keep ho bb (Nat.le_refl _))
          have HA := Lib.hid (fun V (bb : Below wr.heap.size wr V) => ha.later bb)
          have hrl := Lib.hid (rowsB_len nm l k)
          have LB := Lib.hid (show Below wr.heap.size wr wr from w_refl wr)
          clear HIw hv6 hri ho ha HB HPc hts hpl HI
          obtain ⟨WS, hWS⟩ : ∃ WS, p.map wrdW = WS := ⟨_, rfl⟩
          rw [hWS] at RP hrow
          clear hWS hF
          generalize (p.map fun s => bytes (wdT s)).map Value.string = SS at *
          gi_wp2_with fail
          refine wpIn_region_late (fun W => W.cell? ⟨r0 + 1, 0, none⟩ = some (.slice qq (rowsB nm l k).length cc)) [5] (by kernel_rfl) (by kernel_rfl) (by rintro ⟨_, _, h⟩; exact h) ?_
          replace FX := Lib.hid (FX.out.later (w_refl _).drew)
          replace LB := Lib.hid LB.out.drew
          generalize hy : World.drew wr = y at *
          clear hy
          refine wpL_load (i := 0) (v := .slice qq (rowsB nm l k).length cc) rfl (by kernel_rfl) (by kernel_rfl) (by kernel_rfl) (by kernel_rfl) (by kernel_rfl) (fun _ _ _ h => h) (Or.inl ⟨by kernel_rfl, fun W hW => by go_simp⟩) (FX.out.n6.cell rfl) (by kernel_rfl) ?_
          refine wpL_take (i := 1) (v := .slice (some ⟨mt, 0, none⟩) d d) rfl (by kernel_rfl) (by kernel_rfl) (by kernel_rfl) (by kernel_rfl) (fun _ _ _ h => h) (Or.inl ⟨by kernel_rfl, fun _ => by go_simp⟩) (.inl (FX.out.n6.cell rfl)) ?_
          refine wpL_ready (rs := [2]) (by kernel_rfl) (by simp) ?_
          refine AllL.cons rfl (fun K hK => ?_) AllL.nil
          rw [if_pos (by kernel_rfl)]
          go_simp
          go_at_call 46
          refine (RP.out _ (HSf.out _ LB.out)).mono ?_
          rintro e ya ⟨vw, rfl, hW⟩
          obtain ⟨q4, c4, rfl⟩ := hW.val
          replace FX := Lib.hid (FX.out.later hW.bel)
          replace LB := Lib.hid (w_below LB.out hW.bel)
          have HW := Lib.hid hW
          clear hW RP HSf HBf
          go_simp
          refine hK.out _ _ (.inl (FX.out.n6.cell rfl)) ?_
          clear hK K
          refine wpL_ready (rs := [3]) (by kernel_rfl) (by simp) ?_
          refine AllL.cons rfl (fun K hK => ?_) AllL.nil
          rw [if_pos (by kernel_rfl)]
          go_simp
          have LT := Lib.hid (HoldsB.new ya 62 #[.int .i64 0, .slice q4 WS.length c4])
          replace FX := Lib.hid (FX.out.later (w_alloc (w_refl ya) (.cells #[.int .i64 0, .slice q4 WS.length c4] 62)))
          replace LB := Lib.hid (w_alloc LB.out (.cells #[.int .i64 0, .slice q4 WS.length c4] 62))
          replace HW := Lib.hid (HW.out.later (w_alloc (w_refl ya) (.cells #[.int .i64 0, .slice q4 WS.length c4] 62)))
          obtain ⟨mr, hmr⟩ : ∃ mr, ya.heap.size = mr := ⟨_, rfl⟩
          rw [hmr] at LT ⊢
          clear hmr
          generalize World.alloc ya (.cells #[.int .i64 0, .slice q4 WS.length c4] 62) = yb at *
          refine hK.out _ _ (.inl (FX.out.n6.cell rfl)) ?_
          clear hK K
          refine wpL_ready (rs := [4]) (by kernel_rfl) (by simp) ?_
          refine AllL.cons rfl (fun K hK => ?_) AllL.nil
          refine step_append_lies _ rfl (.tmp 47) (.tmp 50) 57 rfl w.heap.size 62 j0 (.agg #[.int .i64 0, .slice none 0 0]) 2 32 Tryz.underlying57 hj0 hy0 hy1 hy2 rfl (by decide) (.slice qq (rowsB nm l k).length cc) (rowsB nm l k).length (flatR vs) (by kernel_rfl) (HO.out _ LB.out) ⟨mr, 0, none⟩ 1 1 (flatR [(0, .slice q4 WS.length c4)]) (by kernel_rfl) rfl (World.news_of_block LT.out) (flatR_one1 _ _ _ _) (by decide) (by unfold maxLen; have := hrl.out; omega) (by have := hrl.out; omega) FX.out.bel.size _ rfl ?_
          intro g3 c3 y3 hown hgrow hat hlt
          obtain ⟨hTI, hN6, _, _⟩ := FX.out.push (HO.out _ LB.out) (HA.out _ LB.out) HW.out (by have := hr0.out; omega) (by omega) (by omega) hown hgrow (hat.elim (fun e => .inl e.symm) (fun e => .inr (congrArg some e)))
          have HM := Lib.hid (Mid.row w3.heap.size hgrow (own_rowR (HO.out _ LB.out)))
          have HMB := Lib.hid (show Mid w3.heap.size A yb from Mid.bel _ (w_below BB.out LB.out))
          have TI := Lib.hid hTI
          have NN := Lib.hid hN6
          clear hTI hN6 hown hgrow hat hlt FX HO HA HW LT LB
          refine hK.out _ _ (.inl (NN.out.cell rfl)) ?_
          clear hK K
          refine wpL_ready (rs := [5]) (by kernel_rfl) (by simp) ?_
          refine AllL.cons rfl (fun K hK => ?_) AllL.nil
          have e0 := NN.out.cell (j := 0) rfl
          have e1 := NN.out.frozen 0
          rw [if_pos (by kernel_rfl)]
          go_simp
          clear e0 e1 NN
          have HM2 := Lib.hid (show Mid w3.heap.size A (y3.setCell ⟨r0 + 1, 0, none⟩ (.slice (some ⟨g3, 0, none⟩) ((rowsB nm l k).length + 1) c3)) from (HMB.out.trans HM.out).trans (Mid.set _ _ (by have := hlt3.out; omega) _ _))
          generalize World.setCell y3 ⟨r0 + 1, 0, none⟩ _ = z3 at *
          refine hK.out _ _ (.inr (by kernel_rfl)) ?_
          clear hK K
          refine wpL_done (by kernel_rfl) ?_ _
          gi_wp2_with fail
          show Mid _ _ _ ∧ _
          dsimp only
          rw [hlen', hrow.out]
          exact ⟨HM2.out, TI.out⟩
    case done =>
      rintro D A hD hi hd
      rw [List.length_range] at hi
      obtain ⟨qq, cc, hv6, hri⟩ := hi.vr
      obtain ⟨vs, ho, ha⟩ := rowsI_parts hri
      have FX := Lib.hid (show TxF w (r0 + 1 + 1) (r0 + 1 + 1 + 1) (r0 + 1) q l.length c qq (rowsB nm l (chC l.length)).length cc A from ⟨hi.bel, hi.ch1, hi.ch2, hv6⟩)
      have HO := Lib.hid (fun V (bb : Below A.heap.size A V) => own_keep ho bb (Nat.le_refl _))
      have HA := Lib.hid (fun V (bb : Below A.heap.size A V) => ha.later bb)
      have hrl := Lib.hid (rowsB_len nm l (chC l.length))
      have HD := Lib.hid hd
      have RP := Lib.hid (show ∀ V b, HoldsB V b 9 #[.string endB] → Calls Tryz.prog 46 #[.slice (some ⟨b, 0, none⟩) 1 1] V fun e w' => ∃ v, e = .returned (.agg #[.int .i64 0, v]) ∧ WdO V w' v [mkW endB] from fun V b hV => prow_any [endB] (some ⟨b, 0, none⟩) 1 (by decide) V (sl_strs (ts := [endB]) hV (by decide)))
      have XT := Lib.hid (fun v V (hv : RowsV V v (rowsT nm l)) => wtext_any v (rowsT nm l) V hv MD.out)
      unfold TextPost at XT
      rw [TE.out] at XT
      have LB := Lib.hid (show Below A.heap.size A A from w_refl A)
      clear hv6 hri ho ha hi hd I0 RO HL HT PW TE MD
      gi_wp2_with fail
      refine wpIn_onlyN ?_
      refine wp_region_held (S := fun W => W.cell? ⟨r0 + 1, 0, none⟩ = some (.slice qq (rowsB nm l (chC l.length)).length cc)) (by kernel_rfl) ?_
      change wpAnyH _ _ _ _ _ _ _ _ (World.drew _)
      replace FX := Lib.hid (FX.out.later (w_refl _).drew)
      replace LB := Lib.hid LB.out.drew
      generalize hy : World.drew A = y at *
      clear hy
      refine wpAnyH_take (i := 0) (v := .slice qq (rowsB nm l (chC l.length)).length cc) rfl (by kernel_rfl) (by kernel_rfl) (by kernel_rfl) (fun _ _ _ h => h) (Or.inl ⟨by kernel_rfl, fun W hW => by go_simp⟩) (FX.out.n6.cell rfl) ?_
      refine wpAnyH_ready (rs := [1]) (by kernel_rfl) (by simp) ?_
      refine AllReadyH.cons rfl (fun K hK => ?_) AllReadyH.nil
      rw [if_pos (by kernel_rfl)]
      go_simp
      have LE := Lib.hid (HoldsB.new y 9 #[.string endB])
      replace FX := Lib.hid (FX.out.later (w_alloc (w_refl y) (.cells #[.string endB] 9)))
      replace LB := Lib.hid (w_alloc LB.out (.cells #[.string endB] 9))
      obtain ⟨me, hme⟩ : ∃ me, y.heap.size = me := ⟨_, rfl⟩
      rw [hme] at LE ⊢
      clear hme
      generalize World.alloc y (.cells #[.string endB] 9) = y1 at *
      refine hK.out _ _ (FX.out.n6.cell rfl) (fun _ => ?_)
      clear hK K
      refine wpAnyH_ready (rs := [2]) (by kernel_rfl) (by simp) ?_
      refine AllReadyH.cons rfl (fun K hK => ?_) AllReadyH.nil
      rw [if_pos (by kernel_rfl)]
      go_simp
      go_at_call 46
      refine (RP.out _ _ LE.out).mono ?_
      rintro e ya ⟨vw, rfl, hW⟩
      obtain ⟨q4, c4, rfl⟩ := hW.val
      replace FX := Lib.hid (FX.out.later hW.bel)
      replace LB := Lib.hid (w_below LB.out hW.bel)
      have HW := Lib.hid hW
      clear hW RP LE
      go_simp
      refine hK.out _ _ (FX.out.n6.cell rfl) (fun _ => ?_)
      clear hK K
      refine wpAnyH_ready (rs := [3]) (by kernel_rfl) (by simp) ?_
      refine AllReadyH.cons rfl (fun K hK => ?_) AllReadyH.nil
      rw [if_pos (by kernel_rfl)]
      go_simp
      have LT := Lib.hid (HoldsB.new ya 62 #[.int .i64 0, .slice q4 1 c4])
      replace FX := Lib.hid (FX.out.later (w_alloc (w_refl ya) (.cells #[.int .i64 0, .slice q4 1 c4] 62)))
      replace LB := Lib.hid (w_alloc LB.out (.cells #[.int .i64 0, .slice q4 1 c4] 62))
      replace HW := Lib.hid (HW.out.later (w_alloc (w_refl ya) (.cells #[.int .i64 0, .slice q4 1 c4] 62)))
      obtain ⟨mr, hmr⟩ : ∃ mr, ya.heap.size = mr := ⟨_, rfl⟩
      rw [hmr] at LT ⊢
      clear hmr
      generalize World.alloc ya (.cells #[.int .i64 0, .slice q4 1 c4] 62) = yb at *
      refine hK.out _ _ (FX.out.n6.cell rfl) (fun _ => ?_)
      clear hK K
      refine wpAnyH_ready (rs := [4]) (by kernel_rfl) (by simp) ?_
      refine AllReadyH.cons rfl (fun K hK => ?_) AllReadyH.nil
      refine step_append_lies _ rfl (.tmp 52) (.tmp 55) 57 rfl w.heap.size 62 j0 (.agg #[.int .i64 0, .slice none 0 0]) 2 32 Tryz.underlying57 hj0 hy0 hy1 hy2 rfl (by decide) (.slice qq (rowsB nm l (chC l.length)).length cc) (rowsB nm l (chC l.length)).length (flatR vs) (by kernel_rfl) (HO.out _ LB.out) ⟨mr, 0, none⟩ 1 1 (flatR [(0, .slice q4 1 c4)]) (by kernel_rfl) rfl (World.news_of_block LT.out) (flatR_one1 _ _ _ _) (by decide) (by unfold maxLen; have := hrl.out; omega) (by have := hrl.out; omega) FX.out.bel.size _ rfl ?_
      intro g3 c3 y3 hown hgrow hat hlt
      obtain ⟨_, hN6, hRI, hB3⟩ := FX.out.push (HO.out _ LB.out) (HA.out _ LB.out) HW.out (by have := hr0.out; omega) (by omega) (by omega) hown hgrow (hat.elim (fun e => .inl e.symm) (fun e => .inr (congrArg some e)))
      have HM := Lib.hid (show Mid w3.heap.size A y3 from (Mid.bel _ LB.out).trans (Mid.row w3.heap.size hgrow (own_rowR (HO.out _ LB.out))))
      have NN := Lib.hid hN6
      have B3 := Lib.hid hB3
      have RV := Lib.hid (show RowsV y3 (.slice (some ⟨g3, 0, none⟩) ((rowsB nm l (chC l.length)).length + 1) c3) (rowsT nm l) from hRI.val)
      clear hN6 hRI hB3 hown hgrow hat hlt FX HO HA HW LT LB
      refine hK.out _ _ (NN.out.cell rfl) (fun _ => ?_)
      clear hK K
      refine wpAnyH_ready (rs := [5]) (by kernel_rfl) (by simp) ?_
      refine AllReadyH.cons rfl (fun K hK => ?_) AllReadyH.nil
      rw [if_pos (by kernel_rfl)]
      go_simp
      go_at_call 48
      refine (XT.out _ _ RV.out).mono ?_
      rintro e y4 ⟨rfl, hb⟩
      replace NN := Lib.hid (NN.out.later hb)
      replace B3 := Lib.hid (w_below B3.out hb)
      replace HM := Lib.hid (HM.out.trans (Mid.bel _ hb))
      clear hb XT RV
      go_simp
      refine hK.out _ _ (NN.out.cell rfl) (fun _ => ?_)
      clear hK K
      refine wpAnyH_take (i := 6) (v := .string ⟨(outT nm l).toArray⟩) rfl (by kernel_rfl) (by kernel_rfl) (by kernel_rfl) (fun _ _ _ h => h) (Or.inl ⟨by kernel_rfl, fun W hW => by go_simp⟩) (NN.out.cell rfl) ?_
      refine wpAnyH_take (i := 7) (v := .int .i64 0) rfl (by kernel_rfl) (by kernel_rfl) (by kernel_rfl) (fun _ _ _ h => h) (Or.inl ⟨by kernel_rfl, fun W hW => by go_simp⟩) (NN.out.cell rfl) ?_
      refine wpAnyH_take (i := 8) (v := .string ⟨(outT nm l).toArray⟩) rfl (by kernel_rfl) (by kernel_rfl) (by kernel_rfl) (fun _ _ _ h => h) (Or.inl ⟨by kernel_rfl, fun W hW => by go_simp⟩) (NN.out.cell rfl) ?_
      refine wpAnyH_take (i := 9) (v := .int .i64 0) rfl (by kernel_rfl) (by kernel_rfl) (by kernel_rfl) (fun _ _ _ h => h) (Or.inl ⟨by kernel_rfl, fun W hW => by go_simp⟩) (NN.out.cell rfl) ?_
      refine wpAnyH_done (by kernel_rfl) ?_ _
      have hdd := Lib.hid (HM.out.at_ hD HD.out rfl)
      clear NN HM HD
      gi_wp2_with fail
      simp only [Act.put, List.getElem_toArray, List.getElem_cons_succ, List.getElem_cons_zero, List.setIfInBounds_toArray, List.set_cons_succ, List.set_cons_zero]
      refine ⟨by simp, .inl ⟨_, _, rfl, run_takeDeferred hdd.out, ?_⟩⟩
      refine ⟨.tuple #[.string ⟨(outT nm l).toArray⟩, .int .i64 0], (by simp [results, Tryz.results16, go_sem]), (by rw [fin.out]; rfl), ?_⟩
      exact B3.out.trans (belowK_b (w := w) (Nat.le_refl _) y4 D _ _ (by have := hr0.out; have := hlt3.out; omega) hdd.out rfl rfl)
    case stop => exact fun D A hD hx hd => hx.elim
  · have hne : (ce != 0) = true := by simpa using hz
    have fin := Lib.hid (E2.out hz)
    clear E1 E2 CG TX HL HT hq
    gi_wp2_with fail
    refine ⟨trivial, CK.out.mono ?_⟩
    rintro e w1 ⟨rfl, hb⟩
    replace B0 := Lib.hid (w_below B0.out hb)
    clear hb CK p0 p1 HP
    gi_wp2_with fail
    refine ⟨.tuple #[.string ⟨#[]⟩, .int .i64 ce], (by simp [results, Tryz.results16, go_sem]), ?_, B0.out⟩
    rw [fin.out]
end Go.Proofs.YtdmedealdhadcaaGreatDoor
