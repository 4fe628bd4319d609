/- Signs and parts are read back: the walk. -/
import Derived.Test.YtdmedealdhadcaaGreatDoorG21
import Derived.Test.YtdmedealdhadcaaGreatDoorG29

namespace Go.Proofs.YtdmedealdhadcaaGreatDoor
open Go.RowKit
theorem pww_any (s : Sg) (h : oneE s = 0) (w : World) (T : TabN w) : Calls Tryz.prog 11 #[sgv s] w fun e w' => e = .returned (.tuple #[.string (bytes (wordT s)), .int .i64 0]) ∧ Below w.heap.size w w' := by
  have := pword_any s w T
  rwa [wd_ok h, h] at this
theorem psw_any (s : Sg) (h : oneE s = 0) (w : World) (T : TabN w) : Calls Tryz.prog 13 #[.string (bytes (wordT s))] w fun e w' => e = .returned (.tuple #[sgv s, .int .i64 0]) ∧ Below w.heap.size w w' := by
  have := psign_any (wordT s) (by have := (word_plain h).2.2; omega) w T.s
  unfold SgPost at this
  rwa [sgnV_word h] at this
theorem psx_any (X : ByteArray) (hX : X.size ≤ 300) (w : World) (T : TabN w) : Calls Tryz.prog 13 #[.string X] w fun e w' => e = .returned (.tuple #[sgv (signV X.data.toList).1, .int .i64 (signV X.data.toList).2]) ∧ Below w.heap.size w w' := by
  have e : X.data.toList.length = X.size := by rw [← ByteArray.size_data]; simp
  have := psign_any X.data.toList (by omega) w T.s
  unfold SgPost at this
  have e2 : bytes X.data.toList = X := by apply bytes_list; rw [bytes_data]
  rwa [e2] at this
theorem outT_len {nm : ByteArray} {l : List Sg} (hc : (chkV (nameV nm.data.toList) l).1 = 0) : (outT nm l).length ≤ 20000 := by
  obtain ⟨hn, hl, hv, _⟩ := chk_good hc
  have h1 := sgT_len l 0 hv
  have h2 := (name_ok hn).2.1
  unfold outT
  simp only [List.length_append, List.length_cons, List.length_nil]
  omega
theorem ptg_any (nm : ByteArray) (l : List Sg) (hc : (chkV (nameV nm.data.toList) l).1 = 0) (q : Option Addr) (c : Nat) (w : World) (h : SlP w 17 q l.length c (flatG l)) (T : TabN w) :
    Calls Tryz.prog 16 #[ptv nm q l.length c] w fun e w' => e = .returned (.tuple #[.string (bytes (outT nm l)), .int .i64 0]) ∧ Below w.heap.size w w' := by
  have hn := (name_ok (chk_good hc).1).2.1
  have e : nm.data.toList.length = nm.size := by rw [← ByteArray.size_data]; simp
  have := ptext_any nm (by unfold maxLen; omega) q c l w h T
  unfold TxPost at this
  rwa [(prs_text hc).1] at this
theorem ppg_any (nm : ByteArray) (l : List Sg) (hc : (chkV (nameV nm.data.toList) l).1 = 0) (w : World) (T : TabN w) :
    Calls Tryz.prog 19 #[.string (bytes (outT nm l))] w fun e w' => ∃ p cap, e = .returned (.tuple #[ptv nm p l.length cap, .agg #[.int .i64 0, .int .i64 0]]) ∧ SlP w' 17 p l.length cap (flatG l) ∧ Below w.heap.size w w' := by
  have := pparse_any (bytes (outT nm l)) (by rw [bytes_size]; have := outT_len hc; omega) w T.s
  unfold PrP at this
  rwa [(prs_text hc).2] at this
theorem samePart_any (nm : ByteArray) (l : List Sg) (p q : Option Addr) (cp cq : Nat) (w : World) (hp : SlP w 17 p l.length cp (flatG l)) (hq : SlP w 17 q l.length cq (flatG l)) :
    Calls Tryz.prog 18 #[ptv nm p l.length cp, ptv nm q l.length cq] w fun e w' => e = .returned (.bool true) ∧ Below w.heap.size w w' := by
  have := rsam_any nm nm p q cp cq l l w hp hq
  rwa [samP_refl] at this
theorem bytes_eq {X : ByteArray} {l : List UInt8} (h : l = X.data.toList) : bytes l = X := by subst h; exact bytes_list (by rw [bytes_data])
theorem far_small {w : World} {b : Nat} {t : TypeId} {cs : Array Value} (h : HoldsB w b t cs) (hc : cs.size ≤ 4) {o : Nat} {s : Sg} (hs : SgAt w b o s) : False := by
  have := hs.e4
  simp [World.cell?, show w.heap[b]? = _ from h] at this
  obtain ⟨h1, _⟩ := Array.getElem?_eq_some_iff.1 this
  omega
theorem sl_stay {w W : World} {q : Option Addr} {c : Nat} {l : List Sg} (h : SlP w 17 q l.length c (flatG l)) {b : Nat} {t : TypeId} {cs : Array Value} (hP : HoldsB w b t cs) (hc : cs.size ≤ 4) (ho : ∀ c, c ≠ b → W.heap[c]? = w.heap[c]?) : SlP W 17 q l.length c (flatG l) :=
  ⟨h.len, h.fit, h.max, h.nil, h.one, fun h0 => by
    obtain ⟨b', off, e1, hb, hu⟩ := h.at_ h0
    have hne : b' ≠ b := fun e => by
      subst e1 e
      exact far_small hP hc (sg_atS h rfl (i := 0) h0)
    have e2 := ho b' hne
    rw [Array.getElem?_eq_getElem hb] at e2
    exact ⟨b', off, e1, (Array.getElem?_eq_some_iff.1 e2).1, fun j u hj => (World.cell?_of_block (w := w) (w' := W) (a := ⟨b', off + j, none⟩) (ho b' hne)).trans (hu j u hj)⟩⟩
theorem prt_ok : nameV prtB.data.toList = true := by decide +kernel
set_option maxRecDepth 100000 in
set_option maxHeartbeats 16000000 in
theorem lback_any (s : Sg) (p : Option Addr) (cap : Nat) (zs : List Int) (hzs : ∀ z ∈ zs, -9223372036854775808 ≤ z ∧ z ≤ 9223372036854775807) (X Y : ByteArray) (w : World) (hp : SlP w 1 p zs.length cap (ints zs)) (T : TabN w) :
    Calls Tryz.prog 8 #[sgv s, .slice p zs.length cap, .string X, .string Y] w fun e w' => e = .returned (.bool true) ∧ Below w.heap.size w w' := by
  have f1 := hp.fit
  have f2 := hp.max
  have HS := Lib.hid (sg_new w s)
  have B := Lib.hid (w_alloc (w_refl w) (sgO s))
  have HT := Lib.hid (fun V (b : Below w.heap.size w V) => T.later b)
  have HN := Lib.hid (fun V (b : Below w.heap.size w V) => hp.later b)
  have KN := Lib.hid (lknown_any (w.alloc (sgO s)) (T.later (w_alloc (w_refl w) (sgO s))))
  have HZ := Lib.hid hzs
  clear T hp hzs
  go_enter Tryz.func8, Tryz.ntmps8
  go_upto_region 1 with (first | (with_reducible refine wl_box s (by kernel_rfl) ?_) | fail)
  obtain ⟨b4, hb4⟩ : ∃ b4, w.heap.size = b4 := ⟨_, rfl⟩
  have hb4' := Lib.hid hb4
  try rw [hb4] at HS
  try rw [hb4]
  generalize w.alloc (sgO s) = y at *
  clear hb4
  go_wp2_with fail
  refine KN.out.mono ?_
  rintro e w1 ⟨rfl, hb⟩
  replace HS := Lib.hid (HS.out.later hb)
  replace B := Lib.hid (w_below B.out hb)
  clear hb KN
  go_wp2_with (first | (with_reducible refine wl_load b4 0 s (by kernel_rfl) HS.out.sg ?_) | fail)
  by_cases h0 : oneE s = 0
  · refine (pww_any s h0 _ (HT.out _ B.out)).mono ?_
    rintro e w2 ⟨rfl, hb⟩
    replace HS := Lib.hid (HS.out.later hb)
    replace B := Lib.hid (w_below B.out hb)
    clear hb
    have PS := Lib.hid (psw_any s h0)
    have hne : ¬ (bytes (wordT s)).toList = [] := by rw [Lib.toList_data, bytes_data]; exact (word_plain h0).2.1
    have hie : (bytes (wordT s)).toList.isEmpty = false := by simpa using hne
    have heq := fun W => sg_neq s s W
    have hgrd := fun x y W => sg_guard BinOp.neq x y s s W
    simp only [sgE_refl, Bool.not_true] at heq
    generalize bytes (wordT s) = tx at *
    clear h0
    go_wp2_with fail
    refine (PS.out _ (HT.out _ B.out)).mono ?_
    rintro e w3 ⟨rfl, hb⟩
    replace HS := Lib.hid ((HS.out.later hb).al (sgO s))
    replace B := Lib.hid (w_alloc (w_below B.out hb) (sgO s))
    have H7 := Lib.hid (sg_new w3 s)
    clear hb PS
    go_upto_region 7 with (first | (with_reducible refine wl_store0 w3.heap.size _ s rfl (by kernel_rfl) (by kernel_rfl) rfl ?_) | (with_reducible refine wl_loadG (x := .tmp 12) w3.heap.size 0 s (by kernel_rfl) (by kernel_rfl) H7.out.sg ?_) | (with_reducible refine wl_loadG (x := .tmp 4) b4 0 s (by kernel_rfl) (by kernel_rfl) HS.out.sg ?_) | fail)
    clear heq hgrd hne hie H7
    generalize w3.alloc (sgO s) = y3 at *
    by_cases hX : X.size ≤ 300
    · have hX1 : ¬ ((300 : Int) < X.size) := by omega
      by_cases hY : Y.size ≤ 1500
      · have hY1 : ¬ ((1500 : Int) < Y.size) := by omega
        have PX := Lib.hid (psx_any X hX)
        obtain ⟨t, ht⟩ : ∃ t, signV X.data.toList = t := ⟨_, rfl⟩
        rw [ht] at PX
        obtain ⟨t, f⟩ := t
        simp only at PX
        go_wp2_with fail
        refine (PX.out _ (HT.out _ B.out)).mono ?_
        rintro e w4 ⟨rfl, hb⟩
        replace B := Lib.hid (w_alloc (w_below B.out hb) (sgO t))
        clear hb PX
        by_cases hf : f = 0
        · subst hf
          obtain ⟨ho, hw⟩ := word_sign ht
          have PW := Lib.hid (pww_any t ho)
          rw [bytes_eq hw] at PW
          have H8 := Lib.hid (sg_new w4 t)
          have hse : (X.toList == X.toList) = true := by simp
          clear ht ho hw
          go_wp2_with (first | (with_reducible refine wl_store0 w4.heap.size _ t rfl (by kernel_rfl) (by kernel_rfl) rfl ?_) | (with_reducible refine wl_load w4.heap.size 0 t (by kernel_rfl) H8.out.sg ?_) | fail)
          refine (PW.out _ (HT.out _ B.out)).mono ?_
          rintro e w41 ⟨rfl, hb⟩
          replace B := Lib.hid (w_below B.out hb)
          clear hb PW H8
          go_upto_region 14 with (fail)
          go_wp2_with fail
          refine (kmens_any zs.length (by omega) _).mono ?_
          rintro e w5 ⟨⟨q, hq, rfl⟩, hb⟩
          replace B := Lib.hid (w_below B.out hb)
          clear hb
          go_wp2_with fail
          refine (kline_any q hq p cap zs HZ.out _ (HN.out _ B.out)).mono ?_
          rintro e w6 ⟨qa, ca, l, rfl, hsl, hb, hl, hpl⟩
          have hc : (chkV (nameV prtB.data.toList) l).1 = 0 := by rw [prt_ok, pl_chk hpl (by omega)]
          have PT := Lib.hid (ptg_any prtB l hc)
          have PP := Lib.hid (ppg_any prtB l hc)
          have SM := Lib.hid (samePart_any prtB l)
          have hle6 := Lib.hid (show w.heap.size ≤ w6.heap.size from (w_below B.out hb).size)
          have P16 := Lib.hid (pt_new w6 prtB qa l.length ca)
          have SL := Lib.hid (hsl.later (w_alloc (w_refl w6) (ptO prtB qa l.length ca)))
          replace B := Lib.hid (w_alloc (w_below B.out hb) (ptO prtB qa l.length ca))
          have k0 := P16.out.cell (j := 0) rfl
          have k1 := P16.out.cell (j := 1) rfl
          clear hb hsl hpl hc hq HN HZ
          generalize bytes (outT prtB l) = tx2 at *
          go_wp2_with fail
          refine (PT.out qa ca _ SL.out (HT.out _ B.out)).mono ?_
          rintro e w7 ⟨rfl, hb⟩
          replace P16 := Lib.hid (P16.out.later hb)
          replace SL := Lib.hid (SL.out.later hb)
          replace B := Lib.hid (w_below B.out hb)
          clear hb PT k0 k1
          obtain ⟨m16, hm16⟩ : ∃ m16, w6.heap.size = m16 := ⟨_, rfl⟩
          have M16 := Lib.hid (show m16 < w7.heap.size by rw [← hm16]; exact P16.out.lt)
          have L16 := Lib.hid (show w.heap.size ≤ m16 by rw [← hm16]; exact hle6.out)
          rw [hm16] at P16
          go_wp2_with fail
          try rw [hm16]
          clear hm16 hle6
          refine (PP.out _ (HT.out _ B.out)).mono ?_
          rintro e w8 ⟨pb, cb, rfl, hs2, hb⟩
          have b9 := w_alloc (w_alloc hb (ptO prtB pb l.length cb)) (.cells #[.int .i64 0, .int .i64 0] 43)
          have P19 := Lib.hid ((pt_new w8 prtB pb l.length cb).al (.cells #[.int .i64 0, .int .i64 0] 43))
          have F20 := Lib.hid (HoldsB.new (w8.alloc (ptO prtB pb l.length cb)) 43 #[.int .i64 0, .int .i64 0])
          have S19 := Lib.hid (hs2.later (w_alloc (w_alloc (w_refl w8) (ptO prtB pb l.length cb)) (.cells #[.int .i64 0, .int .i64 0] 43)))
          rw [World.size_alloc] at F20
          replace P16 := Lib.hid (P16.out.later b9)
          replace SL := Lib.hid (SL.out.later b9)
          replace B := Lib.hid (w_below B.out b9)
          have M19 := Lib.hid (Nat.lt_of_lt_of_le M16.out hb.size)
          clear hb hs2 PP b9
          go_upto_region 17 with (fail)
          obtain ⟨m19, hm19⟩ : ∃ m19, w8.heap.size = m19 := ⟨_, rfl⟩
          try rw [hm19] at P19
          try rw [hm19] at F20
          try rw [hm19] at M19
          try rw [hm19]
          change Code.wp _ _ _ _ ((w8.alloc (ptO prtB pb l.length cb)).alloc (.cells #[.int .i64 0, .int .i64 0] 43))
          generalize (w8.alloc (ptO prtB pb l.length cb)).alloc (.cells #[.int .i64 0, .int .i64 0] 43) = y8 at *
          clear hm19
          have k0 := P16.out.cell (j := 0) rfl
          have k1 := P16.out.cell (j := 1) rfl
          have j0 := P19.out.cell (j := 0) rfl
          have j1 := P19.out.cell (j := 1) rfl
          have e0 := F20.out.cell (j := 0) rfl
          go_wp2_with fail
          refine (SM.out qa pb ca cb _ SL.out S19.out).mono ?_
          rintro e w9 ⟨rfl, hb⟩
          replace P16 := Lib.hid (P16.out.later hb)
          replace P19 := Lib.hid (P19.out.later hb)
          replace F20 := Lib.hid (F20.out.later hb)
          replace B := Lib.hid (w_below B.out hb)
          clear hb SM SL S19 k0 k1 j0 j1 e0
          obtain ⟨⟨⟨nm, l2⟩, er, at9⟩, hR⟩ : ∃ R, prsV Y = R := ⟨_, rfl⟩
          have PY := Lib.hid (fun V => pparse_any Y (by omega) V)
          unfold PrP at PY
          rw [hR] at PY
          simp only [ftV] at PY
          go_wp2_with fail
          refine (PY.out _ (HT.out _ B.out).s).mono ?_
          rintro e w10 ⟨pc, cc, rfl, hs3, hb⟩
          replace P16 := Lib.hid (P16.out.later hb)
          replace P19 := Lib.hid (P19.out.later hb)
          replace F20 := Lib.hid (F20.out.later hb)
          replace B := Lib.hid (w_below B.out hb)
          clear hb PY
          go_wp2_with (first | (with_reducible refine wl_row 37 m16 _ _ #[.string nm, .slice pc l2.length cc] P16.out (by kernel_rfl) (by kernel_rfl) (by kernel_rfl) rfl (by kernel_rfl) ?_) | fail)
          intro W5 h5 hB5 ho5
          have S3 := Lib.hid (sl_stay hs3 P16.out (show 2 ≤ 4 by decide) ho5)
          replace B := Lib.hid (hB5 _ _ B.out L16.out)
          replace F20 := Lib.hid (F20.out.over (ho5 (m19 + 1) (by have := M19.out; omega)))
          replace P19 := Lib.hid (P19.out.over (ho5 m19 (by have := M19.out; omega)))
          replace P16 := Lib.hid h5
          clear h5 hB5 ho5 hs3
          go_wp2_with (first | (with_reducible refine wl_row 43 (m19 + 1) _ _ #[.int .i64 er, .int .i64 at9] F20.out (by kernel_rfl) (by kernel_rfl) (by kernel_rfl) rfl (by kernel_rfl) ?_) | fail)
          intro W6 h6 hB6 ho6
          replace S3 := Lib.hid (sl_stay S3.out F20.out (show 2 ≤ 4 by decide) ho6)
          replace B := Lib.hid (hB6 _ _ B.out (by have := M19.out; have := L16.out; omega))
          replace P19 := Lib.hid (P19.out.over (ho6 m19 (by omega)))
          replace P16 := Lib.hid (P16.out.over (ho6 m16 (by have := M19.out; omega)))
          replace F20 := Lib.hid h6
          clear h6 hB6 ho6
          have e0 := F20.out.cell (j := 0) rfl
          by_cases h9 : er = 0
          · subst h9
            have hc2 := prs_good hR
            have PT := Lib.hid (ptg_any nm l2 hc2)
            have PP := Lib.hid (ppg_any nm l2 hc2)
            have SM := Lib.hid (samePart_any nm l2)
            clear hR hc2
            generalize bytes (outT nm l2) = tx3 at *
            have k0 := P16.out.cell (j := 0) rfl
            have k1 := P16.out.cell (j := 1) rfl
            go_wp2_with fail
            refine (PT.out pc cc _ S3.out (HT.out _ B.out)).mono ?_
            rintro e w11 ⟨rfl, hb⟩
            replace P16 := Lib.hid (P16.out.later hb)
            replace P19 := Lib.hid (P19.out.later hb)
            replace F20 := Lib.hid (F20.out.later hb)
            replace S3 := Lib.hid (S3.out.later hb)
            replace B := Lib.hid (w_below B.out hb)
            clear hb PT k0 k1 e0
            go_wp2_with fail
            refine (PP.out _ (HT.out _ B.out)).mono ?_
            rintro e w12 ⟨pd, cd, rfl, hs4, hb⟩
            replace P16 := Lib.hid (P16.out.later hb)
            replace P19 := Lib.hid (P19.out.later hb)
            replace F20 := Lib.hid (F20.out.later hb)
            replace S3 := Lib.hid (S3.out.later hb)
            replace B := Lib.hid (w_below B.out hb)
            clear hb PP
            go_wp2_with (first | (with_reducible refine wl_row 37 m19 _ _ #[.string nm, .slice pd l2.length cd] P19.out (by kernel_rfl) (by kernel_rfl) (by kernel_rfl) rfl (by kernel_rfl) ?_) | fail)
            intro W7 h7 hB7 ho7
            have S4 := Lib.hid (sl_stay hs4 P19.out (show 2 ≤ 4 by decide) ho7)
            replace S3 := Lib.hid (sl_stay S3.out P19.out (show 2 ≤ 4 by decide) ho7)
            replace B := Lib.hid (hB7 _ _ B.out (by have := M19.out; have := L16.out; omega))
            replace F20 := Lib.hid (F20.out.over (ho7 (m19 + 1) (by omega)))
            replace P16 := Lib.hid (P16.out.over (ho7 m16 (by have := M19.out; omega)))
            replace P19 := Lib.hid h7
            clear h7 hB7 ho7 hs4
            go_wp2_with (first | (with_reducible refine wl_row 43 (m19 + 1) _ _ #[.int .i64 0, .int .i64 0] F20.out (by kernel_rfl) (by kernel_rfl) (by kernel_rfl) rfl (by kernel_rfl) ?_) | fail)
            intro W8 h8 hB8 ho8
            replace S3 := Lib.hid (sl_stay S3.out F20.out (show 2 ≤ 4 by decide) ho8)
            replace S4 := Lib.hid (sl_stay S4.out F20.out (show 2 ≤ 4 by decide) ho8)
            replace B := Lib.hid (hB8 _ _ B.out (by have := M19.out; have := L16.out; omega))
            replace P19 := Lib.hid (P19.out.over (ho8 m19 (by omega)))
            replace P16 := Lib.hid (P16.out.over (ho8 m16 (by have := M19.out; omega)))
            replace F20 := Lib.hid h8
            clear h8 hB8 ho8
            have k0 := P16.out.cell (j := 0) rfl
            have k1 := P16.out.cell (j := 1) rfl
            have j0 := P19.out.cell (j := 0) rfl
            have j1 := P19.out.cell (j := 1) rfl
            have e0 := F20.out.cell (j := 0) rfl
            go_wp2_with fail
            refine (SM.out pc pd cc cd _ S3.out S4.out).mono ?_
            rintro e w13 ⟨rfl, hb⟩
            replace B := Lib.hid (w_below B.out hb)
            clear hb SM S3 S4 k0 k1 j0 j1 e0
            go_wp2_with fail
            go_ret
            exact ⟨rfl, B.out⟩
          · have h9b : (er == 0) = false := by simpa using h9
            go_wp2_with fail
            go_ret
            exact ⟨rfl, B.out⟩
        · have hfb : (f == 0) = false := by simpa using hf
          clear ht
          go_upto_region 14 with (first | (with_reducible refine wl_store0 w4.heap.size _ t rfl (by kernel_rfl) (by kernel_rfl) rfl ?_) | fail)
          generalize w4.alloc (sgO t) = w41 at *
          go_wp2_with fail
          refine (kmens_any zs.length (by omega) _).mono ?_
          rintro e w5 ⟨⟨q, hq, rfl⟩, hb⟩
          replace B := Lib.hid (w_below B.out hb)
          clear hb
          go_wp2_with fail
          refine (kline_any q hq p cap zs HZ.out _ (HN.out _ B.out)).mono ?_
          rintro e w6 ⟨qa, ca, l, rfl, hsl, hb, hl, hpl⟩
          have hc : (chkV (nameV prtB.data.toList) l).1 = 0 := by rw [prt_ok, pl_chk hpl (by omega)]
          have PT := Lib.hid (ptg_any prtB l hc)
          have PP := Lib.hid (ppg_any prtB l hc)
          have SM := Lib.hid (samePart_any prtB l)
          have hle6 := Lib.hid (show w.heap.size ≤ w6.heap.size from (w_below B.out hb).size)
          have P16 := Lib.hid (pt_new w6 prtB qa l.length ca)
          have SL := Lib.hid (hsl.later (w_alloc (w_refl w6) (ptO prtB qa l.length ca)))
          replace B := Lib.hid (w_alloc (w_below B.out hb) (ptO prtB qa l.length ca))
          have k0 := P16.out.cell (j := 0) rfl
          have k1 := P16.out.cell (j := 1) rfl
          clear hb hsl hpl hc hq HN HZ
          generalize bytes (outT prtB l) = tx2 at *
          go_wp2_with fail
          refine (PT.out qa ca _ SL.out (HT.out _ B.out)).mono ?_
          rintro e w7 ⟨rfl, hb⟩
          replace P16 := Lib.hid (P16.out.later hb)
          replace SL := Lib.hid (SL.out.later hb)
          replace B := Lib.hid (w_below B.out hb)
          clear hb PT k0 k1
          obtain ⟨m16, hm16⟩ : ∃ m16, w6.heap.size = m16 := ⟨_, rfl⟩
          have M16 := Lib.hid (show m16 < w7.heap.size by rw [← hm16]; exact P16.out.lt)
          have L16 := Lib.hid (show w.heap.size ≤ m16 by rw [← hm16]; exact hle6.out)
          rw [hm16] at P16
          go_wp2_with fail
          try rw [hm16]
          clear hm16 hle6
          refine (PP.out _ (HT.out _ B.out)).mono ?_
          rintro e w8 ⟨pb, cb, rfl, hs2, hb⟩
          have b9 := w_alloc (w_alloc hb (ptO prtB pb l.length cb)) (.cells #[.int .i64 0, .int .i64 0] 43)
          have P19 := Lib.hid ((pt_new w8 prtB pb l.length cb).al (.cells #[.int .i64 0, .int .i64 0] 43))
          have F20 := Lib.hid (HoldsB.new (w8.alloc (ptO prtB pb l.length cb)) 43 #[.int .i64 0, .int .i64 0])
          have S19 := Lib.hid (hs2.later (w_alloc (w_alloc (w_refl w8) (ptO prtB pb l.length cb)) (.cells #[.int .i64 0, .int .i64 0] 43)))
          rw [World.size_alloc] at F20
          replace P16 := Lib.hid (P16.out.later b9)
          replace SL := Lib.hid (SL.out.later b9)
          replace B := Lib.hid (w_below B.out b9)
          have M19 := Lib.hid (Nat.lt_of_lt_of_le M16.out hb.size)
          clear hb hs2 PP b9
          go_upto_region 17 with (fail)
          obtain ⟨m19, hm19⟩ : ∃ m19, w8.heap.size = m19 := ⟨_, rfl⟩
          try rw [hm19] at P19
          try rw [hm19] at F20
          try rw [hm19] at M19
          try rw [hm19]
          change Code.wp _ _ _ _ ((w8.alloc (ptO prtB pb l.length cb)).alloc (.cells #[.int .i64 0, .int .i64 0] 43))
          generalize (w8.alloc (ptO prtB pb l.length cb)).alloc (.cells #[.int .i64 0, .int .i64 0] 43) = y8 at *
          clear hm19
          have k0 := P16.out.cell (j := 0) rfl
          have k1 := P16.out.cell (j := 1) rfl
          have j0 := P19.out.cell (j := 0) rfl
          have j1 := P19.out.cell (j := 1) rfl
          have e0 := F20.out.cell (j := 0) rfl
          go_wp2_with fail
          refine (SM.out qa pb ca cb _ SL.out S19.out).mono ?_
          rintro e w9 ⟨rfl, hb⟩
          replace P16 := Lib.hid (P16.out.later hb)
          replace P19 := Lib.hid (P19.out.later hb)
          replace F20 := Lib.hid (F20.out.later hb)
          replace B := Lib.hid (w_below B.out hb)
          clear hb SM SL S19 k0 k1 j0 j1 e0
          obtain ⟨⟨⟨nm, l2⟩, er, at9⟩, hR⟩ : ∃ R, prsV Y = R := ⟨_, rfl⟩
          have PY := Lib.hid (fun V => pparse_any Y (by omega) V)
          unfold PrP at PY
          rw [hR] at PY
          simp only [ftV] at PY
          go_wp2_with fail
          refine (PY.out _ (HT.out _ B.out).s).mono ?_
          rintro e w10 ⟨pc, cc, rfl, hs3, hb⟩
          replace P16 := Lib.hid (P16.out.later hb)
          replace P19 := Lib.hid (P19.out.later hb)
          replace F20 := Lib.hid (F20.out.later hb)
          replace B := Lib.hid (w_below B.out hb)
          clear hb PY
          go_wp2_with (first | (with_reducible refine wl_row 37 m16 _ _ #[.string nm, .slice pc l2.length cc] P16.out (by kernel_rfl) (by kernel_rfl) (by kernel_rfl) rfl (by kernel_rfl) ?_) | fail)
          intro W5 h5 hB5 ho5
          have S3 := Lib.hid (sl_stay hs3 P16.out (show 2 ≤ 4 by decide) ho5)
          replace B := Lib.hid (hB5 _ _ B.out L16.out)
          replace F20 := Lib.hid (F20.out.over (ho5 (m19 + 1) (by have := M19.out; omega)))
          replace P19 := Lib.hid (P19.out.over (ho5 m19 (by have := M19.out; omega)))
          replace P16 := Lib.hid h5
          clear h5 hB5 ho5 hs3
          go_wp2_with (first | (with_reducible refine wl_row 43 (m19 + 1) _ _ #[.int .i64 er, .int .i64 at9] F20.out (by kernel_rfl) (by kernel_rfl) (by kernel_rfl) rfl (by kernel_rfl) ?_) | fail)
          intro W6 h6 hB6 ho6
          replace S3 := Lib.hid (sl_stay S3.out F20.out (show 2 ≤ 4 by decide) ho6)
          replace B := Lib.hid (hB6 _ _ B.out (by have := M19.out; have := L16.out; omega))
          replace P19 := Lib.hid (P19.out.over (ho6 m19 (by omega)))
          replace P16 := Lib.hid (P16.out.over (ho6 m16 (by have := M19.out; omega)))
          replace F20 := Lib.hid h6
          clear h6 hB6 ho6
          have e0 := F20.out.cell (j := 0) rfl
          by_cases h9 : er = 0
          · subst h9
            have hc2 := prs_good hR
            have PT := Lib.hid (ptg_any nm l2 hc2)
            have PP := Lib.hid (ppg_any nm l2 hc2)
            have SM := Lib.hid (samePart_any nm l2)
            clear hR hc2
            generalize bytes (outT nm l2) = tx3 at *
            have k0 := P16.out.cell (j := 0) rfl
            have k1 := P16.out.cell (j := 1) rfl
            go_wp2_with fail
            refine (PT.out pc cc _ S3.out (HT.out _ B.out)).mono ?_
            rintro e w11 ⟨rfl, hb⟩
            replace P16 := Lib.hid (P16.out.later hb)
            replace P19 := Lib.hid (P19.out.later hb)
            replace F20 := Lib.hid (F20.out.later hb)
            replace S3 := Lib.hid (S3.out.later hb)
            replace B := Lib.hid (w_below B.out hb)
            clear hb PT k0 k1 e0
            go_wp2_with fail
            refine (PP.out _ (HT.out _ B.out)).mono ?_
            rintro e w12 ⟨pd, cd, rfl, hs4, hb⟩
            replace P16 := Lib.hid (P16.out.later hb)
            replace P19 := Lib.hid (P19.out.later hb)
            replace F20 := Lib.hid (F20.out.later hb)
            replace S3 := Lib.hid (S3.out.later hb)
            replace B := Lib.hid (w_below B.out hb)
            clear hb PP
            go_wp2_with (first | (with_reducible refine wl_row 37 m19 _ _ #[.string nm, .slice pd l2.length cd] P19.out (by kernel_rfl) (by kernel_rfl) (by kernel_rfl) rfl (by kernel_rfl) ?_) | fail)
            intro W7 h7 hB7 ho7
            have S4 := Lib.hid (sl_stay hs4 P19.out (show 2 ≤ 4 by decide) ho7)
            replace S3 := Lib.hid (sl_stay S3.out P19.out (show 2 ≤ 4 by decide) ho7)
            replace B := Lib.hid (hB7 _ _ B.out (by have := M19.out; have := L16.out; omega))
            replace F20 := Lib.hid (F20.out.over (ho7 (m19 + 1) (by omega)))
            replace P16 := Lib.hid (P16.out.over (ho7 m16 (by have := M19.out; omega)))
            replace P19 := Lib.hid h7
            clear h7 hB7 ho7 hs4
            go_wp2_with (first | (with_reducible refine wl_row 43 (m19 + 1) _ _ #[.int .i64 0, .int .i64 0] F20.out (by kernel_rfl) (by kernel_rfl) (by kernel_rfl) rfl (by kernel_rfl) ?_) | fail)
            intro W8 h8 hB8 ho8
            replace S3 := Lib.hid (sl_stay S3.out F20.out (show 2 ≤ 4 by decide) ho8)
            replace S4 := Lib.hid (sl_stay S4.out F20.out (show 2 ≤ 4 by decide) ho8)
            replace B := Lib.hid (hB8 _ _ B.out (by have := M19.out; have := L16.out; omega))
            replace P19 := Lib.hid (P19.out.over (ho8 m19 (by omega)))
            replace P16 := Lib.hid (P16.out.over (ho8 m16 (by have := M19.out; omega)))
            replace F20 := Lib.hid h8
            clear h8 hB8 ho8
            have k0 := P16.out.cell (j := 0) rfl
            have k1 := P16.out.cell (j := 1) rfl
            have j0 := P19.out.cell (j := 0) rfl
            have j1 := P19.out.cell (j := 1) rfl
            have e0 := F20.out.cell (j := 0) rfl
            go_wp2_with fail
            refine (SM.out pc pd cc cd _ S3.out S4.out).mono ?_
            rintro e w13 ⟨rfl, hb⟩
            replace B := Lib.hid (w_below B.out hb)
            clear hb SM S3 S4 k0 k1 j0 j1 e0
            go_wp2_with fail
            go_ret
            exact ⟨rfl, B.out⟩
          · have h9b : (er == 0) = false := by simpa using h9
            go_wp2_with fail
            go_ret
            exact ⟨rfl, B.out⟩
      · have hY1 : (1500 : Int) < Y.size := by omega
        go_wp2_with fail
        go_ret
        exact ⟨rfl, B.out⟩
    · have hX1 : (300 : Int) < X.size := by omega
      go_wp2_with fail
      go_ret
      exact ⟨rfl, B.out⟩
  · refine (pword_any s _ (HT.out _ B.out)).mono ?_
    rintro e w2 ⟨rfl, hb⟩
    replace HS := Lib.hid (HS.out.later hb)
    replace B := Lib.hid (w_below B.out hb)
    clear hb
    generalize bytes (wdT s) = tx at *
    generalize oneE s = er at *
    have h0b : (er == 0) = false := by simpa using h0
    go_upto_region 7 with (fail)
    by_cases hX : X.size ≤ 300
    · have hX1 : ¬ ((300 : Int) < X.size) := by omega
      by_cases hY : Y.size ≤ 1500
      · have hY1 : ¬ ((1500 : Int) < Y.size) := by omega
        have PX := Lib.hid (psx_any X hX)
        obtain ⟨t, ht⟩ : ∃ t, signV X.data.toList = t := ⟨_, rfl⟩
        rw [ht] at PX
        obtain ⟨t, f⟩ := t
        simp only at PX
        go_wp2_with fail
        refine (PX.out _ (HT.out _ B.out)).mono ?_
        rintro e w4 ⟨rfl, hb⟩
        replace B := Lib.hid (w_alloc (w_below B.out hb) (sgO t))
        clear hb PX
        by_cases hf : f = 0
        · subst hf
          obtain ⟨ho, hw⟩ := word_sign ht
          have PW := Lib.hid (pww_any t ho)
          rw [bytes_eq hw] at PW
          have H8 := Lib.hid (sg_new w4 t)
          have hse : (X.toList == X.toList) = true := by simp
          clear ht ho hw
          go_wp2_with (first | (with_reducible refine wl_store0 w4.heap.size _ t rfl (by kernel_rfl) (by kernel_rfl) rfl ?_) | (with_reducible refine wl_load w4.heap.size 0 t (by kernel_rfl) H8.out.sg ?_) | fail)
          refine (PW.out _ (HT.out _ B.out)).mono ?_
          rintro e w41 ⟨rfl, hb⟩
          replace B := Lib.hid (w_below B.out hb)
          clear hb PW H8
          go_upto_region 14 with (fail)
          go_wp2_with fail
          refine (kmens_any zs.length (by omega) _).mono ?_
          rintro e w5 ⟨⟨q, hq, rfl⟩, hb⟩
          replace B := Lib.hid (w_below B.out hb)
          clear hb
          go_wp2_with fail
          refine (kline_any q hq p cap zs HZ.out _ (HN.out _ B.out)).mono ?_
          rintro e w6 ⟨qa, ca, l, rfl, hsl, hb, hl, hpl⟩
          have hc : (chkV (nameV prtB.data.toList) l).1 = 0 := by rw [prt_ok, pl_chk hpl (by omega)]
          have PT := Lib.hid (ptg_any prtB l hc)
          have PP := Lib.hid (ppg_any prtB l hc)
          have SM := Lib.hid (samePart_any prtB l)
          have hle6 := Lib.hid (show w.heap.size ≤ w6.heap.size from (w_below B.out hb).size)
          have P16 := Lib.hid (pt_new w6 prtB qa l.length ca)
          have SL := Lib.hid (hsl.later (w_alloc (w_refl w6) (ptO prtB qa l.length ca)))
          replace B := Lib.hid (w_alloc (w_below B.out hb) (ptO prtB qa l.length ca))
          have k0 := P16.out.cell (j := 0) rfl
          have k1 := P16.out.cell (j := 1) rfl
          clear hb hsl hpl hc hq HN HZ
          generalize bytes (outT prtB l) = tx2 at *
          go_wp2_with fail
          refine (PT.out qa ca _ SL.out (HT.out _ B.out)).mono ?_
          rintro e w7 ⟨rfl, hb⟩
          replace P16 := Lib.hid (P16.out.later hb)
          replace SL := Lib.hid (SL.out.later hb)
          replace B := Lib.hid (w_below B.out hb)
          clear hb PT k0 k1
          obtain ⟨m16, hm16⟩ : ∃ m16, w6.heap.size = m16 := ⟨_, rfl⟩
          have M16 := Lib.hid (show m16 < w7.heap.size by rw [← hm16]; exact P16.out.lt)
          have L16 := Lib.hid (show w.heap.size ≤ m16 by rw [← hm16]; exact hle6.out)
          rw [hm16] at P16
          go_wp2_with fail
          try rw [hm16]
          clear hm16 hle6
          refine (PP.out _ (HT.out _ B.out)).mono ?_
          rintro e w8 ⟨pb, cb, rfl, hs2, hb⟩
          have b9 := w_alloc (w_alloc hb (ptO prtB pb l.length cb)) (.cells #[.int .i64 0, .int .i64 0] 43)
          have P19 := Lib.hid ((pt_new w8 prtB pb l.length cb).al (.cells #[.int .i64 0, .int .i64 0] 43))
          have F20 := Lib.hid (HoldsB.new (w8.alloc (ptO prtB pb l.length cb)) 43 #[.int .i64 0, .int .i64 0])
          have S19 := Lib.hid (hs2.later (w_alloc (w_alloc (w_refl w8) (ptO prtB pb l.length cb)) (.cells #[.int .i64 0, .int .i64 0] 43)))
          rw [World.size_alloc] at F20
          replace P16 := Lib.hid (P16.out.later b9)
          replace SL := Lib.hid (SL.out.later b9)
          replace B := Lib.hid (w_below B.out b9)
          have M19 := Lib.hid (Nat.lt_of_lt_of_le M16.out hb.size)
          clear hb hs2 PP b9
          go_upto_region 17 with (fail)
          obtain ⟨m19, hm19⟩ : ∃ m19, w8.heap.size = m19 := ⟨_, rfl⟩
          try rw [hm19] at P19
          try rw [hm19] at F20
          try rw [hm19] at M19
          try rw [hm19]
          change Code.wp _ _ _ _ ((w8.alloc (ptO prtB pb l.length cb)).alloc (.cells #[.int .i64 0, .int .i64 0] 43))
          generalize (w8.alloc (ptO prtB pb l.length cb)).alloc (.cells #[.int .i64 0, .int .i64 0] 43) = y8 at *
          clear hm19
          have k0 := P16.out.cell (j := 0) rfl
          have k1 := P16.out.cell (j := 1) rfl
          have j0 := P19.out.cell (j := 0) rfl
          have j1 := P19.out.cell (j := 1) rfl
          have e0 := F20.out.cell (j := 0) rfl
          go_wp2_with fail
          refine (SM.out qa pb ca cb _ SL.out S19.out).mono ?_
          rintro e w9 ⟨rfl, hb⟩
          replace P16 := Lib.hid (P16.out.later hb)
          replace P19 := Lib.hid (P19.out.later hb)
          replace F20 := Lib.hid (F20.out.later hb)
          replace B := Lib.hid (w_below B.out hb)
          clear hb SM SL S19 k0 k1 j0 j1 e0
          obtain ⟨⟨⟨nm, l2⟩, er, at9⟩, hR⟩ : ∃ R, prsV Y = R := ⟨_, rfl⟩
          have PY := Lib.hid (fun V => pparse_any Y (by omega) V)
          unfold PrP at PY
          rw [hR] at PY
          simp only [ftV] at PY
          go_wp2_with fail
          refine (PY.out _ (HT.out _ B.out).s).mono ?_
          rintro e w10 ⟨pc, cc, rfl, hs3, hb⟩
          replace P16 := Lib.hid (P16.out.later hb)
          replace P19 := Lib.hid (P19.out.later hb)
          replace F20 := Lib.hid (F20.out.later hb)
          replace B := Lib.hid (w_below B.out hb)
          clear hb PY
          go_wp2_with (first | (with_reducible refine wl_row 37 m16 _ _ #[.string nm, .slice pc l2.length cc] P16.out (by kernel_rfl) (by kernel_rfl) (by kernel_rfl) rfl (by kernel_rfl) ?_) | fail)
          intro W5 h5 hB5 ho5
          have S3 := Lib.hid (sl_stay hs3 P16.out (show 2 ≤ 4 by decide) ho5)
          replace B := Lib.hid (hB5 _ _ B.out L16.out)
          replace F20 := Lib.hid (F20.out.over (ho5 (m19 + 1) (by have := M19.out; omega)))
          replace P19 := Lib.hid (P19.out.over (ho5 m19 (by have := M19.out; omega)))
          replace P16 := Lib.hid h5
          clear h5 hB5 ho5 hs3
          go_wp2_with (first | (with_reducible refine wl_row 43 (m19 + 1) _ _ #[.int .i64 er, .int .i64 at9] F20.out (by kernel_rfl) (by kernel_rfl) (by kernel_rfl) rfl (by kernel_rfl) ?_) | fail)
          intro W6 h6 hB6 ho6
          replace S3 := Lib.hid (sl_stay S3.out F20.out (show 2 ≤ 4 by decide) ho6)
          replace B := Lib.hid (hB6 _ _ B.out (by have := M19.out; have := L16.out; omega))
          replace P19 := Lib.hid (P19.out.over (ho6 m19 (by omega)))
          replace P16 := Lib.hid (P16.out.over (ho6 m16 (by have := M19.out; omega)))
          replace F20 := Lib.hid h6
          clear h6 hB6 ho6
          have e0 := F20.out.cell (j := 0) rfl
          by_cases h9 : er = 0
          · subst h9
            have hc2 := prs_good hR
            have PT := Lib.hid (ptg_any nm l2 hc2)
            have PP := Lib.hid (ppg_any nm l2 hc2)
            have SM := Lib.hid (samePart_any nm l2)
            clear hR hc2
            generalize bytes (outT nm l2) = tx3 at *
            have k0 := P16.out.cell (j := 0) rfl
            have k1 := P16.out.cell (j := 1) rfl
            go_wp2_with fail
            refine (PT.out pc cc _ S3.out (HT.out _ B.out)).mono ?_
            rintro e w11 ⟨rfl, hb⟩
            replace P16 := Lib.hid (P16.out.later hb)
            replace P19 := Lib.hid (P19.out.later hb)
            replace F20 := Lib.hid (F20.out.later hb)
            replace S3 := Lib.hid (S3.out.later hb)
            replace B := Lib.hid (w_below B.out hb)
            clear hb PT k0 k1 e0
            go_wp2_with fail
            refine (PP.out _ (HT.out _ B.out)).mono ?_
            rintro e w12 ⟨pd, cd, rfl, hs4, hb⟩
            replace P16 := Lib.hid (P16.out.later hb)
            replace P19 := Lib.hid (P19.out.later hb)
            replace F20 := Lib.hid (F20.out.later hb)
            replace S3 := Lib.hid (S3.out.later hb)
            replace B := Lib.hid (w_below B.out hb)
            clear hb PP
            go_wp2_with (first | (with_reducible refine wl_row 37 m19 _ _ #[.string nm, .slice pd l2.length cd] P19.out (by kernel_rfl) (by kernel_rfl) (by kernel_rfl) rfl (by kernel_rfl) ?_) | fail)
            intro W7 h7 hB7 ho7
            have S4 := Lib.hid (sl_stay hs4 P19.out (show 2 ≤ 4 by decide) ho7)
            replace S3 := Lib.hid (sl_stay S3.out P19.out (show 2 ≤ 4 by decide) ho7)
            replace B := Lib.hid (hB7 _ _ B.out (by have := M19.out; have := L16.out; omega))
            replace F20 := Lib.hid (F20.out.over (ho7 (m19 + 1) (by omega)))
            replace P16 := Lib.hid (P16.out.over (ho7 m16 (by have := M19.out; omega)))
            replace P19 := Lib.hid h7
            clear h7 hB7 ho7 hs4
            go_wp2_with (first | (with_reducible refine wl_row 43 (m19 + 1) _ _ #[.int .i64 0, .int .i64 0] F20.out (by kernel_rfl) (by kernel_rfl) (by kernel_rfl) rfl (by kernel_rfl) ?_) | fail)
            intro W8 h8 hB8 ho8
            replace S3 := Lib.hid (sl_stay S3.out F20.out (show 2 ≤ 4 by decide) ho8)
            replace S4 := Lib.hid (sl_stay S4.out F20.out (show 2 ≤ 4 by decide) ho8)
            replace B := Lib.hid (hB8 _ _ B.out (by have := M19.out; have := L16.out; omega))
            replace P19 := Lib.hid (P19.out.over (ho8 m19 (by omega)))
            replace P16 := Lib.hid (P16.out.over (ho8 m16 (by have := M19.out; omega)))
            replace F20 := Lib.hid h8
            clear h8 hB8 ho8
            have k0 := P16.out.cell (j := 0) rfl
            have k1 := P16.out.cell (j := 1) rfl
            have j0 := P19.out.cell (j := 0) rfl
            have j1 := P19.out.cell (j := 1) rfl
            have e0 := F20.out.cell (j := 0) rfl
            go_wp2_with fail
            refine (SM.out pc pd cc cd _ S3.out S4.out).mono ?_
            rintro e w13 ⟨rfl, hb⟩
            replace B := Lib.hid (w_below B.out hb)
            clear hb SM S3 S4 k0 k1 j0 j1 e0
            go_wp2_with fail
            go_ret
            exact ⟨rfl, B.out⟩
          · have h9b : (er == 0) = false := by simpa using h9
            go_wp2_with fail
            go_ret
            exact ⟨rfl, B.out⟩
        · have hfb : (f == 0) = false := by simpa using hf
          clear ht
          go_upto_region 14 with (first | (with_reducible refine wl_store0 w4.heap.size _ t rfl (by kernel_rfl) (by kernel_rfl) rfl ?_) | fail)
          generalize w4.alloc (sgO t) = w41 at *
          go_wp2_with fail
          refine (kmens_any zs.length (by omega) _).mono ?_
          rintro e w5 ⟨⟨q, hq, rfl⟩, hb⟩
          replace B := Lib.hid (w_below B.out hb)
          clear hb
          go_wp2_with fail
          refine (kline_any q hq p cap zs HZ.out _ (HN.out _ B.out)).mono ?_
          rintro e w6 ⟨qa, ca, l, rfl, hsl, hb, hl, hpl⟩
          have hc : (chkV (nameV prtB.data.toList) l).1 = 0 := by rw [prt_ok, pl_chk hpl (by omega)]
          have PT := Lib.hid (ptg_any prtB l hc)
          have PP := Lib.hid (ppg_any prtB l hc)
          have SM := Lib.hid (samePart_any prtB l)
          have hle6 := Lib.hid (show w.heap.size ≤ w6.heap.size from (w_below B.out hb).size)
          have P16 := Lib.hid (pt_new w6 prtB qa l.length ca)
          have SL := Lib.hid (hsl.later (w_alloc (w_refl w6) (ptO prtB qa l.length ca)))
          replace B := Lib.hid (w_alloc (w_below B.out hb) (ptO prtB qa l.length ca))
          have k0 := P16.out.cell (j := 0) rfl
          have k1 := P16.out.cell (j := 1) rfl
          clear hb hsl hpl hc hq HN HZ
          generalize bytes (outT prtB l) = tx2 at *
          go_wp2_with fail
          refine (PT.out qa ca _ SL.out (HT.out _ B.out)).mono ?_
          rintro e w7 ⟨rfl, hb⟩
          replace P16 := Lib.hid (P16.out.later hb)
          replace SL := Lib.hid (SL.out.later hb)
          replace B := Lib.hid (w_below B.out hb)
          clear hb PT k0 k1
          obtain ⟨m16, hm16⟩ : ∃ m16, w6.heap.size = m16 := ⟨_, rfl⟩
          have M16 := Lib.hid (show m16 < w7.heap.size by rw [← hm16]; exact P16.out.lt)
          have L16 := Lib.hid (show w.heap.size ≤ m16 by rw [← hm16]; exact hle6.out)
          rw [hm16] at P16
          go_wp2_with fail
          try rw [hm16]
          clear hm16 hle6
          refine (PP.out _ (HT.out _ B.out)).mono ?_
          rintro e w8 ⟨pb, cb, rfl, hs2, hb⟩
          have b9 := w_alloc (w_alloc hb (ptO prtB pb l.length cb)) (.cells #[.int .i64 0, .int .i64 0] 43)
          have P19 := Lib.hid ((pt_new w8 prtB pb l.length cb).al (.cells #[.int .i64 0, .int .i64 0] 43))
          have F20 := Lib.hid (HoldsB.new (w8.alloc (ptO prtB pb l.length cb)) 43 #[.int .i64 0, .int .i64 0])
          have S19 := Lib.hid (hs2.later (w_alloc (w_alloc (w_refl w8) (ptO prtB pb l.length cb)) (.cells #[.int .i64 0, .int .i64 0] 43)))
          rw [World.size_alloc] at F20
          replace P16 := Lib.hid (P16.out.later b9)
          replace SL := Lib.hid (SL.out.later b9)
          replace B := Lib.hid (w_below B.out b9)
          have M19 := Lib.hid (Nat.lt_of_lt_of_le M16.out hb.size)
          clear hb hs2 PP b9
          go_upto_region 17 with (fail)
          obtain ⟨m19, hm19⟩ : ∃ m19, w8.heap.size = m19 := ⟨_, rfl⟩
          try rw [hm19] at P19
          try rw [hm19] at F20
          try rw [hm19] at M19
          try rw [hm19]
          change Code.wp _ _ _ _ ((w8.alloc (ptO prtB pb l.length cb)).alloc (.cells #[.int .i64 0, .int .i64 0] 43))
          generalize (w8.alloc (ptO prtB pb l.length cb)).alloc (.cells #[.int .i64 0, .int .i64 0] 43) = y8 at *
          clear hm19
          have k0 := P16.out.cell (j := 0) rfl
          have k1 := P16.out.cell (j := 1) rfl
          have j0 := P19.out.cell (j := 0) rfl
          have j1 := P19.out.cell (j := 1) rfl
          have e0 := F20.out.cell (j := 0) rfl
          go_wp2_with fail
          refine (SM.out qa pb ca cb _ SL.out S19.out).mono ?_
          rintro e w9 ⟨rfl, hb⟩
          replace P16 := Lib.hid (P16.out.later hb)
          replace P19 := Lib.hid (P19.out.later hb)
          replace F20 := Lib.hid (F20.out.later hb)
          replace B := Lib.hid (w_below B.out hb)
          clear hb SM SL S19 k0 k1 j0 j1 e0
          obtain ⟨⟨⟨nm, l2⟩, er, at9⟩, hR⟩ : ∃ R, prsV Y = R := ⟨_, rfl⟩
          have PY := Lib.hid (fun V => pparse_any Y (by omega) V)
          unfold PrP at PY
          rw [hR] at PY
          simp only [ftV] at PY
          go_wp2_with fail
          refine (PY.out _ (HT.out _ B.out).s).mono ?_
          rintro e w10 ⟨pc, cc, rfl, hs3, hb⟩
          replace P16 := Lib.hid (P16.out.later hb)
          replace P19 := Lib.hid (P19.out.later hb)
          replace F20 := Lib.hid (F20.out.later hb)
          replace B := Lib.hid (w_below B.out hb)
          clear hb PY
          go_wp2_with (first | (with_reducible refine wl_row 37 m16 _ _ #[.string nm, .slice pc l2.length cc] P16.out (by kernel_rfl) (by kernel_rfl) (by kernel_rfl) rfl (by kernel_rfl) ?_) | fail)
          intro W5 h5 hB5 ho5
          have S3 := Lib.hid (sl_stay hs3 P16.out (show 2 ≤ 4 by decide) ho5)
          replace B := Lib.hid (hB5 _ _ B.out L16.out)
          replace F20 := Lib.hid (F20.out.over (ho5 (m19 + 1) (by have := M19.out; omega)))
          replace P19 := Lib.hid (P19.out.over (ho5 m19 (by have := M19.out; omega)))
          replace P16 := Lib.hid h5
          clear h5 hB5 ho5 hs3
          go_wp2_with (first | (with_reducible refine wl_row 43 (m19 + 1) _ _ #[.int .i64 er, .int .i64 at9] F20.out (by kernel_rfl) (by kernel_rfl) (by kernel_rfl) rfl (by kernel_rfl) ?_) | fail)
          intro W6 h6 hB6 ho6
          replace S3 := Lib.hid (sl_stay S3.out F20.out (show 2 ≤ 4 by decide) ho6)
          replace B := Lib.hid (hB6 _ _ B.out (by have := M19.out; have := L16.out; omega))
          replace P19 := Lib.hid (P19.out.over (ho6 m19 (by omega)))
          replace P16 := Lib.hid (P16.out.over (ho6 m16 (by have := M19.out; omega)))
          replace F20 := Lib.hid h6
          clear h6 hB6 ho6
          have e0 := F20.out.cell (j := 0) rfl
          by_cases h9 : er = 0
          · subst h9
            have hc2 := prs_good hR
            have PT := Lib.hid (ptg_any nm l2 hc2)
            have PP := Lib.hid (ppg_any nm l2 hc2)
            have SM := Lib.hid (samePart_any nm l2)
            clear hR hc2
            generalize bytes (outT nm l2) = tx3 at *
            have k0 := P16.out.cell (j := 0) rfl
            have k1 := P16.out.cell (j := 1) rfl
            go_wp2_with fail
            refine (PT.out pc cc _ S3.out (HT.out _ B.out)).mono ?_
            rintro e w11 ⟨rfl, hb⟩
            replace P16 := Lib.hid (P16.out.later hb)
            replace P19 := Lib.hid (P19.out.later hb)
            replace F20 := Lib.hid (F20.out.later hb)
            replace S3 := Lib.hid (S3.out.later hb)
            replace B := Lib.hid (w_below B.out hb)
            clear hb PT k0 k1 e0
            go_wp2_with fail
            refine (PP.out _ (HT.out _ B.out)).mono ?_
            rintro e w12 ⟨pd, cd, rfl, hs4, hb⟩
            replace P16 := Lib.hid (P16.out.later hb)
            replace P19 := Lib.hid (P19.out.later hb)
            replace F20 := Lib.hid (F20.out.later hb)
            replace S3 := Lib.hid (S3.out.later hb)
            replace B := Lib.hid (w_below B.out hb)
            clear hb PP
            go_wp2_with (first | (with_reducible refine wl_row 37 m19 _ _ #[.string nm, .slice pd l2.length cd] P19.out (by kernel_rfl) (by kernel_rfl) (by kernel_rfl) rfl (by kernel_rfl) ?_) | fail)
            intro W7 h7 hB7 ho7
            have S4 := Lib.hid (sl_stay hs4 P19.out (show 2 ≤ 4 by decide) ho7)
            replace S3 := Lib.hid (sl_stay S3.out P19.out (show 2 ≤ 4 by decide) ho7)
            replace B := Lib.hid (hB7 _ _ B.out (by have := M19.out; have := L16.out; omega))
            replace F20 := Lib.hid (F20.out.over (ho7 (m19 + 1) (by omega)))
            replace P16 := Lib.hid (P16.out.over (ho7 m16 (by have := M19.out; omega)))
            replace P19 := Lib.hid h7
            clear h7 hB7 ho7 hs4
            go_wp2_with (first | (with_reducible refine wl_row 43 (m19 + 1) _ _ #[.int .i64 0, .int .i64 0] F20.out (by kernel_rfl) (by kernel_rfl) (by kernel_rfl) rfl (by kernel_rfl) ?_) | fail)
            intro W8 h8 hB8 ho8
            replace S3 := Lib.hid (sl_stay S3.out F20.out (show 2 ≤ 4 by decide) ho8)
            replace S4 := Lib.hid (sl_stay S4.out F20.out (show 2 ≤ 4 by decide) ho8)
            replace B := Lib.hid (hB8 _ _ B.out (by have := M19.out; have := L16.out; omega))
            replace P19 := Lib.hid (P19.out.over (ho8 m19 (by omega)))
            replace P16 := Lib.hid (P16.out.over (ho8 m16 (by have := M19.out; omega)))
            replace F20 := Lib.hid h8
            clear h8 hB8 ho8
            have k0 := P16.out.cell (j := 0) rfl
            have k1 := P16.out.cell (j := 1) rfl
            have j0 := P19.out.cell (j := 0) rfl
            have j1 := P19.out.cell (j := 1) rfl
            have e0 := F20.out.cell (j := 0) rfl
            go_wp2_with fail
            refine (SM.out pc pd cc cd _ S3.out S4.out).mono ?_
            rintro e w13 ⟨rfl, hb⟩
            replace B := Lib.hid (w_below B.out hb)
            clear hb SM S3 S4 k0 k1 j0 j1 e0
            go_wp2_with fail
            go_ret
            exact ⟨rfl, B.out⟩
          · have h9b : (er == 0) = false := by simpa using h9
            go_wp2_with fail
            go_ret
            exact ⟨rfl, B.out⟩
      · have hY1 : (1500 : Int) < Y.size := by omega
        go_wp2_with fail
        go_ret
        exact ⟨rfl, B.out⟩
    · have hX1 : (300 : Int) < X.size := by omega
      go_wp2_with fail
      go_ret
      exact ⟨rfl, B.out⟩
end Go.Proofs.YtdmedealdhadcaaGreatDoor
