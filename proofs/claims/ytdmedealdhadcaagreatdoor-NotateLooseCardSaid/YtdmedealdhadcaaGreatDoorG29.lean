/- The kit's part made of numbers: its signs are valid, and none belongs to a ligature. -/
import Derived.Test.YtdmedealdhadcaaGreatDoorG28

namespace Go.Proofs.YtdmedealdhadcaaGreatDoor
open Go.RowKit
structure TwS (w0 w : World) (v u : Value) (zs us : List Sg) : Prop where
  a : SgO w0 w v zs
  b : SgO w0 w u us
  sep : ∀ b, v.ownBlock = some b → u.ownBlock ≠ some b
theorem TwS.later {w0 w w1 : World} {v u : Value} {zs us : List Sg} (h : TwS w0 w v u zs us) (b : Below w.heap.size w w1) : TwS w0 w1 v u zs us := ⟨h.a.later b, h.b.later b, h.sep⟩
theorem TwS.app {w0 w w2 : World} {v u : Value} {zs us : List Sg} {z : Sg} {g cap : Nat} (h : TwS w0 w v u zs us)
    (hown : w2.ownsRow w0.heap.size 27 17 (.slice (some ⟨g, 0, none⟩) (zs.length + 1) cap) (zs.length + 1) (flatG zs ++ flatG [z])) (hg : (w.alloc (sgO z)).grownBy w2 v.ownBlock)
    (hat : v.ownBlock = some g ∨ g = (w.alloc (sgO z)).heap.size) : TwS w0 w2 (.slice (some ⟨g, 0, none⟩) (zs.length + 1) cap) u (zs ++ [z]) us := by
  have hb := h.b.later (w_alloc (w_refl w) (sgO z))
  have ha := h.a.later (w_alloc (w_refl w) (sgO z))
  refine ⟨?_, ?_, ?_⟩
  · have := OwnL.app h.a (w_alloc (w_refl _) _) hown hg
    unfold SgO
    rw [flatG_app, List.length_append]
    exact this
  · refine ⟨OwnL.far ha (w_refl _) hg, hb.row.kept hg ?_⟩
    cases eq : u.ownBlock with
    | none => exact .inl rfl
    | some b => exact .inr fun e2 => h.sep b e2.symm eq
  · intro b hb2 hc
    have e : g = b := by simpa [Value.ownBlock] using hb2
    subst e
    rcases hat with x | x
    · exact h.sep g x hc
    · have := (hb.row.lt g hc).2
      omega
section
variable {ops : Array Oper} {rest : List Oper} {t : TypeId} {ps : String} {af : Array Edge} {a : Act} {Q : Exit → Act → World → Prop}
theorem wl_appT {w0 w w1 : World} {d : Tmp} {s x : Operand} {v u : Value} {zs us : List Sg} (z : Sg) (h : TwS w0 w v u zs us) (hw1 : w1 = w.alloc (sgO z)) (hn : zs.length ≤ 100000) (hs : a.eval s = v) (hx : a.eval x = .slice (some ⟨w.heap.size, 0, none⟩) 1 1)
    (k : ∀ g cap w2, TwS w0 w2 (.slice (some ⟨g, 0, none⟩) (zs.length + 1) cap) u (zs ++ [z]) us → wpList Tryz.prog ops Q rest (a.put (some d) (.slice (some ⟨g, 0, none⟩) (zs.length + 1) cap)) w2) :
    wpList Tryz.prog ops Q ({ dst := some d, op := .call { callee := .builtin .append, args := #[s, x], argTypes := #[35, 35] }, type := t, pos := ps, after := af, guard := none } :: rest) a w1 := by
  subst hw1
  obtain ⟨i0, hi0, hz0, hz1, hz2⟩ := info_parts info_sign
  have hl : SgO w0 (w.alloc (sgO z)) v zs := h.a.later (w_alloc (w_refl w) _)
  refine wpList_append_lies _ rfl s x 35 rfl w0.heap.size 27 i0 (sgv zS) 17 128 Tryz.underlying35 hi0 hz0 hz1 hz2 rfl (by decide) v zs.length (flatG zs) hs hl.row ⟨w.heap.size, 0, none⟩ 1 1 (flatG [z]) hx rfl (fun j u hj => World.news_of_block (sg_new w z) j u (by simpa [flatG, sgL] using hj)) (flatG_one [z]) (by decide) (by unfold maxLen; omega) (by omega) hl.bel.size _ rfl ?_
  intro g cap w2 h2 h3 h4 _
  exact k g cap w2 (h.app h2 h3 h4)
end
theorem lit_ownS (w : World) (l : List Sg) (base : Nat) (hb : base ≤ w.heap.size) (h : l.length ≤ maxLen) : (w.alloc (litO l)).ownsRow base 27 17 (.slice (some ⟨w.heap.size, 0, none⟩) l.length l.length) l.length (flatG l) := by
  have := World.ownsRow_lit (e := 27) (size := 17) w (flatG l).toArray l.length hb h (by rw [List.size_toArray]; exact flatG_len l)
  unfold litO
  simpa using this
set_option maxHeartbeats 4000000 in
theorem run_litS2 (s t : Sg) (w : World) : (Instr.buildSlice 35 2 #[(0, sgv s), (1, sgv t)]).run Tryz.prog w = .ok (.slice (some ⟨w.heap.size, 0, none⟩) 2 2) (w.alloc (litO [s, t])) := by
  unfold litO flatG flatG flatG sgL sgv sgA
  simp [Instr.buildSlice, newRow, go_sem]
theorem quo_bd {z : Int} (h : -9223372036854775808 ≤ z ∧ z ≤ 9223372036854775807) : ∃ m, IntKind.i64.wrap (z.tdiv 7) = m ∧ -9223372036854775808 ≤ m ∧ m ≤ 9223372036854775807 := by
  by_cases h0 : 0 ≤ z
  · have e : z.tdiv 7 = z / 7 := Int.tdiv_eq_ediv_of_nonneg h0
    exact ⟨z / 7, by rw [e]; exact IntWalk.i64_in _ (by omega), by omega, by omega⟩
  · have e : (-z).tdiv 7 = (-z) / 7 := Int.tdiv_eq_ediv_of_nonneg (by omega)
    have e2 : z.tdiv 7 = -((-z) / 7) := by rw [← e, Int.neg_tdiv]; simp
    exact ⟨-((-z) / 7), by rw [e2]; exact IntWalk.i64_in _ (by omega), by omega, by omega⟩
theorem pl_mP {q : Q4} (k : Bool) (h : okM q) : PlS (mP q k) := ⟨one_mP k h, rfl⟩
theorem pl_cP : PlS (cP 0 3) := ⟨one_cP (by decide) (by decide), rfl⟩
theorem pl_pP : PlS (pP 3 2) := ⟨one_pP (by decide) (by decide), rfl⟩
theorem pl_xP {n : Int} (h : 2 ≤ n ∧ n ≤ 4) : PlS (xP n) := ⟨one_xP h, rfl⟩
theorem pl_bP9 : PlS (bP 9) := ⟨one_bare.1, rfl⟩
theorem pl_bP11 : PlS (bP 11) := ⟨one_bare.2.1, rfl⟩
theorem pl_bP12 : PlS (bP 12) := ⟨one_bare.2.2.1, rfl⟩
theorem len1 {l : List Sg} {s : Sg} {n : Nat} (h : l.length ≤ n) : (l ++ [s]).length ≤ n + 1 := by rw [List.length_append]; exact Nat.succ_le_succ h
theorem own_slS {w W : World} {l : List Sg} {q : Option Addr} {c : Nat} (h : SgO w W (.slice q l.length c) l) : SlP W 17 q l.length c (flatG l) := by
  obtain ⟨q', c', e, hs⟩ := SgV.of_own h.row
  injection e with e1 e2 e3
  subst e1 e3
  exact hs
theorem sg_atS {w : World} {b off cap n : Nat} {l : List Sg} (h : SlP w 17 (some ⟨b, off, none⟩) n cap (flatG l)) (hn : n = l.length) {i : Nat} (hi : i < l.length) : SgAt w b (off + i * 17) (l.getD i zS) := by
  subst hn
  obtain ⟨b2, o2, e, _, hs⟩ := h.sg (i := i) (s := l.getD i zS) (by simp [List.getD, List.getElem?_eq_getElem hi])
  injection e with e
  injection e with e1 e2
  subst e1 e2
  exact hs
abbrev prtB : ByteArray := ⟨#[112, 97, 114, 116]⟩
theorem kline_end (w y0 w4 W5 : World) (b3 : Nat) (q : Option Addr) (c : Nat) (l : List Sg) (B0 : Below w.heap.size w y0) (Y0 : y0.heap.size = b3 + 2) (hb3 : w.heap.size = b3) {n : Nat} (h : SgO y0 w4 (.slice q n c) l)
    (hB5 : ∀ B w0, Below B w0 w4 → B ≤ b3 + 1 → Below B w0 W5) (ho : ∀ c, c ≠ b3 + 1 → W5.heap[c]? = w4.heap[c]?) : SlP W5 17 q l.length c (flatG l) ∧ Below w.heap.size w W5 := by
  obtain ⟨q', c', e⟩ := h.val
  have e' := e
  simp only [Value.slice.injEq] at e'
  obtain ⟨rfl, rfl, rfl⟩ := e'
  refine ⟨sl_of_heap (own_slS h) (fun b off e => ho _ ?_), hB5 _ _ (w_below B0 h.bel) (by omega)⟩
  have := (h.row.lt b (by rw [e]; rfl)).1
  omega
set_option maxRecDepth 100000 in
set_option maxHeartbeats 16000000 in
theorem kline_any (q : Q4) (hq : okM q) (p : Option Addr) (cap : Nat) (zs : List Int) (hb : ∀ z ∈ zs, -9223372036854775808 ≤ z ∧ z ≤ 9223372036854775807) (w : World) (h : SlP w 1 p zs.length cap (ints zs)) :
    Calls Tryz.prog 28 #[mv q, .slice p zs.length cap, .int .i64 30] w fun e w' => ∃ q2 c l, e = .returned (ptv prtB q2 l.length c) ∧ SlP w' 17 q2 l.length c (flatG l) ∧ Below w.heap.size w w' ∧ l.length ≤ 63 ∧ ∀ s ∈ l, PlS s := by
  have MD := Lib.hid (fun m W h1 h2 => mod_any m 23 W h1 h2 (by decide) (by decide))
  have AT := Lib.hid (fun i W hW hi => ats_any p cap zs i W hW hi)
  have RN := Lib.hid (fun W hW => krun_any q p cap zs hb W hW)
  have f1 := h.fit
  have f2 := h.max
  have CQ := Lib.hid ((Cell4.made w q 23).later (w_alloc (w_refl _) (ptO emp none 0 0)))
  have P0 := Lib.hid (pt_new (w.alloc (mO q)) emp none 0 0)
  have B0 := Lib.hid (w_alloc (w_alloc (w_refl w) (mO q)) (ptO emp none 0 0))
  have HN := Lib.hid (h.later B0.out)
  have HB := Lib.hid hb
  have HQ := Lib.hid hq
  rw [World.size_alloc] at P0
  clear h hb hq
  go_enter Tryz.func28, Tryz.ntmps28
  go_upto_region 1 with (fail)
  obtain ⟨b3, hb3⟩ : ∃ b3, w.heap.size = b3 := ⟨_, rfl⟩
  rw [hb3] at P0 CQ ⊢
  change Code.wp _ _ _ _ ((w.alloc (mO q)).alloc (ptO emp none 0 0))
  have Y0 := Lib.hid (show ((w.alloc (mO q)).alloc (ptO emp none 0 0)).heap.size = b3 + 2 by simp [hb3])
  generalize (w.alloc (mO q)).alloc (ptO emp none 0 0) = y0 at *
  obtain ⟨_, c0, c1, c2, c3, _, _, _, _⟩ := CQ.out
  obtain ⟨qa, qb, qc, qd⟩ := q
  go_upto_region 2 with (first | (with_reducible refine wl_buildS (d := 14) _ (cP 0 3) (by kernel_rfl) ?_) | (with_reducible refine wl_buildS (d := 16) _ (mP (qa, qb, qc, qd) false) (by kernel_rfl) ?_) | (with_reducible refine wl_lit 2 _ [cP 0 3, mP (qa, qb, qc, qd) false] #[(0, sgv (cP 0 3)), (1, sgv (mP (qa, qb, qc, qd) false))] (by kernel_rfl) (run_litS2 _ _ _) (by kernel_rfl) ?_) | fail)
  have S0 := Lib.hid (show SgO y0 (y0.alloc (litO [cP 0 3, mP (qa, qb, qc, qd) false])) (.slice (some ⟨y0.heap.size, 0, none⟩) 2 2) [cP 0 3, mP (qa, qb, qc, qd) false] from ⟨w_alloc (w_refl y0) _, lit_ownS y0 _ _ (Nat.le_refl _) (show 2 ≤ maxLen by decide)⟩)
  have PL0 := Lib.hid (show ∀ s ∈ [cP 0 3, mP (qa, qb, qc, qd) false], PlS s from fun s hs => by
    simp only [List.mem_cons, List.not_mem_nil, or_false] at hs
    rcases hs with rfl | rfl
    · exact pl_cP
    · exact pl_mP false HQ.out)
  have Z1 := Lib.hid (show (y0.alloc (litO [cP 0 3, mP (qa, qb, qc, qd) false])).heap.size = y0.heap.size + 1 by simp)
  obtain ⟨g0, hg0⟩ : ∃ g0, y0.heap.size = g0 := ⟨_, rfl⟩
  generalize hy1 : y0.alloc (litO [cP 0 3, mP (qa, qb, qc, qd) false]) = y1 at *
  rw [hg0] at S0 Z1 ⊢
  clear hy1 c0 c1 c2 c3
  have c0 := (CQ.out.later S0.out.bel).c0
  have c1 := (CQ.out.later S0.out.bel).c1
  have c2 := (CQ.out.later S0.out.bel).c2
  have c3 := (CQ.out.later S0.out.bel).c3
  generalize hl0 : [cP 0 3, mP (qa, qb, qc, qd) false] = l0 at *
  have hlen0 : l0.length = 2 := by rw [← hl0]; rfl
  clear hl0
  go_wp2_with fail
  refine (RN.out _ (HN.out.later S0.out.bel)).mono ?_
  rintro e w2 ⟨v2, l2, rfl, hs2, hl2, hp2⟩
  obtain ⟨q2, a2, rfl⟩ := hs2.val
  have T0 := Lib.hid (show TwS y0 w2 (.slice (some ⟨g0, 0, none⟩) 2 2) (.slice q2 l2.length a2) l0 l2 from ⟨S0.out.later hs2.bel, hs2.base S0.out.bel, fun b h1 h2 => by
    have e : g0 = b := by simpa [Value.ownBlock] using h1
    have := (hs2.row.lt b h2).1
    rw [Z1.out] at this
    omega⟩)
  have HP2 := Lib.hid hp2
  clear hs2 hp2 c0 c1 c2 c3 S0 Z1 RN
  go_wp2_with fail
  go_loopw [7, 9, 10] (fun v o i wr => ∃ (k : Nat) (l : List Sg) (b : Bool), i = .int .i64 k ∧ o = .bool b ∧ (∃ q c, v = .slice q l.length c) ∧ k ≤ l2.length ∧ Hid (l.length ≤ 2 + 2 * k) ∧ Hid (∀ s ∈ l, PlS s) ∧ Hid (TwS y0 wr v (.slice q2 l2.length a2) l l2)) (fun _ _ i _ => l2.length - (intOf i).toNat)
  case atStart => exact ⟨0, l0, false, rfl, rfl, ⟨_, _, by rw [hlen0]⟩, Nat.zero_le _, Lib.hid (by omega), PL0, T0⟩
  case round =>
    obtain ⟨k, l, b, rfl, rfl, ⟨q1, a1, rfl⟩, hk, hl, hP, hT⟩ := hrel
    clear T0 PL0
    by_cases hlt : k < l2.length
    · have hlt' : (k : Int) < l2.length := by omega
      have hk0 : (0 : Int) ≤ k := by omega
      have x5 : IntKind.i64.wrap ((k : Int) + 1) = (k : Int) + 1 := IntWalk.i64_in _ (by omega)
      have x3 : (k : Int).tmod 3 = (k : Int) % 3 := Int.tmod_eq_emod_of_nonneg hk0
      have x2 : (k : Int).tmod 2 = (k : Int) % 2 := Int.tmod_eq_emod_of_nonneg hk0
      obtain ⟨k3, hk3, hk4⟩ : ∃ k3, (k : Int) % 3 = k3 ∧ (0 ≤ k3 ∧ k3 ≤ 2) := ⟨_, rfl, by omega⟩
      have x6 : IntKind.i64.wrap (2 + k3) = 2 + k3 := IntWalk.i64_in _ (by omega)
      obtain ⟨k2, hk2⟩ : ∃ k2, (k : Int) % 2 = k2 := ⟨_, rfl⟩
      rw [hk3] at x3
      rw [hk2] at x2
      clear hk3 hk2
      have SL := Lib.hid (own_slS hT.out.b)
      obtain ⟨bz, oz, rfl, -, hsg⟩ := SL.out.sg (i := k) (s := l2.getD k zS) (by simp [List.getD, List.getElem?_eq_getElem hlt])
      have PS := Lib.hid (HP2.out (l2.getD k zS) (by rw [List.getD_eq_getElem?_getD, List.getElem?_eq_getElem hlt]; exact List.getElem_mem hlt))
      obtain ⟨s, hs⟩ : ∃ s, l2.getD k zS = s := ⟨_, rfl⟩
      have GS := Lib.hid (fun (W : World) (v : Value) (l' : List Sg) (h : TwS y0 W v (.slice (some ⟨bz, oz, none⟩) l2.length a2) l' l2) => show SgAt W bz (oz + k * 17) s from by
        have := sg_atS (own_slS h.b) rfl hlt
        rwa [hs] at this)
      rw [hs] at PS hsg
      clear hs SL
      have e0 := hsg.e0
      clear hsg
      obtain ⟨z, hz⟩ : ∃ z, zs.getD k 0 = z := ⟨_, rfl⟩
      have hzb := getD_bdsL HB.out k
      have AK := Lib.hid (fun W hW => AT.out k W hW (by omega))
      rw [hz] at hzb AK
      obtain ⟨m, hm, hm1, hm2⟩ := quo_bd hzb
      have MK := Lib.hid (fun W => MD.out m W hm1 hm2)
      obtain ⟨n, hn, hn0⟩ : ∃ n, m % 23 = n ∧ 0 ≤ n := ⟨_, rfl, by omega⟩
      rw [hn] at MK
      clear hz hn hm1 hm2 hzb
      have HNk := Lib.hid (HN.out.later hT.out.a.bel)
      have ht : l.length ≤ 100000 := by have := hl.out; omega
      clear MD AT HB
      by_cases h3 : s.kind = 3
      · have h3b : (s.kind == 3) = true := by simpa using h3
        go_wp2_with fail
        refine (AK.out _ HNk.out).mono ?_
        rintro e w3 ⟨rfl, e3⟩
        subst e3
        go_wp2_with fail
        refine (MK.out _).mono ?_
        rintro e w4 ⟨rfl, e4⟩
        subst e4
        clear AK MK HNk e0 hm
        go_upto_region 9 with (fail)
        go_upto_region 24 with (fail)
        have SG := Lib.hid (GS.out _ _ _ hT.out)
        have ht2 : (l).length ≤ 100000 := by have := (Lib.hid (show l.length ≤ 2 + 2 * k + 1 from Nat.le_succ_of_le hl.out)).out; omega
        go_wp2_with (first | (with_reducible refine wl_load bz (oz + k * 17) s (by kernel_rfl) SG.out ?_) | (with_reducible refine wl_one _ s (by kernel_rfl) ?_) | (with_reducible refine wl_appT s hT.out rfl ht2 (by kernel_rfl) (by kernel_rfl) ?_) | fail)
        intro g5 cap5 w5 hT5
        go_wp2_with fail
        go_roundw
        case rel => exact ⟨k + 1, l ++ [s], b, rfl, rfl, ⟨some ⟨g5, 0, none⟩, cap5, by rw [List.length_append]; rfl⟩, by omega, Lib.hid (Nat.le_trans (len1 (Lib.hid (show l.length ≤ 2 + 2 * k + 1 from Nat.le_succ_of_le hl.out)).out) (by omega)), Lib.hid (pl_add hP.out PS.out), Lib.hid hT5⟩
        case measure => simp [intOf]; omega
      · have h3b : (s.kind == 3) = false := by simpa using h3
        go_wp2_with fail
        refine (AK.out _ HNk.out).mono ?_
        rintro e w3 ⟨rfl, e3⟩
        subst e3
        go_wp2_with fail
        refine (MK.out _).mono ?_
        rintro e w4 ⟨rfl, e4⟩
        subst e4
        clear AK MK HNk e0 hm
        go_upto_region 9 with (fail)
        by_cases n0 : n = 0
        · subst n0
          have PL9 := Lib.hid (pl_add hP.out (pl_bP11))
          have hl9 := Lib.hid (len1 (s := bP 11) hl.out)
          go_wp2_with (first | (with_reducible refine wl_buildS (d := 45) _ (bP 11) (by kernel_rfl) ?_) | (with_reducible refine wl_one _ (bP 11) (by kernel_rfl) ?_) | (with_reducible refine wl_appT (bP 11) hT.out rfl ht (by kernel_rfl) (by kernel_rfl) ?_) | fail)
          intro g4 cap4 w4 hT4
          have T9 := Lib.hid hT4
          clear hT4 hT
          have SG := Lib.hid (GS.out _ _ _ T9.out)
          have ht2 : (l ++ [bP 11]).length ≤ 100000 := by have := (hl9).out; omega
          go_wp2_with (first | (with_reducible refine wl_load bz (oz + k * 17) s (by kernel_rfl) SG.out ?_) | (with_reducible refine wl_one _ s (by kernel_rfl) ?_) | (with_reducible refine wl_appT s T9.out rfl ht2 (by kernel_rfl) (by kernel_rfl) ?_) | fail)
          intro g5 cap5 w5 hT5
          go_wp2_with fail
          go_roundw
          case rel => exact ⟨k + 1, l ++ [bP 11] ++ [s], b, rfl, rfl, ⟨some ⟨g5, 0, none⟩, cap5, by rw [List.length_append, List.length_append]; rfl⟩, by omega, Lib.hid (Nat.le_trans (len1 (hl9).out) (by omega)), Lib.hid (pl_add PL9.out PS.out), Lib.hid (by have h := hT5; rw [List.length_append] at h; exact h)⟩
          case measure => simp [intOf]; omega
        by_cases n1 : n = 1
        · subst n1
          have PL9 := Lib.hid (pl_add hP.out (pl_bP12))
          have hl9 := Lib.hid (len1 (s := bP 12) hl.out)
          go_wp2_with (first | (with_reducible refine wl_buildS (d := 52) _ (bP 12) (by kernel_rfl) ?_) | (with_reducible refine wl_one _ (bP 12) (by kernel_rfl) ?_) | (with_reducible refine wl_appT (bP 12) hT.out rfl ht (by kernel_rfl) (by kernel_rfl) ?_) | fail)
          intro g4 cap4 w4 hT4
          have T9 := Lib.hid hT4
          clear hT4 hT
          have SG := Lib.hid (GS.out _ _ _ T9.out)
          have ht2 : (l ++ [bP 12]).length ≤ 100000 := by have := (hl9).out; omega
          go_wp2_with (first | (with_reducible refine wl_load bz (oz + k * 17) s (by kernel_rfl) SG.out ?_) | (with_reducible refine wl_one _ s (by kernel_rfl) ?_) | (with_reducible refine wl_appT s T9.out rfl ht2 (by kernel_rfl) (by kernel_rfl) ?_) | fail)
          intro g5 cap5 w5 hT5
          go_wp2_with fail
          go_roundw
          case rel => exact ⟨k + 1, l ++ [bP 12] ++ [s], b, rfl, rfl, ⟨some ⟨g5, 0, none⟩, cap5, by rw [List.length_append, List.length_append]; rfl⟩, by omega, Lib.hid (Nat.le_trans (len1 (hl9).out) (by omega)), Lib.hid (pl_add PL9.out PS.out), Lib.hid (by have h := hT5; rw [List.length_append] at h; exact h)⟩
          case measure => simp [intOf]; omega
        by_cases n2 : n = 2
        · subst n2
          cases b with
          | true =>
            have PL9 := Lib.hid (pl_add hP.out (pl_xP (n := 2 + k3) (by omega)))
            have hl9 := Lib.hid (len1 (s := xP (2 + k3)) hl.out)
            go_wp2_with (first | (with_reducible refine wl_buildS (d := 76) _ (xP (2 + k3)) (by kernel_rfl) ?_) | (with_reducible refine wl_one _ (xP (2 + k3)) (by kernel_rfl) ?_) | (with_reducible refine wl_appT (xP (2 + k3)) hT.out rfl ht (by kernel_rfl) (by kernel_rfl) ?_) | fail)
            intro g4 cap4 w4 hT4
            have T9 := Lib.hid hT4
            clear hT4 hT
            have SG := Lib.hid (GS.out _ _ _ T9.out)
            have ht2 : (l ++ [xP (2 + k3)]).length ≤ 100000 := by have := (hl9).out; omega
            go_wp2_with (first | (with_reducible refine wl_load bz (oz + k * 17) s (by kernel_rfl) SG.out ?_) | (with_reducible refine wl_one _ s (by kernel_rfl) ?_) | (with_reducible refine wl_appT s T9.out rfl ht2 (by kernel_rfl) (by kernel_rfl) ?_) | fail)
            intro g5 cap5 w5 hT5
            go_wp2_with fail
            go_roundw
            case rel => exact ⟨k + 1, l ++ [xP (2 + k3)] ++ [s], false, rfl, rfl, ⟨some ⟨g5, 0, none⟩, cap5, by rw [List.length_append, List.length_append]; rfl⟩, by omega, Lib.hid (Nat.le_trans (len1 (hl9).out) (by omega)), Lib.hid (pl_add PL9.out PS.out), Lib.hid (by have h := hT5; rw [List.length_append] at h; exact h)⟩
            case measure => simp [intOf]; omega
          | false =>
            have PL9 := Lib.hid (pl_add hP.out (pl_bP9))
            have hl9 := Lib.hid (len1 (s := bP 9) hl.out)
            go_wp2_with (first | (with_reducible refine wl_buildS (d := 63) _ (bP 9) (by kernel_rfl) ?_) | (with_reducible refine wl_one _ (bP 9) (by kernel_rfl) ?_) | (with_reducible refine wl_appT (bP 9) hT.out rfl ht (by kernel_rfl) (by kernel_rfl) ?_) | fail)
            intro g4 cap4 w4 hT4
            have T9 := Lib.hid hT4
            clear hT4 hT
            have SG := Lib.hid (GS.out _ _ _ T9.out)
            have ht2 : (l ++ [bP 9]).length ≤ 100000 := by have := (hl9).out; omega
            go_wp2_with (first | (with_reducible refine wl_load bz (oz + k * 17) s (by kernel_rfl) SG.out ?_) | (with_reducible refine wl_one _ s (by kernel_rfl) ?_) | (with_reducible refine wl_appT s T9.out rfl ht2 (by kernel_rfl) (by kernel_rfl) ?_) | fail)
            intro g5 cap5 w5 hT5
            go_wp2_with fail
            go_roundw
            case rel => exact ⟨k + 1, l ++ [bP 9] ++ [s], true, rfl, rfl, ⟨some ⟨g5, 0, none⟩, cap5, by rw [List.length_append, List.length_append]; rfl⟩, by omega, Lib.hid (Nat.le_trans (len1 (hl9).out) (by omega)), Lib.hid (pl_add PL9.out PS.out), Lib.hid (by have h := hT5; rw [List.length_append] at h; exact h)⟩
            case measure => simp [intOf]; omega
        by_cases n5 : n < 6
        · cases b with
          | true =>
            have PL9 := Lib.hid (pl_add hP.out (pl_xP (n := 2 + k3) (by omega)))
            have hl9 := Lib.hid (len1 (s := xP (2 + k3)) hl.out)
            go_wp2_with (first | (with_reducible refine wl_buildS (d := 76) _ (xP (2 + k3)) (by kernel_rfl) ?_) | (with_reducible refine wl_one _ (xP (2 + k3)) (by kernel_rfl) ?_) | (with_reducible refine wl_appT (xP (2 + k3)) hT.out rfl ht (by kernel_rfl) (by kernel_rfl) ?_) | fail)
            intro g4 cap4 w4 hT4
            have T9 := Lib.hid hT4
            clear hT4 hT
            have SG := Lib.hid (GS.out _ _ _ T9.out)
            have ht2 : (l ++ [xP (2 + k3)]).length ≤ 100000 := by have := (hl9).out; omega
            go_wp2_with (first | (with_reducible refine wl_load bz (oz + k * 17) s (by kernel_rfl) SG.out ?_) | (with_reducible refine wl_one _ s (by kernel_rfl) ?_) | (with_reducible refine wl_appT s T9.out rfl ht2 (by kernel_rfl) (by kernel_rfl) ?_) | fail)
            intro g5 cap5 w5 hT5
            go_wp2_with fail
            go_roundw
            case rel => exact ⟨k + 1, l ++ [xP (2 + k3)] ++ [s], false, rfl, rfl, ⟨some ⟨g5, 0, none⟩, cap5, by rw [List.length_append, List.length_append]; rfl⟩, by omega, Lib.hid (Nat.le_trans (len1 (hl9).out) (by omega)), Lib.hid (pl_add PL9.out PS.out), Lib.hid (by have h := hT5; rw [List.length_append] at h; exact h)⟩
            case measure => simp [intOf]; omega
          | false =>
            have n6 : ¬ n = 6 := by omega
            have n7 : ¬ n = 7 := by omega
            go_upto_region 24 with (fail)
            have SG := Lib.hid (GS.out _ _ _ hT.out)
            have ht2 : (l).length ≤ 100000 := by have := (Lib.hid (show l.length ≤ 2 + 2 * k + 1 from Nat.le_succ_of_le hl.out)).out; omega
            go_wp2_with (first | (with_reducible refine wl_load bz (oz + k * 17) s (by kernel_rfl) SG.out ?_) | (with_reducible refine wl_one _ s (by kernel_rfl) ?_) | (with_reducible refine wl_appT s hT.out rfl ht2 (by kernel_rfl) (by kernel_rfl) ?_) | fail)
            intro g5 cap5 w5 hT5
            go_wp2_with fail
            go_roundw
            case rel => exact ⟨k + 1, l ++ [s], false, rfl, rfl, ⟨some ⟨g5, 0, none⟩, cap5, by rw [List.length_append]; rfl⟩, by omega, Lib.hid (Nat.le_trans (len1 (Lib.hid (show l.length ≤ 2 + 2 * k + 1 from Nat.le_succ_of_le hl.out)).out) (by omega)), Lib.hid (pl_add hP.out PS.out), Lib.hid hT5⟩
            case measure => simp [intOf]; omega
        by_cases n6 : n = 6
        · subst n6
          cases b with
          | true =>
            go_upto_region 24 with (fail)
            have SG := Lib.hid (GS.out _ _ _ hT.out)
            have ht2 : (l).length ≤ 100000 := by have := (Lib.hid (show l.length ≤ 2 + 2 * k + 1 from Nat.le_succ_of_le hl.out)).out; omega
            go_wp2_with (first | (with_reducible refine wl_load bz (oz + k * 17) s (by kernel_rfl) SG.out ?_) | (with_reducible refine wl_one _ s (by kernel_rfl) ?_) | (with_reducible refine wl_appT s hT.out rfl ht2 (by kernel_rfl) (by kernel_rfl) ?_) | fail)
            intro g5 cap5 w5 hT5
            go_wp2_with fail
            go_roundw
            case rel => exact ⟨k + 1, l ++ [s], true, rfl, rfl, ⟨some ⟨g5, 0, none⟩, cap5, by rw [List.length_append]; rfl⟩, by omega, Lib.hid (Nat.le_trans (len1 (Lib.hid (show l.length ≤ 2 + 2 * k + 1 from Nat.le_succ_of_le hl.out)).out) (by omega)), Lib.hid (pl_add hP.out PS.out), Lib.hid hT5⟩
            case measure => simp [intOf]; omega
          | false =>
            by_cases h2 : k2 = 0
            · subst h2
              have c0 := (CQ.out.later hT.out.a.bel).c0
              have c1 := (CQ.out.later hT.out.a.bel).c1
              have c2 := (CQ.out.later hT.out.a.bel).c2
              have c3 := (CQ.out.later hT.out.a.bel).c3
              have PL9 := Lib.hid (pl_add hP.out (pl_mP true HQ.out))
              have hl9 := Lib.hid (len1 (s := mP (qa, qb, qc, qd) true) hl.out)
              go_wp2_with (first | (with_reducible refine wl_buildS (d := 91) _ (mP (qa, qb, qc, qd) true) (by kernel_rfl) ?_) | (with_reducible refine wl_one _ (mP (qa, qb, qc, qd) true) (by kernel_rfl) ?_) | (with_reducible refine wl_appT (mP (qa, qb, qc, qd) true) hT.out rfl ht (by kernel_rfl) (by kernel_rfl) ?_) | fail)
              intro g4 cap4 w4 hT4
              have T9 := Lib.hid hT4
              clear hT4 hT
              have SG := Lib.hid (GS.out _ _ _ T9.out)
              have ht2 : (l ++ [mP (qa, qb, qc, qd) true]).length ≤ 100000 := by have := (hl9).out; omega
              go_wp2_with (first | (with_reducible refine wl_load bz (oz + k * 17) s (by kernel_rfl) SG.out ?_) | (with_reducible refine wl_one _ s (by kernel_rfl) ?_) | (with_reducible refine wl_appT s T9.out rfl ht2 (by kernel_rfl) (by kernel_rfl) ?_) | fail)
              intro g5 cap5 w5 hT5
              go_wp2_with fail
              go_roundw
              case rel => exact ⟨k + 1, l ++ [mP (qa, qb, qc, qd) true] ++ [s], false, rfl, rfl, ⟨some ⟨g5, 0, none⟩, cap5, by rw [List.length_append, List.length_append]; rfl⟩, by omega, Lib.hid (Nat.le_trans (len1 (hl9).out) (by omega)), Lib.hid (pl_add PL9.out PS.out), Lib.hid (by have h := hT5; rw [List.length_append] at h; exact h)⟩
              case measure => simp [intOf]; omega
            · have h2b : (k2 == 0) = false := by simpa using h2
              have h2c : decide (k2 = 0) = false := decide_eq_false h2
              have c0 := (CQ.out.later hT.out.a.bel).c0
              have c1 := (CQ.out.later hT.out.a.bel).c1
              have c2 := (CQ.out.later hT.out.a.bel).c2
              have c3 := (CQ.out.later hT.out.a.bel).c3
              have PL9 := Lib.hid (pl_add hP.out (pl_mP false HQ.out))
              have hl9 := Lib.hid (len1 (s := mP (qa, qb, qc, qd) false) hl.out)
              go_wp2_with (first | (with_reducible refine wl_buildS (d := 91) _ (mP (qa, qb, qc, qd) false) (by kernel_rfl) ?_) | (with_reducible refine wl_one _ (mP (qa, qb, qc, qd) false) (by kernel_rfl) ?_) | (with_reducible refine wl_appT (mP (qa, qb, qc, qd) false) hT.out rfl ht (by kernel_rfl) (by kernel_rfl) ?_) | fail)
              intro g4 cap4 w4 hT4
              have T9 := Lib.hid hT4
              clear hT4 hT
              have SG := Lib.hid (GS.out _ _ _ T9.out)
              have ht2 : (l ++ [mP (qa, qb, qc, qd) false]).length ≤ 100000 := by have := (hl9).out; omega
              go_wp2_with (first | (with_reducible refine wl_load bz (oz + k * 17) s (by kernel_rfl) SG.out ?_) | (with_reducible refine wl_one _ s (by kernel_rfl) ?_) | (with_reducible refine wl_appT s T9.out rfl ht2 (by kernel_rfl) (by kernel_rfl) ?_) | fail)
              intro g5 cap5 w5 hT5
              go_wp2_with fail
              go_roundw
              case rel => exact ⟨k + 1, l ++ [mP (qa, qb, qc, qd) false] ++ [s], false, rfl, rfl, ⟨some ⟨g5, 0, none⟩, cap5, by rw [List.length_append, List.length_append]; rfl⟩, by omega, Lib.hid (Nat.le_trans (len1 (hl9).out) (by omega)), Lib.hid (pl_add PL9.out PS.out), Lib.hid (by have h := hT5; rw [List.length_append] at h; exact h)⟩
              case measure => simp [intOf]; omega
        by_cases n7 : n = 7
        · subst n7
          cases b with
          | true =>
            go_upto_region 24 with (fail)
            have SG := Lib.hid (GS.out _ _ _ hT.out)
            have ht2 : (l).length ≤ 100000 := by have := (Lib.hid (show l.length ≤ 2 + 2 * k + 1 from Nat.le_succ_of_le hl.out)).out; omega
            go_wp2_with (first | (with_reducible refine wl_load bz (oz + k * 17) s (by kernel_rfl) SG.out ?_) | (with_reducible refine wl_one _ s (by kernel_rfl) ?_) | (with_reducible refine wl_appT s hT.out rfl ht2 (by kernel_rfl) (by kernel_rfl) ?_) | fail)
            intro g5 cap5 w5 hT5
            go_wp2_with fail
            go_roundw
            case rel => exact ⟨k + 1, l ++ [s], true, rfl, rfl, ⟨some ⟨g5, 0, none⟩, cap5, by rw [List.length_append]; rfl⟩, by omega, Lib.hid (Nat.le_trans (len1 (Lib.hid (show l.length ≤ 2 + 2 * k + 1 from Nat.le_succ_of_le hl.out)).out) (by omega)), Lib.hid (pl_add hP.out PS.out), Lib.hid hT5⟩
            case measure => simp [intOf]; omega
          | false =>
            have PL9 := Lib.hid (pl_add hP.out (pl_pP))
            have hl9 := Lib.hid (len1 (s := pP 3 2) hl.out)
            go_wp2_with (first | (with_reducible refine wl_buildS (d := 102) _ (pP 3 2) (by kernel_rfl) ?_) | (with_reducible refine wl_one _ (pP 3 2) (by kernel_rfl) ?_) | (with_reducible refine wl_appT (pP 3 2) hT.out rfl ht (by kernel_rfl) (by kernel_rfl) ?_) | fail)
            intro g4 cap4 w4 hT4
            have T9 := Lib.hid hT4
            clear hT4 hT
            have SG := Lib.hid (GS.out _ _ _ T9.out)
            have ht2 : (l ++ [pP 3 2]).length ≤ 100000 := by have := (hl9).out; omega
            go_wp2_with (first | (with_reducible refine wl_load bz (oz + k * 17) s (by kernel_rfl) SG.out ?_) | (with_reducible refine wl_one _ s (by kernel_rfl) ?_) | (with_reducible refine wl_appT s T9.out rfl ht2 (by kernel_rfl) (by kernel_rfl) ?_) | fail)
            intro g5 cap5 w5 hT5
            go_wp2_with fail
            go_roundw
            case rel => exact ⟨k + 1, l ++ [pP 3 2] ++ [s], false, rfl, rfl, ⟨some ⟨g5, 0, none⟩, cap5, by rw [List.length_append, List.length_append]; rfl⟩, by omega, Lib.hid (Nat.le_trans (len1 (hl9).out) (by omega)), Lib.hid (pl_add PL9.out PS.out), Lib.hid (by have h := hT5; rw [List.length_append] at h; exact h)⟩
            case measure => simp [intOf]; omega
        go_upto_region 24 with (fail)
        have SG := Lib.hid (GS.out _ _ _ hT.out)
        have ht2 : (l).length ≤ 100000 := by have := (Lib.hid (show l.length ≤ 2 + 2 * k + 1 from Nat.le_succ_of_le hl.out)).out; omega
        go_wp2_with (first | (with_reducible refine wl_load bz (oz + k * 17) s (by kernel_rfl) SG.out ?_) | (with_reducible refine wl_one _ s (by kernel_rfl) ?_) | (with_reducible refine wl_appT s hT.out rfl ht2 (by kernel_rfl) (by kernel_rfl) ?_) | fail)
        intro g5 cap5 w5 hT5
        go_wp2_with fail
        go_roundw
        case rel => exact ⟨k + 1, l ++ [s], b, rfl, rfl, ⟨some ⟨g5, 0, none⟩, cap5, by rw [List.length_append]; rfl⟩, by omega, Lib.hid (Nat.le_trans (len1 (Lib.hid (show l.length ≤ 2 + 2 * k + 1 from Nat.le_succ_of_le hl.out)).out) (by omega)), Lib.hid (pl_add hP.out PS.out), Lib.hid hT5⟩
        case measure => simp [intOf]; omega
    · have hk9 : k = l2.length := by omega
      subst hk9
      have PB := Lib.hid (P0.out.later hT.out.a.bel)
      have ht : l.length ≤ 100000 := by have := hl.out; omega
      cases b with
      | true =>
        have PL9 := Lib.hid (pl_add hP.out (pl_xP (n := 2) (by omega)))
        have hl9 := Lib.hid (len1 (s := xP 2) hl.out)
        go_wp2_with (first | (with_reducible refine wl_buildS (d := 114) _ (xP 2) (by kernel_rfl) ?_) | (with_reducible refine wl_one _ (xP 2) (by kernel_rfl) ?_) | (with_reducible refine wl_appT (xP 2) hT.out rfl ht (by kernel_rfl) (by kernel_rfl) ?_) | fail)
        intro g4 cap4 w4 hT4
        have T9 := Lib.hid hT4
        have PB := Lib.hid (P0.out.later hT4.a.bel)
        clear hT4 hT
        go_wp2_with (first | (with_reducible refine wl_row 37 (b3 + 1) _ _ #[.string prtB, .slice (some ⟨g4, 0, none⟩) (l.length + 1) cap4] PB.out (by kernel_rfl) (by kernel_rfl) (by kernel_rfl) rfl (by kernel_rfl) ?_) | fail)
        intro W5 h5 hB5 ho
        have FIN := Lib.hid (kline_end w y0 w4 W5 b3 (some ⟨g4, 0, none⟩) cap4 (l ++ [xP 2]) B0.out Y0.out hb3 T9.out.a hB5 ho)
        have H5 := Lib.hid h5
        go_wp2_with fail
        refine bodyPost_ret (v := ptv prtB (some ⟨g4, 0, none⟩) (l.length + 1) cap4) ?_ rfl ⟨_, cap4, l ++ [xP 2], by rw [List.length_append]; rfl, FIN.out.1, FIN.out.2, by have := hl9.out; omega, PL9.out⟩
        exact res_row rfl (by kernel_rfl) (pt_load H5.out)
      | false =>
        go_wp2_with (first | (with_reducible refine wl_row 37 (b3 + 1) _ _ #[.string prtB, .slice q1 l.length a1] PB.out (by kernel_rfl) (by kernel_rfl) (by kernel_rfl) rfl (by kernel_rfl) ?_) | fail)
        intro W5 h5 hB5 ho
        have FIN := Lib.hid (kline_end w y0 _ W5 b3 q1 a1 l B0.out Y0.out hb3 hT.out.a hB5 ho)
        have H5 := Lib.hid h5
        go_wp2_with fail
        refine bodyPost_ret (v := ptv prtB q1 l.length a1) ?_ rfl ⟨_, a1, l, rfl, FIN.out.1, FIN.out.2, by have := hl.out; omega, hP.out⟩
        exact res_row rfl (by kernel_rfl) (pt_load H5.out)
end Go.Proofs.YtdmedealdhadcaaGreatDoor
