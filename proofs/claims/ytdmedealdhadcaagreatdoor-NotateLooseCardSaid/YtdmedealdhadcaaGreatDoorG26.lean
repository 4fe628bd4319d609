/- The part of a text, of the program. What the statements of stage 7 do by themselves: copies and equality of lists, the kit's Mod, At and Has. Equality of lists of signs and of parts, copies of parts, parts that are small. The statements' own examples: the part that is shown, a sign and its text, what every statement asks for. What every statement asks for: signs that are written and read, words that are refused, texts with a fault. -/
import Derived.Test.YtdmedealdhadcaaGreatDoorG20
import Derived.Test.YtdmedealdhadcaaGreatDoorG25
import Derived.Test.YtdmedealdhadcaaGreatDoorG21
import Derived.Test.YtdmedealdhadcaaGreatDoorG17
import Derived.Test.YtdmedealdhadcaaGreatDoorG03
import Derived.Test.YtdmedealdhadcaaGreatDoorG22
import Derived.Test.YtdmedealdhadcaaGreatDoorG15

namespace Go.Proofs.YtdmedealdhadcaaGreatDoor
open Go.RowKit
theorem res_pf {fn : Func} {t x : Tmp} (h : fn.results = #[.cell t 37, .cell x 43]) {tmps : Array Value} {w : World} {b c : Nat} {nm : ByteArray} {p : Option Addr} {n cap : Nat} {f : Int × Int}
    (ht : tmps.getD t undef = .pointer (some ⟨b, 0, none⟩)) (hx : tmps.getD x undef = .pointer (some ⟨c, 0, none⟩)) (hb : HoldsB w b 37 #[.string nm, .slice p n cap]) (hc : HoldsB w c 43 #[.int .i64 f.1, .int .i64 f.2]) :
    (results fn tmps).run Tryz.prog w = .ok (.tuple #[ptv nm p n cap, ftV f]) w := by
  have e : (loadVar 37 ⟨b, 0, none⟩).run Tryz.prog w = .ok (ptv nm p n cap) w := run_loadVar_mid (P := Tryz.prog) w b 0 37 [.string nm, .slice p n cap] _ (holds_range hb) Tryz.underlying37 rfl (by kernel_rfl)
  have e' := ft_load hc
  simp only [Array.getD_eq_getD_getElem?] at ht hx
  have e2 : (asAddr (Value.pointer (some { block := b, off := 0 }))).run Tryz.prog w = .ok ⟨b, 0, none⟩ w := by simp [asAddr]
  have e3 : (asAddr (Value.pointer (some { block := c, off := 0 }))).run Tryz.prog w = .ok ⟨c, 0, none⟩ w := by simp [asAddr]
  simp [results, h, ht, hx, Sem.run_bind, e2, e, e3, e']
/-- A part is handed back, and a fault. -/
def PrP (R : PtV × (Int × Int)) (w : World) (e : Ending) (w' : World) : Prop := ∃ p cap, e = .returned (.tuple #[ptv R.1.1 p R.1.2.length cap, ftV R.2]) ∧ SlP w' 17 p R.1.2.length cap (flatG R.1.2) ∧ Below w.heap.size w w'
theorem slP_nil (w : World) : SlP w 17 none ([] : List Sg).length 0 (flatG []) := by
  obtain ⟨p, cap, e, h⟩ := SgV.none w
  simp only [Value.slice.injEq] at e
  obtain ⟨rfl, _, rfl⟩ := e
  exact h
theorem PrP.bad {R : PtV × (Int × Int)} {f : Int × Int} (h : R = (noP, f)) {w w' : World} (b : Below w.heap.size w w') : PrP R w (.returned (.tuple #[ptv emp none 0 0, ftV f])) w' := by
  subst h; exact ⟨none, 0, rfl, slP_nil w', b⟩
/-- The two results as they stand behind the two stores. -/
def layP (W : World) (b : Nat) (g : Int × Int) : World :=
  ((((W.setCell ⟨b, 0, none⟩ (.string emp)).setCell ⟨b, 1, none⟩ (.slice none 0 0)).setCell ⟨b + 1, 0, none⟩ (.int .i64 g.1)).setCell ⟨b + 1, 1, none⟩ (.int .i64 g.2)).drew
/-- The two results, and a fault's variable. -/
structure PrX (w W : World) (b m : Nat) (f : Int × Int) : Prop where
  p : HoldsB W b 37 #[.string emp, .slice none 0 0]
  q : HoldsB W (b + 1) 43 #[.int .i64 0, .int .i64 0]
  ft : HoldsB W m 43 #[.int .i64 f.1, .int .i64 f.2]
  bel : Below w.heap.size w W
  hb : w.heap.size = b
  hm : b + 1 < m
theorem PrX.later {w W V : World} {b m : Nat} {f : Int × Int} (h : PrX w W b m f) (k : Below W.heap.size W V) : PrX w V b m f :=
  ⟨h.p.later k, h.q.later k, h.ft.later k, w_below h.bel k, h.hb, h.hm⟩
theorem PrX.al {w W : World} {b m : Nat} {f : Int × Int} (h : PrX w W b m f) (o : Obj) : PrX w (W.alloc o) b m f := h.later (w_alloc (w_refl W) o)
theorem PrX.fin {w W : World} {b m : Nat} {f : Int × Int} (h : PrX w W b m f) (g : Int × Int) :
    HoldsB (layP W b g) b 37 #[.string emp, .slice none 0 0] ∧ HoldsB (layP W b g) (b + 1) 43 #[.int .i64 g.1, .int .i64 g.2] ∧ Below w.heap.size w (layP W b g) :=
  ⟨((((h.p.set 0 (.string emp)).set 1 (.slice none 0 0)).other (by omega) 0 _).other (by omega) 1 _).later (w_refl _).drew,
   ((((h.q.other (by omega) 0 _).other (by omega) 1 _).set 0 (.int .i64 g.1)).set 1 (.int .i64 g.2)).later (w_refl _).drew,
   (w_put (w_put (w_put (w_put h.bel (by rw [h.hb]; exact Nat.le_refl _) 0 _) (by rw [h.hb]; exact Nat.le_refl _) 1 _) (by rw [h.hb]; omega) 0 _) (by rw [h.hb]; omega) 1 _).drew⟩
theorem sg_val {W : World} {base : Nat} {q : Option Addr} {c : Nat} {l : List Sg} (h : W.ownsRow base 27 17 (.slice q l.length c) l.length (flatG l)) : SlP W 17 q l.length c (flatG l) := by
  obtain ⟨p, cap, e, k⟩ := SlP.of_own h (flatG_len l) (flatG_one l)
  simp only [Value.slice.injEq, true_and] at e
  obtain ⟨rfl, rfl⟩ := e
  exact k
theorem int_cell {W : World} {base : Nat} {q : Option Addr} {c : Nat} {l : List Int} (h : W.ownsRow base 3 1 (.slice q l.length c) l.length (ints l)) {i : Nat} (hi : i < l.length) :
    ∃ b off, q = some ⟨b, off, none⟩ ∧ b < W.heap.size ∧ l.length ≤ c ∧ c ≤ 9223372036854775807 ∧ W.cell? ⟨b, off + i, none⟩ = some (.int .i64 (l.getD i 0)) := by
  obtain ⟨p, cap, e, k⟩ := SlP.of_own h (by simp [ints]) (ints_one l)
  simp only [Value.slice.injEq, true_and] at e
  obtain ⟨rfl, rfl⟩ := e
  obtain ⟨b, off, rfl, hb, hc⟩ := k.at_ (by omega)
  refine ⟨b, off, rfl, hb, k.fit, k.max, hc i _ ?_⟩
  unfold ints
  rw [List.getElem?_map, List.getD, List.getElem?_eq_getElem hi]; rfl
theorem own_not {W : World} {base m : Nat} {e : TypeId} {k : Nat} {v : Value} {n : Nat} {cs : List Value} (h : W.ownsRow base e k v n cs) (hm : m < base) : some m ≠ v.ownBlock := fun x => by have := (h.lt m x.symm).1; omega
theorem prs_some {T : ByteArray} {rs : List Rw} (h : RowsRes T rs none) (h0 : 0 < rs.length) : prsV T = headT T.size (rs.getD 0 noRw).words (rs.drop 1) := by
  cases rs with
  | nil => simp at h0
  | cons r t => exact prs_cons h
set_option maxRecDepth 100000 in
set_option maxHeartbeats 16000000 in
theorem pparse_any (T : ByteArray) (hT : T.size ≤ 1000000) (w : World) (S : TabS w) : Calls Tryz.prog 19 #[.string T] w (PrP (prsV T) w) := by
  have RW := Lib.hid (fun V => wrows_any T V hT)
  unfold RowsPost at RW
  have hsz : IntKind.i64.wrap (T.size : Int) = T.size := IntWalk.i64_in _ (by omega)
  have P0 := Lib.hid ((pt_new w emp none 0 0).al (.cells #[.int .i64 0, .int .i64 0] 43))
  have F0 := Lib.hid (HoldsB.new (w.alloc (ptO emp none 0 0)) 43 #[.int .i64 0, .int .i64 0])
  have B0 := Lib.hid (w_alloc (w_alloc (w_refl w) (ptO emp none 0 0)) (.cells #[.int .i64 0, .int .i64 0] 43))
  have T0 := Lib.hid ((S.al (ptO emp none 0 0)).al (.cells #[.int .i64 0, .int .i64 0] 43))
  rw [World.size_alloc] at F0
  clear S
  go_enter Tryz.func19, Tryz.ntmps19
  go_wp2_with fail
  obtain ⟨s, hs⟩ : ∃ s, w.heap.size = s := ⟨_, rfl⟩
  rw [hs] at P0 F0 ⊢
  generalize hw0 : (w.alloc (ptO emp none 0 0)).alloc (.cells #[.int .i64 0, .int .i64 0] 43) = w0 at *
  replace hw0 := Lib.hid hw0
  refine (RW.out _).mono ?_
  rintro e w1 ⟨rs, b, v, hres, hb, rfl, hv⟩
  have X1 := Lib.hid (show HoldsB w1 s 37 #[.string emp, .slice none 0 0] ∧ HoldsB w1 (s + 1) 43 #[.int .i64 0, .int .i64 0] ∧ Below w.heap.size w w1 ∧ s + 1 < w1.heap.size from ⟨P0.out.later hb, F0.out.later hb, w_below B0.out hb, (F0.out.later hb).lt⟩)
  have T1 := Lib.hid (T0.out.later hb)
  have HR := Lib.hid hv
  have HQ := Lib.hid hres
  clear P0 F0 B0 T0 hb hv hres RW hw0
  have NB := Lib.hid (HoldsB.new w1 43 #[.int .i64 0, .int .i64 0])
  have BA := Lib.hid (w_alloc (w_refl w1) (.cells #[.int .i64 0, .int .i64 0] 43))
  obtain ⟨⟨f1, f2⟩, hf⟩ : ∃ f : Int × Int, f = (fE b, fA b) := ⟨_, rfl⟩
  have e1 : fE b = f1 := (congrArg Prod.fst hf).symm
  have e2 : fA b = f2 := (congrArg Prod.snd hf).symm
  rw [e1, e2]
  replace e1 := Lib.hid e1
  replace e2 := Lib.hid e2
  clear hf
  go_wp2_with (first | (refine wl_row 43 w1.heap.size _ _ #[.int .i64 f1, .int .i64 f2] NB.out (by kernel_rfl) (by kernel_rfl) (by kernel_rfl) rfl (by kernel_rfl) ?_) | fail)
  intro W5 h5 hB5 ho
  clear ho
  have K5 := Lib.hid (hB5 _ _ BA.out (Nat.le_refl _))
  have X5 := Lib.hid (show PrX w W5 s w1.heap.size (f1, f2) from ⟨X1.out.1.later K5.out, X1.out.2.1.later K5.out, h5, w_below X1.out.2.2.1 K5.out, hs, X1.out.2.2.2⟩)
  clear X1 NB BA h5 hB5
  obtain ⟨m, hm⟩ : ∃ m, w1.heap.size = m := ⟨_, rfl⟩
  rw [hm] at X5 ⊢
  replace hm := Lib.hid hm
  clear hs
  cases b with
  | some f =>
    have fin := Lib.hid (prs_bad HQ.out)
    have hf1 := (rows_fault HQ.out).1
    obtain ⟨g1, g2⟩ := f
    have r1 : g1 = f1 := e1.out
    have r2 : g2 = f2 := e2.out
    subst r1 r2
    have hne : (g1 != 0) = true := by simpa using hf1
    have c0 := X5.out.ft.cell (j := 0) rfl
    have c1 := X5.out.ft.cell (j := 1) rfl
    have p0 := X5.out.p.cell (j := 0) rfl
    have p1 := X5.out.p.cell (j := 1) rfl
    have q0 := X5.out.q.cell (j := 0) rfl
    have q1 := X5.out.q.cell (j := 1) rfl
    have pf := X5.out.p.frozen
    have qf := X5.out.q.frozen
    have hsm := Nat.ne_of_lt (Nat.lt_of_succ_lt X5.out.hm)
    have hsm1 := Nat.ne_of_lt X5.out.hm
    have hss := Nat.ne_of_lt (Nat.lt_succ_self s)
    clear HQ HR T1 hf1 e1 e2
    go_wp2_with fail
    go_region
    have Z := Lib.hid (X5.out.fin (g1, g2))
    unfold layP at Z
    clear c0 c1 p0 p1 q0 q1 pf qf hsm hsm1 hss
    generalize World.drew _ = W9 at *
    go_wp2_with fail
    refine bodyPost_ret (v := .tuple #[ptv emp none 0 0, ftV (g1, g2)]) ?_ rfl (PrP.bad fin.out Z.out.2.2)
    exact res_pf rfl (by kernel_rfl) (by kernel_rfl) Z.out.1 Z.out.2.1
  | none =>
    have r1 : 0 = f1 := e1.out
    have r2 : 0 = f2 := e2.out
    subst r1 r2
    have hne : ((0 : Int) != 0) = false := rfl
    clear e1 e2
    obtain ⟨p, cap, rfl, g1, g2⟩ := rows_nil HR.out
    obtain ⟨hmd, hnz, _, _⟩ := rows_mod HQ.out
    replace hmd := Lib.hid hmd
    replace hnz := Lib.hid hnz
    by_cases h0 : 0 < rs.length
    · have h0n : ((rs.length : Int) == 0) = false := by rw [beq_eq_false_iff_ne]; omega
      have hP := Lib.hid (prs_some HQ.out h0)
      have HR5 := Lib.hid (HR.out.later K5.out)
      obtain ⟨bR, oR, cR, p2, c2, e, _, _, _, r0, r1, hwd⟩ := rows_at HR5.out 0 h0
      simp only [Value.slice.injEq, true_and] at e
      obtain ⟨rfl, rfl⟩ := e
      simp only [Nat.zero_mul, Nat.add_zero] at r0 r1
      have h0' : (0 : Int) < rs.length := by omega
      have hmem := getR_mem h0
      have hw0 := hnz.out _ hmem
      have hwl := (hmd.out.2 _ hmem).1
      have hws := Lib.hid (hmd.out.2 _ hmem).2
      have HW1 := Lib.hid (show WordsV w1 (.slice p2 (rs.getD 0 noRw).words.length c2) (rs.getD 0 noRw).words from by
        obtain ⟨_, _, _, _, _, e', _, _, _, x0, x1, hw'⟩ := rows_at HR.out 0 h0
        simp only [Value.slice.injEq, true_and, Option.some.injEq, Addr.mk.injEq, and_true] at e'
        obtain ⟨⟨rfl, rfl⟩, rfl⟩ := e'
        have y1 := cell_later K5.out x1
        simp only [Nat.zero_mul, Nat.add_zero] at y1
        rw [y1] at r1
        simp only [Option.some.injEq, Value.slice.injEq, true_and] at r1
        obtain ⟨rfl, rfl⟩ := r1
        exact hw')
      have RD := Lib.hid (show ∀ r ∈ rs.drop 1, 0 < r.words.length from fun r hr => hnz.out r (List.mem_of_mem_drop hr))
      have MD := Lib.hid (show Modest (rs.drop 1) from ⟨by rw [List.length_drop]; have := hmd.out.1; omega, fun r hr => hmd.out.2 r (List.mem_of_mem_drop hr)⟩)
      clear hwd hmem hnz HQ HR5
      generalize (rs.getD 0 noRw).words = ws at *
      have PH := Lib.hid (fun V (h : WordsV V (.slice p2 ws.length c2) ws) => phead_any _ ws hw0 (fun x hx => Nat.le_trans (hws.out x hx) (by decide)) V h)
      have HZ := Lib.hid (fun h => head_zero (ws := ws) h)
      have E1 := Lib.hid (fun h => ht_head (n := T.size) (ws := ws) (rs := rs.drop 1) h)
      have E2 := Lib.hid (fun h k => ht_body (n := T.size) (ws := ws) (rs := rs.drop 1) h k)
      have E3 := Lib.hid (fun B c h hB k hc z => ht_chk (n := T.size) (ws := ws) (rs := rs.drop 1) (B := B) (c := c) h hB k hc z)
      have E4 := Lib.hid (fun B h hB k z => ht_ok (n := T.size) (ws := ws) (rs := rs.drop 1) (B := B) h hB k z)
      generalize headE ws = he at *
      obtain ⟨h1, h2⟩ := he
      have c0 := X5.out.ft.cell (j := 0) rfl
      go_wp2_with fail
      refine (PH.out _ (HW1.out.later K5.out)).mono ?_
      rintro e w6 ⟨rfl, hb⟩
      have X6 := Lib.hid (X5.out.later hb)
      have K6 := Lib.hid (w_below K5.out hb)
      clear hb PH X5 K5 r0 r1 c0
      have NB := Lib.hid (HoldsB.new w6 43 #[.int .i64 0, .int .i64 0])
      have BA := Lib.hid (w_alloc (w_refl w6) (.cells #[.int .i64 0, .int .i64 0] 43))
      unfold ftV
      simp only
      go_wp2_with (first | (refine wl_row 43 w6.heap.size _ _ #[.int .i64 h1, .int .i64 h2] NB.out (by kernel_rfl) (by kernel_rfl) (by kernel_rfl) rfl (by kernel_rfl) ?_) | fail)
      intro W7 h7 hB7 ho
      clear ho
      have b7 := hB7 _ _ BA.out (Nat.le_refl _)
      have X7 := Lib.hid (X6.out.later b7)
      have K7 := Lib.hid (w_below K6.out b7)
      have hmt := Lib.hid X6.out.ft.lt
      have Y7 := Lib.hid (show PrX w W7 s w6.heap.size (h1, h2) from ⟨X7.out.p, X7.out.q, h7, X7.out.bel, X7.out.hb, Nat.lt_trans X7.out.hm hmt.out⟩)
      clear NB BA h7 hB7 b7 X6 K6 hmt
      obtain ⟨m7, hm7⟩ : ∃ m7, w6.heap.size = m7 := ⟨_, rfl⟩
      rw [hm7] at Y7 ⊢
      clear hm7
      by_cases hh : h1 = 0
      · subst hh
        have c0 := Y7.out.ft.cell (j := 0) rfl
        replace HZ := Lib.hid (HZ.out rfl)
        replace E2 := Lib.hid (E2.out rfl)
        replace E3 := Lib.hid (fun B c => E3.out B c rfl)
        replace E4 := Lib.hid (fun B => E4.out B rfl)
        clear E1
        have BD := Lib.hid (fun V (h : RowsV V (.slice (dropR (some ⟨bR, oR, none⟩) cap 1) (rs.length - 1) (cap - 1)) (rs.drop 1)) (S : TabS V) => pbody_any _ (rs.drop 1) T.size MD.out RD.out V h S)
        unfold ByPost at BD
        have HD := Lib.hid (rowsV_drop (HR.out.later K7.out) 1 _ h0 rfl)
        have T7 := Lib.hid (T1.out.later K7.out)
        have BL := Lib.hid (body_len T.size (rs.drop 1) [] [] rfl)
        generalize hB : bodyV T.size (rs.drop 1) [] [] = B at *
        replace hB := Lib.hid hB
        obtain ⟨zs, us, b1, b2⟩ := B
        simp only at BD BL
        have hdq : (if cap = 1 then (some ⟨bR, oR, none⟩ : Option Addr) else some ⟨bR, oR + 2, none⟩) = dropR (some ⟨bR, oR, none⟩) cap 1 := by unfold dropR; split <;> simp [add_none]
        have h1c : (1 : Int) ≤ rs.length := by omega
        have h1n : (1 : Int) ≤ cap := by omega
        generalize hpd : dropR (some ⟨bR, oR, none⟩) cap 1 = pd at *
        clear hpd HR MD RD
        go_wp2_with fail
        refine (BD.out _ HD.out T7.out).mono ?_
        rintro e w8 ⟨a, bv, rfl, hS, hI⟩
        clear BD HD hdq c0 T7
        have X8 := Lib.hid (X7.out.later hS.bel)
        have K8 := Lib.hid (w_below K7.out hS.bel)
        have SO := Lib.hid hS.row
        have IO := Lib.hid hI.row
        have hmW := Lib.hid (show m < W7.heap.size from X7.out.ft.lt)
        obtain ⟨qS, cS, rfl⟩ := hS.val
        obtain ⟨qI, cI, rfl⟩ := hI.val
        clear hS hI X7 K7 Y7
        unfold ftV
        simp only
        go_wp2_with (first | (refine wl_row 43 m _ _ #[.int .i64 b1, .int .i64 b2] X8.out.ft (by kernel_rfl) (by kernel_rfl) (by kernel_rfl) rfl (by kernel_rfl) ?_) | fail)
        intro W9 h9 hB9 ho
        have K9 := Lib.hid (hB9 _ _ K8.out (by rw [hm.out]; exact Nat.le_refl _))
        have SP := Lib.hid (own_rest SO.out (own_not SO.out hmW.out) ho)
        have IP := Lib.hid (own_rest IO.out (own_not IO.out hmW.out) ho)
        have X9 := Lib.hid (show PrX w W9 s m (b1, b2) from ⟨X8.out.p.over (ho _ (Nat.ne_of_lt (Nat.lt_of_succ_lt X8.out.hm))), X8.out.q.over (ho _ (Nat.ne_of_lt X8.out.hm)), h9, hB9 _ _ X8.out.bel (by have := X8.out.hm; have := X8.out.hb; omega), X8.out.hb, X8.out.hm⟩)
        have hsB := Lib.hid (show s + 1 < W7.heap.size from Nat.lt_trans X8.out.hm hmW.out)
        clear h9 hB9 ho X8 K8 SO IO hmW
        by_cases hb1 : b1 = 0
        · subst hb1
          have c0 := X9.out.ft.cell (j := 0) rfl
          obtain ⟨hz1, hz2, hz3, hz4⟩ := HZ.out
          have hw2 : (1 : Int) < ws.length := by omega
          have HW9 := Lib.hid (HW1.out.later K9.out)
          obtain ⟨p4, c4, e4, hw4⟩ := HW9.out
          simp only [Value.slice.injEq, true_and] at e4
          obtain ⟨rfl, rfl⟩ := e4
          obtain ⟨bw, ow, rfl, y0, y1, y2⟩ := words_at hw4 1 (by omega)
          have wfit := hw4.fit
          have wmax := hw4.max
          have hnm := hws.out _ (getD_mem (k := 1) (by omega))
          have PC := Lib.hid (fun W h S => pchk_any (ws.getD 1 noWd).text (Nat.le_trans hnm (by unfold maxLen; decide)) zs qS cS W h S)
          have hch := chk_lt (l := zs)
          rw [hz4] at PC E3 E4
          have E3' := Lib.hid (fun z => E3.out _ _ rfl rfl rfl z)
          have E4' := Lib.hid (fun z => E4.out _ rfl rfl z)
          simp only at E3' E4'
          generalize chkV true zs = ch at *
          obtain ⟨ce, cn⟩ := ch
          simp only at hch E3' E4' PC
          generalize (ws.getD 1 noWd).text = nm at *
          simp only [Nat.one_mul] at y1
          clear y0 y2 hw4 HZ E2 E3 E4 hz1 hz2 hz3 hz4 hnm hws HW1 HW9
          have NB := Lib.hid (HoldsB.new W9 37 #[.string emp, .slice none 0 0])
          have BA := Lib.hid (w_alloc (w_refl W9) (.cells #[.string emp, .slice none 0 0] 37))
          have y1' := cell_later BA.out y1
          go_wp2_with (first | (refine wl_row 37 W9.heap.size _ _ #[.string nm, .slice qS zs.length cS] NB.out (by kernel_rfl) (by kernel_rfl) (by kernel_rfl) rfl (by kernel_rfl) ?_) | fail)
          intro Wa ha hBa ho
          clear ho y1 y1' c0
          have ba := hBa _ _ BA.out (Nat.le_refl _)
          have Xa := Lib.hid (X9.out.later ba)
          have Ka := Lib.hid (w_below K9.out ba)
          have Sa := Lib.hid (own_keep SP.out ba (by omega))
          have Ia := Lib.hid (own_keep IP.out ba (by omega))
          have hma' := Lib.hid (show m < W9.heap.size from X9.out.ft.lt)
          obtain ⟨ma, hma⟩ : ∃ ma, W9.heap.size = ma := ⟨_, rfl⟩
          rw [hma] at ha hma' ⊢
          have Na := Lib.hid ha
          clear hma ha hBa ba NB BA X9 K9 SP IP
          have n0 := Na.out.cell (j := 0) rfl
          have n1 := Na.out.cell (j := 1) rfl
          go_wp2_with fail
          refine (PC.out _ (sg_val Sa.out) (T1.out.later Ka.out)).mono ?_
          rintro e wb ⟨rfl, hb⟩
          have Xb := Lib.hid (Xa.out.later hb)
          have Nb := Lib.hid (Na.out.later hb)
          have Sb := Lib.hid (own_keep Sa.out hb (by have := hsB.out; omega))
          have Ib := Lib.hid (own_keep Ia.out hb (by have := hsB.out; omega))
          clear hb n0 n1 Xa Na Sa Ia Ka PC
          by_cases hce : ce = 0
          · subst hce
            have hc0 : ((0 : Int) != 0) = false := rfl
            have fin := Lib.hid (show prsV T = ((nm, zs), (0, 0)) by rw [hP.out, E4'.out rfl])
            have n0 := Nb.out.cell (j := 0) rfl
            have n1 := Nb.out.cell (j := 1) rfl
            go_wp2_with (first | (refine wl_row 37 s _ _ #[.string nm, .slice qS zs.length cS] Xb.out.p (by kernel_rfl) (by kernel_rfl) (by kernel_rfl) rfl (by kernel_rfl) ?_) | fail)
            intro Wc hc hBc hoc
            have Bc := Lib.hid (hBc _ _ Xb.out.bel (by rw [Xb.out.hb]; exact Nat.le_refl _))
            have Sc := Lib.hid (own_rest Sb.out (own_not Sb.out (by have := hsB.out; omega)) hoc)
            have Qc := Lib.hid (Xb.out.q.over (hoc _ (by omega)))
            have Pc := Lib.hid hc
            clear hc hBc hoc n0 n1
            go_wp2_with (first | (refine wl_row 43 (s + 1) _ _ #[.int .i64 0, .int .i64 0] Qc.out (by kernel_rfl) (by kernel_rfl) (by kernel_rfl) rfl (by kernel_rfl) ?_) | fail)
            intro Wd hd hBd hod
            have Bd := Lib.hid (hBd _ _ Bc.out (by rw [Xb.out.hb]; omega))
            have Sd := Lib.hid (own_rest Sc.out (own_not Sc.out hsB.out) hod)
            have Pd := Lib.hid (Pc.out.over (hod _ (by omega)))
            have Qd := Lib.hid hd
            clear hd hBd hod Xb Sb Sc Qc Pc Bc
            go_wp2_with fail
            refine bodyPost_ret (v := .tuple #[ptv nm qS zs.length cS, ftV (0, 0)]) ?_ rfl ?_
            · exact res_pf rfl (by kernel_rfl) (by kernel_rfl) Pd.out Qd.out
            · rw [fin.out]; exact ⟨qS, cS, rfl, sg_val Sd.out, Bd.out⟩
          · have hne1 : (ce != 0) = true := by simpa using hce
            have hcl := hch hce
            rw [BL] at hcl
            obtain ⟨bI, oI, rfl, _, fI, mI, cI⟩ := int_cell Ib.out hcl
            have fin := Lib.hid (show prsV T = (noP, (ce, us.getD cn 0)) by rw [hP.out, E3'.out hce])
            have hbI := (Ib.out.lt bI rfl).1
            have hsI : s ≠ bI := by have := hsB.out; omega
            have hsI1 : s + 1 ≠ bI := by have := hsB.out; omega
            have hk0 : (0 : Int) ≤ cn := by omega
            have hcn : (cn : Int) < us.length := by omega
            generalize us.getD cn 0 = x at *
            have c0 := Xb.out.ft.cell (j := 0) rfl
            have c1 := Xb.out.ft.cell (j := 1) rfl
            have p0 := Xb.out.p.cell (j := 0) rfl
            have p1 := Xb.out.p.cell (j := 1) rfl
            have q0 := Xb.out.q.cell (j := 0) rfl
            have q1 := Xb.out.q.cell (j := 1) rfl
            have pf := Xb.out.p.frozen
            have qf := Xb.out.q.frozen
            have hsm := Nat.ne_of_lt (Nat.lt_of_succ_lt Xb.out.hm)
            have hsm1 := Nat.ne_of_lt Xb.out.hm
            have hss := Nat.ne_of_lt (Nat.lt_succ_self s)
            clear E3' E4' hP hch hce Sb Ib Nb hbI hcl BL
            go_wp2_with fail
            go_region
            have Z := Lib.hid (Xb.out.fin (ce, x))
            unfold layP at Z
            clear c0 c1 p0 p1 q0 q1 pf qf hsm hsm1 hss
            generalize World.drew _ = W9 at *
            go_wp2_with fail
            refine bodyPost_ret (v := .tuple #[ptv emp none 0 0, ftV (ce, x)]) ?_ rfl (PrP.bad fin.out Z.out.2.2)
            exact res_pf rfl (by kernel_rfl) (by kernel_rfl) Z.out.1 Z.out.2.1
        · have hne1 : (b1 != 0) = true := by simpa using hb1
          have fin := Lib.hid (show prsV T = (noP, (b1, b2)) by rw [hP.out, E2.out hb1])
          have c0 := X9.out.ft.cell (j := 0) rfl
          have c1 := X9.out.ft.cell (j := 1) rfl
          have p0 := X9.out.p.cell (j := 0) rfl
          have p1 := X9.out.p.cell (j := 1) rfl
          have q0 := X9.out.q.cell (j := 0) rfl
          have q1 := X9.out.q.cell (j := 1) rfl
          have pf := X9.out.p.frozen
          have qf := X9.out.q.frozen
          have hsm := Nat.ne_of_lt (Nat.lt_of_succ_lt X9.out.hm)
          have hsm1 := Nat.ne_of_lt X9.out.hm
          have hss := Nat.ne_of_lt (Nat.lt_succ_self s)
          clear HZ E2 E3 E4 hP hb1 SP IP
          go_wp2_with fail
          go_region
          have Z := Lib.hid (X9.out.fin (b1, b2))
          unfold layP at Z
          clear c0 c1 p0 p1 q0 q1 pf qf hsm hsm1 hss
          generalize World.drew _ = W9 at *
          go_wp2_with fail
          refine bodyPost_ret (v := .tuple #[ptv emp none 0 0, ftV (b1, b2)]) ?_ rfl (PrP.bad fin.out Z.out.2.2)
          exact res_pf rfl (by kernel_rfl) (by kernel_rfl) Z.out.1 Z.out.2.1
      · have hne1 : (h1 != 0) = true := by simpa using hh
        have fin := Lib.hid (show prsV T = (noP, (h1, h2)) by rw [hP.out, E1.out hh])
        have c0 := Y7.out.ft.cell (j := 0) rfl
        have c1 := Y7.out.ft.cell (j := 1) rfl
        have p0 := Y7.out.p.cell (j := 0) rfl
        have p1 := Y7.out.p.cell (j := 1) rfl
        have q0 := Y7.out.q.cell (j := 0) rfl
        have q1 := Y7.out.q.cell (j := 1) rfl
        have pf := Y7.out.p.frozen
        have qf := Y7.out.q.frozen
        have hsm := Nat.ne_of_lt (Nat.lt_of_succ_lt Y7.out.hm)
        have hsm1 := Nat.ne_of_lt Y7.out.hm
        have hss := Nat.ne_of_lt (Nat.lt_succ_self s)
        clear HZ E1 E2 E3 E4 hP hh X7 MD RD
        go_wp2_with fail
        go_region
        have Z := Lib.hid (Y7.out.fin (h1, h2))
        unfold layP at Z
        clear c0 c1 p0 p1 q0 q1 pf qf hsm hsm1 hss
        generalize World.drew _ = W9 at *
        go_wp2_with fail
        refine bodyPost_ret (v := .tuple #[ptv emp none 0 0, ftV (h1, h2)]) ?_ rfl (PrP.bad fin.out Z.out.2.2)
        exact res_pf rfl (by kernel_rfl) (by kernel_rfl) Z.out.1 Z.out.2.1
    · obtain rfl : rs = [] := List.length_eq_zero_iff.1 (by omega)
      have fin := Lib.hid (prs_nil HQ.out)
      have c0 := X5.out.ft.cell (j := 0) rfl
      go_wp2_with (first | (refine wl_row 37 s _ _ #[.string emp, .slice none 0 0] X5.out.p (by kernel_rfl) (by kernel_rfl) (by kernel_rfl) rfl (by kernel_rfl) ?_) | fail)
      intro Wc hc hBc hoc
      have Bc := Lib.hid (hBc _ _ X5.out.bel (by rw [X5.out.hb]; exact Nat.le_refl _))
      have Qc := Lib.hid (X5.out.q.over (hoc _ (by omega)))
      have Pc := Lib.hid hc
      clear hc hBc hoc c0
      go_wp2_with (first | (refine wl_row 43 (s + 1) _ _ #[.int .i64 9, .int .i64 T.size] Qc.out (by kernel_rfl) (by kernel_rfl) (by kernel_rfl) rfl (by kernel_rfl) ?_) | fail)
      intro Wd hd hBd hod
      have Bd := Lib.hid (hBd _ _ Bc.out (by rw [X5.out.hb]; omega))
      have Pd := Lib.hid (Pc.out.over (hod _ (by omega)))
      have Qd := Lib.hid hd
      clear hd hBd hod
      go_wp2_with fail
      refine bodyPost_ret (v := .tuple #[ptv emp none 0 0, ftV (9, (T.size : Int))]) ?_ rfl (PrP.bad fin.out Bd.out)
      exact res_pf rfl (by kernel_rfl) (by kernel_rfl) Pd.out Qd.out
end Go.Proofs.YtdmedealdhadcaaGreatDoor

namespace Go.Proofs.YtdmedealdhadcaaGreatDoor
open Go.RowKit
set_option maxHeartbeats 400000 in
theorem mod_pos (a m : Int) (w : World) (ha : 0 ≤ a) (ha1 : a ≤ 9223372036854775807) (hm : 1 ≤ m) (hm1 : m ≤ 1099511627776) :
    Calls Tryz.prog 31 #[.int .i64 a, .int .i64 m] w fun e w' => e = .returned (.int .i64 (a % m)) ∧ w = w' := by
  have r0 := Int.emod_nonneg a (show m ≠ 0 by omega)
  have r1 := Int.emod_lt_of_pos a (show 0 < m by omega)
  go_enter Tryz.func31, Tryz.ntmps31
  go_wp2
  go_ret
  exact ⟨rfl, rfl⟩
set_option maxHeartbeats 400000 in
theorem mod_neg (a m : Int) (w : World) (ha : a < 0) (ha1 : -9223372036854775808 ≤ a) (hm : 1 ≤ m) (hm1 : m ≤ 1099511627776) :
    Calls Tryz.prog 31 #[.int .i64 a, .int .i64 m] w fun e w' => e = .returned (.int .i64 (a % m)) ∧ w = w' := by
  have r0 := Int.emod_nonneg a (show m ≠ 0 by omega)
  have r1 := Int.emod_lt_of_pos a (show 0 < m by omega)
  have t0 : a.tmod m ≤ 0 := by
    have := Int.tmod_nonneg (a := -a) m (by omega)
    rw [Int.neg_tmod] at this; omega
  have t1 : -m < a.tmod m := by
    have := Int.tmod_lt_of_pos (-a) (show 0 < m by omega)
    rw [Int.neg_tmod] at this; omega
  by_cases hd : m ∣ a
  · have e := Lib.hid (Int.tmod_eq_emod (a := a) (b := m))
    have e2 := Lib.hid (show a.tmod m = a % m by rw [e.out, if_pos (.inr hd)]; simp)
    have e3 : 0 ≤ a.tmod m := by rw [e2.out]; exact r0
    clear e hd
    go_enter Tryz.func31, Tryz.ntmps31
    go_wp2
    go_ret
    rw [e2.out]; exact ⟨rfl, rfl⟩
  · have e := Lib.hid (Int.tmod_eq_emod (a := a) (b := m))
    have e2 := Lib.hid (show a.tmod m + m = a % m by rw [e.out, if_neg (by omega)]; omega)
    have e3 : a.tmod m < 0 := by have := e2.out; omega
    clear e hd
    go_enter Tryz.func31, Tryz.ntmps31
    go_wp2
    go_ret
    rw [e2.out]; exact ⟨rfl, rfl⟩
theorem mod_any (a m : Int) (w : World) (ha : -9223372036854775808 ≤ a) (ha1 : a ≤ 9223372036854775807) (hm : 1 ≤ m) (hm1 : m ≤ 1099511627776) :
    Calls Tryz.prog 31 #[.int .i64 a, .int .i64 m] w fun e w' => e = .returned (.int .i64 (a % m)) ∧ w = w' := by
  by_cases h : 0 ≤ a
  · exact mod_pos a m w h ha1 hm hm1
  · exact mod_neg a m w (by omega) ha hm hm1
end Go.Proofs.YtdmedealdhadcaaGreatDoor

namespace Go.Proofs.YtdmedealdhadcaaGreatDoor
open Go.RowKit
/-- Two lists are equal. -/
def eqG (l m : List Sg) : Bool := decide (l = m)
theorem eqG_len {l m : List Sg} (h : l.length ≠ m.length) : eqG l m = false := decide_eq_false (fun e => h (by rw [e]))
theorem eqG_no {l m : List Sg} {k : Nat} (h : sgE (l.getD k zS) (m.getD k zS) = false) : eqG l m = false := decide_eq_false (fun e => by
  subst e
  rw [(sgE_iff _ _).2 rfl] at h; cases h)
theorem eqG_yes {l m : List Sg} (hl : l.length = m.length) (h : ∀ k, k < l.length → sgE (l.getD k zS) (m.getD k zS) = true) : eqG l m = true := decide_eq_true (by
  apply List.ext_getElem?
  intro k
  by_cases hk : k < l.length
  · rw [sg_some hk, sg_some (by omega), (sgE_iff _ _).1 (h k hk)]
  · rw [List.getElem?_eq_none (by omega), List.getElem?_eq_none (by omega)])
def samP (a b : ByteArray) (l m : List Sg) : Bool := (a.toList == b.toList) && eqG l m
set_option maxRecDepth 100000 in
set_option maxHeartbeats 4000000 in
theorem rsms_any (p q : Option Addr) (cp cq : Nat) (l m : List Sg) (w : World) (hp : SlP w 17 p l.length cp (flatG l)) (hq : SlP w 17 q m.length cq (flatG m)) :
    Calls Tryz.prog 50 #[.slice p l.length cp, .slice q m.length cq] w fun e w' => e = .returned (.bool (eqG l m)) ∧ Below w.heap.size w w' := by
  have f1 := hp.fit
  have f2 := hq.fit
  have m1 := hp.max
  have m2 := hq.max
  by_cases hl : l.length = m.length
  case neg =>
    rw [eqG_len hl]
    have hne : ((l.length : Int) != m.length) = true := by simp; omega
    clear hp hq hl
    go_enter Tryz.func50, Tryz.ntmps50
    go_wp2_with fail
    go_ret
    exact ⟨rfl, w_refl w⟩
  have HP := Lib.hid hp
  have HQ := Lib.hid hq
  have EN := Lib.hid (fun k h => eqG_no (l := l) (m := m) (k := k) h)
  have EY := Lib.hid (fun h => eqG_yes hl h)
  have HM := Lib.hid (show ∀ k, k < l.length → k < m.length from fun k h => by omega)
  rw [← hl] at f2 ⊢
  clear hp hq hl
  generalize eqG l m = B at *
  go_enter Tryz.func50, Tryz.ntmps50
  go_wp2_with fail
  go_loopw [5] (fun i wr => ∃ k : Nat, k ≤ l.length ∧ i = .int .i64 k ∧ Hid (∀ j, j < k → sgE (l.getD j zS) (m.getD j zS) = true) ∧ Hid (Below w.heap.size w wr)) (fun i _ => l.length - (intOf i).toNat)
  case atStart => exact ⟨0, by omega, rfl, Lib.hid (fun j hj => by omega), Lib.hid (w_refl w)⟩
  case round =>
    obtain ⟨k, hk, rfl, hall, hb⟩ := hrel
    rename World => wr
    by_cases hlt : k < l.length
    · have hlt' : (k : Int) < l.length := by omega
      have hk0 : (0 : Int) ≤ k := by omega
      obtain ⟨b, off, rfl, _, hc⟩ := (HP.out.later hb.out).sg (sg_some hlt)
      obtain ⟨b', off', rfl, _, hd⟩ := (HQ.out.later hb.out).sg (sg_some (HM.out k hlt))
      have c0 := Lib.hid hc
      have d0 := Lib.hid hd
      have ENk := Lib.hid (EN.out k)
      obtain ⟨s, hs⟩ : ∃ s, l.getD k zS = s := ⟨_, rfl⟩
      obtain ⟨t, ht⟩ : ∃ t, m.getD k zS = t := ⟨_, rfl⟩
      rw [hs] at c0 ENk
      rw [ht] at d0 ENk
      have HST := Lib.hid (show sgE s t = true → ∀ j, j < k + 1 → sgE (l.getD j zS) (m.getD j zS) = true from fun h j hj => by
        by_cases e : j = k
        · rw [e, hs, ht]; exact h
        · exact hall.out j (by omega))
      have hneq := fun W => sg_neq s t W
      have hgrd := fun x y W => sg_guard BinOp.neq x y s t W
      clear hc hd hs ht EN hall
      go_wp2_with fail
      go_cut [25] (fun s24 wx => s24 = .bool (!(sgE s t)) ∧ Hid (Below wr.heap.size wr wx))
      case first =>
        clear ENk EY HM HST
        refine wp_region_grown (by kernel_rfl) (by kernel_rfl) ?_
        go_big_quiet_step (fail)
        go_big_quiet_step (fail)
        go_big_quiet_step (fail)
        refine quiet_load (v := sgv s) (sg_yields (.tmp 19) b (off + k * 17) s (by kernel_rfl) rfl (by kernel_rfl) (fun _ ⟨n, e⟩ => e ▸ (c0.out.later n.b))) (by simp only [Act.put, List.setIfInBounds_toArray, List.set_cons_succ, List.set_cons_zero]; rfl) ?_
        go_big_quiet_step (fail)
        go_big_quiet_step (fail)
        go_big_quiet_step (fail)
        refine quiet_load (v := sgv t) (sg_yields (.tmp 23) b' (off' + k * 17) t (by kernel_rfl) rfl (by kernel_rfl) (fun _ ⟨n, e⟩ => e ▸ (d0.out.later n.b))) (by simp only [Act.put, List.setIfInBounds_toArray, List.set_cons_succ, List.set_cons_zero]; rfl) ?_
        go_big_quiet_step (fail)
        refine wpQuiet_nil ?_
        intro n
        go_wp2_with fail
        go_meet
        exact ⟨rfl, Lib.hid n.b⟩
      case rest =>
        obtain ⟨rfl, hb2⟩ := hcut
        have hB := Lib.hid (w_below hb.out hb2.out)
        clear hneq hgrd c0 d0 hb2
        cases hx : sgE s t with
        | false =>
          have hE := Lib.hid (ENk.out hx)
          clear ENk EY HM HST
          go_wp2_with fail
          go_ret
          exact ⟨by rw [hE.out]; first | done | rfl, hB.out⟩
        | true =>
          have hall2 := Lib.hid (HST.out hx)
          clear ENk EY HM HST hx
          go_wp2_with fail
          go_roundw
          case rel => exact ⟨k + 1, by omega, by go_num, hall2, hB⟩
          case measure => simp [intOf]; omega
    · obtain rfl : k = l.length := by omega
      have hE := Lib.hid (EY.out hall.out)
      clear EN EY HM hall
      go_wp2_with fail
      go_ret
      exact ⟨by rw [hE.out]; first | done | rfl, hb.out⟩
set_option maxRecDepth 100000 in
set_option maxHeartbeats 4000000 in
theorem rsam_any (a b : ByteArray) (p q : Option Addr) (cp cq : Nat) (l m : List Sg) (w : World) (hp : SlP w 17 p l.length cp (flatG l)) (hq : SlP w 17 q m.length cq (flatG m)) :
    Calls Tryz.prog 18 #[ptv a p l.length cp, ptv b q m.length cq] w fun e w' => e = .returned (.bool (samP a b l m)) ∧ Below w.heap.size w w' := by
  have H1 := Lib.hid ((pt_new w a p l.length cp).al (ptO b q m.length cq))
  have H2 := Lib.hid (pt_new (w.alloc (ptO a p l.length cp)) b q m.length cq)
  rw [World.size_alloc] at H2
  have B2 := Lib.hid (w_alloc (w_alloc (w_refl w) (ptO a p l.length cp)) (ptO b q m.length cq))
  have CE := Lib.hid (rsms_any p q cp cq l m _ (hp.later B2.out) (hq.later B2.out))
  have HS := Lib.hid (show samP a b l m = ((a.toList == b.toList) && eqG l m) from rfl)
  have k0 := H1.out.cell (j := 0) rfl
  have k1 := H1.out.cell (j := 1) rfl
  have j0 := H2.out.cell (j := 0) rfl
  have j1 := H2.out.cell (j := 1) rfl
  generalize samP a b l m = S at *
  generalize eqG l m = G at *
  cases hab : (a.toList == b.toList) with
  | true =>
    rw [hab, Bool.true_and] at HS
    clear hp hq H1 H2
    go_enter Tryz.func18, Tryz.ntmps18
    go_wp2_with fail
    refine CE.out.mono ?_
    rintro e w1 ⟨rfl, hb⟩
    have hB := Lib.hid (w_below B2.out hb)
    clear hb CE
    go_wp2_with fail
    go_ret
    exact ⟨by rw [HS.out]; first | done | rfl, hB.out⟩
  | false =>
    rw [hab, Bool.false_and] at HS
    clear hp hq H1 H2 CE
    go_enter Tryz.func18, Tryz.ntmps18
    go_wp2_with fail
    go_ret
    exact ⟨by rw [HS.out]; first | done | rfl, B2.out⟩
end Go.Proofs.YtdmedealdhadcaaGreatDoor

namespace Go.Proofs.YtdmedealdhadcaaGreatDoor
open Go.RowKit
/-! ### Lists of signs that are written out (out of stage 8's texts) -/
def litO (l : List Sg) : Obj := .cells (flatG l).toArray 27
theorem lit_sl (w : World) (l : List Sg) (hn : l.length ≤ 1000) : SlP (w.alloc (litO l)) 17 (some ⟨w.heap.size, 0, none⟩) l.length l.length (flatG l) :=
  ⟨flatG_len l, Nat.le_refl _, by omega, fun e => (by cases e), flatG_one l, fun _ => ⟨w.heap.size, 0, rfl, by simp, fun j u hj => by
    rw [Nat.zero_add]
    exact (HoldsB.new w 27 (flatG l).toArray).cell (by rw [← Array.getElem?_toList]; exact hj)⟩⟩
set_option maxHeartbeats 4000000 in
theorem run_lit4 (s t u v : Sg) (w : World) : (Instr.buildSlice 35 4 #[(0, sgv s), (1, sgv t), (2, sgv u), (3, sgv v)]).run Tryz.prog w = .ok (.slice (some ⟨w.heap.size, 0, none⟩) 4 4) (w.alloc (litO [s, t, u, v])) := by
  unfold litO flatG flatG flatG flatG flatG sgL sgv sgA
  simp [Instr.buildSlice, newRow, go_sem]
section
variable {ops : Array Oper} {rest : List Oper} {dd : Option Tmp} {t : TypeId} {ps : String} {af : Array Edge} {a : Act} {Q : Exit → Act → World → Prop}
theorem wl_lit {w : World} {g : Option (Nat × Bool)} (n : Nat) (parts : Array (Nat × Operand)) (l : List Sg) (vs : Array (Nat × Value)) (hv : (parts.map fun (i, x) => (i, a.eval x)) = vs) (hr : (Instr.buildSlice 35 n vs).run Tryz.prog w = .ok (.slice (some ⟨w.heap.size, 0, none⟩) n n) (w.alloc (litO l)))
    (hw : Region.wanted { dst := dd, op := .buildSlice 35 n parts, type := t, pos := ps, after := af, guard := g } (yielded ops a.tmps) = true)
    (h : wpList Tryz.prog ops Q rest (a.put dd (.slice (some ⟨w.heap.size, 0, none⟩) n n)) (w.alloc (litO l))) :
    wpList Tryz.prog ops Q ({ dst := dd, op := .buildSlice 35 n parts, type := t, pos := ps, after := af, guard := g } :: rest) a w := by
  unfold wpList
  rw [if_pos hw]
  refine .inl ?_
  unfold Oper.wp execOp
  simp only [Sem.run_bind, Sem.run_pure]
  rw [hv, hr]
  exact h
end
theorem sl_of_heap {W W' : World} {k : Nat} {p : Option Addr} {n cap : Nat} {cs : List Value} (h : SlP W k p n cap cs) (e : ∀ b off, p = some ⟨b, off, none⟩ → W'.heap[b]? = W.heap[b]?) : SlP W' k p n cap cs :=
  ⟨h.len, h.fit, h.max, h.nil, h.one, fun h0 => by
    obtain ⟨b, off, e1, hb, hu⟩ := h.at_ h0
    have e2 := e b off e1
    rw [Array.getElem?_eq_getElem hb] at e2
    exact ⟨b, off, e1, (Array.getElem?_eq_some_iff.1 e2).1, fun j u hj => (World.cell?_of_block (w := W) (w' := W') (a := ⟨b, off + j, none⟩) (e b off e1)).trans (hu j u hj)⟩⟩
/-! ### The part that is shown -/
def mS (a b c d : Int) (k : Bool) : Sg := { zS with kind := 5, m0 := a, m1 := b, m2 := c, m3 := d, stk := k }
def ntS (v p : Int) : Sg := { zS with kind := 1, val := v, place := p }
def dtS : Sg := { zS with kind := 3 }
def shL : List Sg := [mS 2 2 3 2 false, ntS 4 4, dtS, ntS 5 3]
abbrev aB : ByteArray := ⟨#[97]⟩
theorem pt_load {w : World} {b : Nat} {nm : ByteArray} {q : Option Addr} {n c : Nat} (hb : HoldsB w b 37 #[.string nm, .slice q n c]) : (loadVar 37 ⟨b, 0, none⟩).run Tryz.prog w = .ok (ptv nm q n c) w :=
  run_loadVar_mid (P := Tryz.prog) w b 0 37 [.string nm, .slice q n c] _ (holds_range hb) Tryz.underlying37 rfl (by kernel_rfl)
set_option maxRecDepth 100000 in
set_option maxHeartbeats 4000000 in
theorem lshown_any (w : World) : Calls Tryz.prog 33 #[] w fun e w' => ∃ b, e = .returned (ptv aB (some ⟨b, 0, none⟩) 4 4) ∧ SlP w' 17 (some ⟨b, 0, none⟩) 4 4 (flatG shL) ∧ Below w.heap.size w w' := by
  have P0 := Lib.hid ((pt_new w emp none 0 0).al (litO shL))
  have L0 := Lib.hid (lit_sl (w.alloc (ptO emp none 0 0)) shL (by decide))
  rw [World.size_alloc] at L0
  have B0 := Lib.hid (w_alloc (w_alloc (w_refl w) (ptO emp none 0 0)) (litO shL))
  go_enter Tryz.func33, Tryz.ntmps33
  go_wp2_with (first | (refine wl_buildS (d := 2) _ (mS 2 2 3 2 false) (by kernel_rfl) ?_) | (refine wl_buildS (d := 3) _ (ntS 4 4) (by kernel_rfl) ?_) | (refine wl_buildS (d := 4) _ dtS (by kernel_rfl) ?_) | (refine wl_buildS (d := 5) _ (ntS 5 3) (by kernel_rfl) ?_) | (refine wl_lit 4 _ shL #[(0, sgv (mS 2 2 3 2 false)), (1, sgv (ntS 4 4)), (2, sgv dtS), (3, sgv (ntS 5 3))] (by kernel_rfl) (run_lit4 _ _ _ _ _) rfl ?_) | (refine wl_row 37 w.heap.size _ _ #[.string aB, .slice (some ⟨w.heap.size + 1, 0, none⟩) 4 4] P0.out (by kernel_rfl) (by kernel_rfl) (by kernel_rfl) rfl (by kernel_rfl) ?_) | fail)
  intro W5 h5 hB5 ho
  have H5 := Lib.hid h5
  have BL := Lib.hid (hB5 _ _ B0.out (Nat.le_refl _))
  have SL := Lib.hid (show SlP W5 17 (some ⟨w.heap.size + 1, 0, none⟩) 4 4 (flatG shL) from sl_of_heap L0.out (fun b off e => by
    cases e
    exact ho _ (by omega)))
  clear h5 hB5 ho P0 L0 B0
  go_wp2_with fail
  refine bodyPost_ret (v := ptv aB (some ⟨w.heap.size + 1, 0, none⟩) 4 4) ?_ rfl ⟨_, rfl, SL.out, BL.out⟩
  exact res_row rfl (by kernel_rfl) (pt_load H5.out)
end Go.Proofs.YtdmedealdhadcaaGreatDoor

namespace Go.Proofs.YtdmedealdhadcaaGreatDoor
open Go.RowKit
theorem sg_eql (a b : Sg) (w : World) : (binOp .eql 27 (sgv a) (sgv b)).run Tryz.prog w = .ok (.bool (sgE a b)) w := by
  have h := sg_eqs a b w
  unfold sgv at h ⊢
  rw [run_eql_struct, h]; rfl
theorem sgE_refl (s : Sg) : sgE s s = true := (sgE_iff s s).2 rfl
theorem sign_word {s : Sg} (h : oneE s = 0) : signV (wordT s) = (s, 0) := sign_ok (word_read h) h
set_option maxRecDepth 100000 in
set_option maxHeartbeats 4000000 in
theorem lwritten_any (s : Sg) (h : oneE s = 0) (w : World) (T : TabN w) : Calls Tryz.prog 25 #[sgv s, .string (bytes (wordT s))] w fun e w' => e = .returned (.bool true) ∧ Below w.heap.size w w' := by
  have PW := Lib.hid (fun V T => pword_any s V T)
  have PS := Lib.hid (fun V T => psign_any (wordT s) (by have := (word_plain h).2.2; omega) V T)
  unfold SgPost at PS
  rw [sign_word h] at PS
  unfold wdT at PW
  rw [if_pos h, h] at PW
  have HS := Lib.hid (sg_new w s)
  have B0 := Lib.hid (w_alloc (w_refl w) (sgO s))
  have HT := Lib.hid (fun V (b : Below w.heap.size w V) => T.later b)
  have hse : ((bytes (wordT s)).toList == (bytes (wordT s)).toList) = true := by simp
  have heq := fun W => sg_eql s s W
  have hgrd := fun x y W => sg_guard BinOp.eql x y s s W
  simp only [sgE_refl] at heq
  clear h T
  generalize bytes (wordT s) = tx at *
  simp only at PS
  go_enter Tryz.func25, Tryz.ntmps25
  go_wp2_with (first | (refine wl_box s (by kernel_rfl) ?_) | (refine wl_load w.heap.size 0 s (by kernel_rfl) HS.out.sg ?_) | fail)
  refine (PW.out _ (HT.out _ B0.out)).mono ?_
  rintro e w1 ⟨rfl, hb⟩
  replace HS := Lib.hid (HS.out.later hb)
  replace B0 := Lib.hid (w_below B0.out hb)
  clear hb PW
  go_wp2_with fail
  refine (PS.out _ (HT.out _ B0.out).s).mono ?_
  rintro e w2 ⟨rfl, hb⟩
  replace HS := Lib.hid ((HS.out.later hb).al (sgO s))
  replace B0 := Lib.hid (w_alloc (w_below B0.out hb) (sgO s))
  have H7 := Lib.hid (sg_new w2 s)
  clear hb PS HT
  go_wp2_with (first | (refine wl_store0 w2.heap.size _ s rfl (by kernel_rfl) (by kernel_rfl) rfl ?_) | (refine wl_loadG (x := .tmp 7) w2.heap.size 0 s (by kernel_rfl) (by kernel_rfl) H7.out.sg ?_) | (refine wl_loadG (x := .tmp 2) w.heap.size 0 s (by kernel_rfl) (by kernel_rfl) HS.out.sg ?_) | fail)
  go_ret
  exact ⟨rfl, B0.out⟩
set_option maxRecDepth 100000 in
set_option maxHeartbeats 4000000 in
theorem lrefused_any (l : List UInt8) (hl : l.length ≤ 1000000) (er : Int) (h : signV l = (zS, er)) (w : World) (T : TabN w) : Calls Tryz.prog 26 #[.string (bytes l), .int .i64 er] w fun e w' => e = .returned (.bool true) ∧ Below w.heap.size w w' := by
  have PS := Lib.hid (fun V T => psign_any l hl V T)
  unfold SgPost at PS
  rw [h] at PS
  have heq := fun W => sg_eql zS zS W
  have hgrd := fun x y W => sg_guard BinOp.eql x y zS zS W
  simp only [sgE_refl] at heq
  have HT := Lib.hid T
  clear h T hl
  generalize bytes l = tx at *
  simp only at PS
  go_enter Tryz.func26, Tryz.ntmps26
  go_wp2_with fail
  refine (PS.out _ HT.out.s).mono ?_
  rintro e w2 ⟨rfl, hb⟩
  have B0 := Lib.hid (w_alloc hb (sgO zS))
  have H7 := Lib.hid (sg_new w2 zS)
  clear hb PS HT
  go_wp2_with (first | (refine wl_store0 w2.heap.size _ zS rfl (by kernel_rfl) (by kernel_rfl) rfl ?_) | (refine wl_load w2.heap.size 0 zS (by kernel_rfl) H7.out.sg ?_) | (refine wl_buildS _ zS (by kernel_rfl) ?_) | fail)
  go_ret
  exact ⟨rfl, B0.out⟩
end Go.Proofs.YtdmedealdhadcaaGreatDoor
