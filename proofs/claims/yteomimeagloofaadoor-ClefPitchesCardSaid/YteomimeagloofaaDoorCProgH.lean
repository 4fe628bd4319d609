/- The program's Best. -/
import Derived.Test.YteomimeagloofaaDoorCProgF
import Derived.Test.YteomimeagloofaaDoorCProgG
namespace Go.Proofs.YteomimeagloofaaDoor
open Go.RowKit Go.Shelf
attribute [local go_sem] Oper.semAt_some run_store_fn

theorem below_fromC {w : World} {B : Nat} (hB : w.heap.size ≤ B) : OwnFrom B (fun (_ : Unit) A => Below w.heap.size w A) := by
  rintro s A A' row h hg hr
  exact h.grown hg h.size (fun j e => by have := (hr j e).1; omega)
theorem allC_mid {pre post : List Cl} {x : Cl} (h : allC = pre ++ x :: post) : x = clefN pre.length ∧ pre.length < 15 := by
  have hl : allC.length = 15 := by decide
  have h1 : pre.length < 15 := by rw [h, List.length_append, List.length_cons] at hl; omega
  refine ⟨?_, h1⟩
  have e1 : allC[pre.length]? = some x := by rw [h]; simp
  have e2 := allC_at h1
  have e3 : allC[pre.length]? = some (clefN pre.length) := by
    rw [e2, List.getElem?_append_right (by rw [allK_len]; exact Nat.le_refl _), allK_len, Nat.sub_self]; rfl
  rw [e1] at e3
  exact Option.some.inj e3
theorem best_zero (l : List Pi3) : ∀ k, (bestSt l k).2 < 0 → (bestSt l k).1 = (0, 0)
  | 0, _ => rfl
  | k + 1, h => by
    have hn := ned_nonneg (clefN k) l
    by_cases hb : nedB (clefN k) l = true ∧ ((bestSt l k).2 < 0 ∨ nedS (clefN k) l < (bestSt l k).2)
    · have e : bestSt l (k + 1) = (clefN k, nedS (clefN k) l) := if_pos hb
      rw [e] at h
      simp only at h
      omega
    · have e : bestSt l (k + 1) = bestSt l k := if_neg hb
      rw [e] at h ⊢
      exact best_zero l k h

/-- What stands in Best's loop over the clefs: the arguments, the results, the best clef, its error, the closure and its two cells. -/
structure BI (w : World) (k1 : Nat) (k0 : Int) (sl : Value) (st : Cl × Int) (A : World) : Prop where
  bel : Below w.heap.size w A
  key : HoldsB A w.heap.size 3 #[.int .i64 k0]
  lst : HoldsB A (w.heap.size + 1) 38 #[sl]
  res : HoldsB A (w.heap.size + 1 + 1) 23 #[.int .i64 0, .int .i64 0]
  bst : HoldsB A k1 23 #[.int .i64 st.1.1, .int .i64 st.1.2]
  err : HoldsB A (k1 + 1) 26 #[.int .i64 (if st.2 < 0 then 18 else 0)]
  val : ∃ v, HoldsB A (k1 + 1 + 1) 3 #[.int .i64 v] ∧ (0 ≤ st.2 → v = st.2)
  giv : HoldsB A (k1 + 1 + 1 + 1) 4 #[.bool (decide (0 ≤ st.2))]
  fn : HoldsB A (k1 + 1 + 1 + 1 + 1) 53 #[lsF (k1 + 1 + 1 + 1) (k1 + 1 + 1)]
theorem BI.later {w : World} {k1 : Nat} {k0 : Int} {sl : Value} {st : Cl × Int} {A A' : World} (h : BI w k1 k0 sl st A) (b : Below A.heap.size A A') : BI w k1 k0 sl st A' := by
  obtain ⟨v, h1, h2⟩ := h.val
  exact ⟨w_below h.bel b, h.key.later b, h.lst.later b, h.res.later b, h.bst.later b, h.err.later b, ⟨v, h1.later b, h2⟩, h.giv.later b, h.fn.later b⟩
theorem bi_from {w : World} {B : Nat} (hB : w.heap.size ≤ B) (k1 : Nat) (k0 : Int) (sl : Value) (st : Cl × Int) : OwnFrom B (fun (_ : Unit) A => BI w k1 k0 sl st A) := by
  rintro s A A' row h hg hr
  obtain ⟨v, h1, h2⟩ := h.val
  have K : ∀ {b : Nat} {t : TypeId} {cs : Array Value}, HoldsB A b t cs → HoldsB A' b t cs := fun h => holds_own _ _ (fun (_ : Unit) => _) () A A' row h hg (fun r e => (hr r e).2)
  exact ⟨below_fromC hB () A A' row h.bel hg hr, K h.key, K h.lst, K h.res, K h.bst, K h.err, ⟨v, K h1, h2⟩, K h.giv, K h.fn⟩
/-- The closure has taken a number. -/
structure BJ (w : World) (k1 : Nat) (k0 : Int) (sl : Value) (c : Cl) (e0 n : Int) (A : World) : Prop where
  bel : Below w.heap.size w A
  key : HoldsB A w.heap.size 3 #[.int .i64 k0]
  lst : HoldsB A (w.heap.size + 1) 38 #[sl]
  res : HoldsB A (w.heap.size + 1 + 1) 23 #[.int .i64 0, .int .i64 0]
  bst : HoldsB A k1 23 #[.int .i64 c.1, .int .i64 c.2]
  err : HoldsB A (k1 + 1) 26 #[.int .i64 e0]
  val : HoldsB A (k1 + 1 + 1) 3 #[.int .i64 n]
  giv : HoldsB A (k1 + 1 + 1 + 1) 4 #[.bool true]
  fn : HoldsB A (k1 + 1 + 1 + 1 + 1) 53 #[lsF (k1 + 1 + 1 + 1) (k1 + 1 + 1)]
theorem BI.take {w : World} {k1 : Nat} {k0 : Int} {sl : Value} {st : Cl × Int} {A : World} (h : BI w k1 k0 sl st A) (hk : w.heap.size + 1 + 1 + 1 ≤ k1) (n : Int) :
    BJ w k1 k0 sl st.1 (if st.2 < 0 then 18 else 0) n ((A.setCell ⟨k1 + 1 + 1, 0, none⟩ (.int .i64 n)).setCell ⟨k1 + 1 + 1 + 1, 0, none⟩ (.bool true)) := by
  obtain ⟨v, h1, h2⟩ := h.val
  have K : ∀ {b : Nat} {t : TypeId} {cs : Array Value}, HoldsB A b t cs → b ≠ k1 + 1 + 1 → b ≠ k1 + 1 + 1 + 1 → HoldsB ((A.setCell ⟨k1 + 1 + 1, 0, none⟩ (.int .i64 n)).setCell ⟨k1 + 1 + 1 + 1, 0, none⟩ (.bool true)) b t cs :=
    fun h a b => (h.other a 0 _).other b 0 _
  exact ⟨w_put (w_put h.bel (by omega) _ _) (by omega) _ _, K h.key (by omega) (by omega), K h.lst (by omega) (by omega), K h.res (by omega) (by omega), K h.bst (by omega) (by omega), K h.err (by omega) (by omega),
    (h1.set 0 _).other (by omega) 0 _, (h.giv.other (by omega) 0 _).set 0 _, K h.fn (by omega) (by omega)⟩
theorem BJ.put {w : World} {k1 : Nat} {k0 e0 n : Int} {sl : Value} {c0 : Cl} {A : World} (h : BJ w k1 k0 sl c0 e0 n A) (hk : w.heap.size + 1 + 1 + 1 ≤ k1) (c : Cl) (hn : 0 ≤ n) :
    BI w k1 k0 sl (c, n) (((A.setCell ⟨k1, 0, none⟩ (.int .i64 c.1)).setCell ⟨k1, 1, none⟩ (.int .i64 c.2)).setCell ⟨k1 + 1, 0, none⟩ (.int .i64 0)) := by
  have K : ∀ {b : Nat} {t : TypeId} {cs : Array Value}, HoldsB A b t cs → b ≠ k1 → b ≠ k1 + 1 → HoldsB (((A.setCell ⟨k1, 0, none⟩ (.int .i64 c.1)).setCell ⟨k1, 1, none⟩ (.int .i64 c.2)).setCell ⟨k1 + 1, 0, none⟩ (.int .i64 0)) b t cs :=
    fun h a b => ((h.other a 0 _).other a 1 _).other b 0 _
  have e1 : (if n < 0 then (18 : Int) else 0) = 0 := if_neg (by omega)
  have e2 : decide (0 ≤ n) = true := decide_eq_true hn
  refine ⟨w_put (w_put (w_put h.bel (by omega) _ _) (by omega) _ _) (by omega) _ _, K h.key (by omega) (by omega), K h.lst (by omega) (by omega), K h.res (by omega) (by omega), ((h.bst.set 0 _).set 1 _).other (by omega) 0 _, ?_, ⟨n, K h.val (by omega) (by omega), fun _ => rfl⟩, ?_, K h.fn (by omega) (by omega)⟩
  · show HoldsB _ (k1 + 1) _ #[.int .i64 (if n < 0 then 18 else 0)]
    rw [e1]
    exact (((h.err.other (by omega) 0 _).other (by omega) 1 _).set 0 _)
  · show HoldsB _ (k1 + 1 + 1 + 1) _ #[.bool (decide (0 ≤ n))]
    rw [e2]
    exact K h.giv (by omega) (by omega)

theorem bi_start {w wr : World} {k0 : Int} {sl : Value} (b : Below w.heap.size w wr) (rk : HoldsB wr w.heap.size 3 #[.int .i64 k0]) (rl : HoldsB wr (w.heap.size + 1) 38 #[sl])
    (rr : HoldsB wr (w.heap.size + 1 + 1) 23 #[.int .i64 0, .int .i64 0]) :
    BI w wr.heap.size k0 sl ((0, 0), -1) (((((wr.alloc (cO (0, 0))).alloc (.cells #[.int .i64 18] 26)).alloc (.cells #[.int .i64 0] 3)).alloc (.cells #[.bool false] 4)).alloc (.cells #[lsF (wr.heap.size + 1 + 1 + 1) (wr.heap.size + 1 + 1)] 53)) := by
  have n1 := HoldsB.new wr 23 #[.int .i64 0, .int .i64 0]
  have n2 := HoldsB.new (wr.alloc (cO (0, 0))) 26 #[.int .i64 18]
  have n3 := HoldsB.new ((wr.alloc (cO (0, 0))).alloc (.cells #[.int .i64 18] 26)) 3 #[.int .i64 0]
  have n4 := HoldsB.new (((wr.alloc (cO (0, 0))).alloc (.cells #[.int .i64 18] 26)).alloc (.cells #[.int .i64 0] 3)) 4 #[.bool false]
  have n5 := HoldsB.new ((((wr.alloc (cO (0, 0))).alloc (.cells #[.int .i64 18] 26)).alloc (.cells #[.int .i64 0] 3)).alloc (.cells #[.bool false] 4)) 53 #[lsF (wr.heap.size + 1 + 1 + 1) (wr.heap.size + 1 + 1)]
  simp only [World.size_alloc] at n2 n3 n4 n5
  exact ⟨w_alloc (w_alloc (w_alloc (w_alloc (w_alloc b _) _) _) _) _, ((((rk.al _).al _).al _).al _).al _, ((((rl.al _).al _).al _).al _).al _, ((((rr.al _).al _).al _).al _).al _,
    (((n1.al _).al _).al _).al _, ((n2.al _).al _).al _, ⟨0, (n3.al _).al _, fun h => absurd h (by decide)⟩, n4.al _, n5⟩

theorem clefs_any (w : World) : Calls Tryd.prog 45 #[] w fun e w' => e = .returned (.func (.func 50) #[] #[]) ∧ w = w' := by
  go_enter Tryd.func45, Tryd.ntmps45
  go_wp2_with fail
  go_ret
  exact ⟨rfl, rfl⟩

set_option maxRecDepth 100000 in
set_option maxHeartbeats 8000000 in
theorem cbest_any (k0 : Int) (p : Option Addr) (cap : Nat) (l : List Pi3) (hl : l.length ≤ 1000) (w : World) (T : TabC w) (h : SlP w 3 p l.length cap (flatP l)) :
    Calls Tryd.prog 21 #[.int .i64 k0, .slice p l.length cap] w (BesPost k0 l w) := by
  unfold BesPost
  refine (callsIn_wide (n := 1)).1 ?_
  have f1 := h.fit
  have f2 := h.max
  have HS := Lib.hid h
  have CK := Lib.hid (fun W => callsIn_wide (n := 0) |>.2 (ckey_any k0 W))
  have B0 := Lib.hid (w_alloc (w_alloc (w_alloc (w_refl w) (.cells #[.int .i64 k0] 3)) (.cells #[.slice p l.length cap] 38)) (cO (0, 0)))
  have rk := Lib.hid (((HoldsB.new w 3 #[.int .i64 k0]).al (.cells #[.slice p l.length cap] 38)).al (cO (0, 0)))
  have rl := Lib.hid ((HoldsB.new (w.alloc (.cells #[.int .i64 k0] 3)) 38 #[.slice p l.length cap]).al (cO (0, 0)))
  have rr := Lib.hid (HoldsB.new ((w.alloc (.cells #[.int .i64 k0] 3)).alloc (.cells #[.slice p l.length cap] 38)) 23 #[.int .i64 0, .int .i64 0])
  simp only [World.size_alloc] at rl rr
  refine callsIn_of_wp_marks Tryd.func21 rfl trivial ?_ rfl
  simp only [Tryd.ntmps21, List.size_toArray, List.length_cons, List.length_nil, Nat.reduceAdd, Nat.reduceSub, Array.replicate_succ, Array.replicate_zero, List.push_toArray, List.append_toArray, List.nil_append, List.cons_append]
  by_cases hk : 0 ≤ k0 ∧ k0 ≤ 2
  · have hkk : keyK k0 = 0 := if_pos hk
    rw [hkk] at CK
    have CH := Lib.hid (fun q W => callsIn_wide (n := 0) |>.2 (wcheck_any q W))
    have hE := Lib.hid (show ∀ j q, l[j]? = some q → ¬ okP q → besE k0 l = 2 ∧ besC k0 l = (0, 0) from fun j q hq hn => bes_bad hk (fun hall => hn (hall q (List.mem_of_getElem? hq))))
    have hN := Lib.hid (fun hp hn => bes_none (l := l) hk hp hn)
    have hO := Lib.hid (fun hp hn => bes_ok (l := l) hk hp hn)
    have NE := Lib.hid (show (∀ q ∈ l, okP q) → ∀ k, k < 15 → ∀ W, Below w.heap.size w W → Calls Tryd.prog 46 #[cv (clefN k), .int .i64 k0, .slice p l.length cap] W (NedPost (clefN k) l W) from
      fun hok k hk15 W b => cned_any (clefN k) (clefN_ok k hk15) k0 hk p cap l hl hok W (T.later b) (HS.out.later b))
    have HT := Lib.hid (fun W (b : Below w.heap.size w W) => T.later b)
    clear h T hk hkk
    generalize besE k0 l = E at *
    generalize besC k0 l = C at *
    gi_wp2_with fail
    refine ⟨trivial, (CK.out _).mono ?_⟩
    rintro e w0 ⟨rfl, rfl⟩
    clear CK
    have rl0 := rl.out.cell (j := 0) rfl
    gi_wp2_with fail
    clear rl0
    gi_loopw [24] (fun s6 wr => ∃ j : Nat, j ≤ l.length ∧ s6 = .int .i64 j ∧ Hid (∀ i q, i < j → l[i]? = some q → okP q) ∧ Hid (HoldsB wr w.heap.size 3 #[.int .i64 k0]) ∧ Hid (HoldsB wr (w.heap.size + 1) 38 #[.slice p l.length cap]) ∧ Hid (HoldsB wr (w.heap.size + 1 + 1) 23 #[.int .i64 0, .int .i64 0]) ∧ Hid (Below w.heap.size w wr)) (fun s6 _ => l.length - (intOf s6).toNat)
    case atStart => exact ⟨0, Nat.zero_le _, rfl, Lib.hid (fun i q hi => by omega), rk, rl, rr, B0⟩
    case round =>
      clear rk rl rr B0
      obtain ⟨j, hj, rfl, hall, rk, rl, rr, hbr⟩ := hrel
      by_cases hlt : j < l.length
      · have hlt' : (j : Int) < l.length := by omega
        obtain ⟨q, hq⟩ : ∃ q, l[j]? = some q := ⟨l[j], List.getElem?_eq_getElem hlt⟩
        obtain ⟨bl, off, rfl, _, q0, q1, q2⟩ := (HS.out.later hbr.out).pit hq
        have C1 := Lib.hid (fun W => CH.out q W)
        have B1 := Lib.hid (w_alloc hbr.out (pO q))
        replace rk := Lib.hid (rk.out.al (pO q))
        replace rl := Lib.hid (rl.out.al (pO q))
        replace rr := Lib.hid (rr.out.al (pO q))
        by_cases hp : okP q
        · rw [chkV_ok hp] at C1
          have hall2 := Lib.hid (show ∀ i q', i < j + 1 → l[i]? = some q' → okP q' from fun i q' hi hq' => by
            by_cases e : i = j
            · subst e; rw [hq] at hq'; injection hq' with hq'; rw [← hq']; exact hp
            · exact hall.out i q' (by omega) hq')
          clear hall hp hq CH hE hN hO NE HT hbr
          obtain ⟨s, o, a⟩ := q
          gi_wp2_with fail
          refine ⟨trivial, (C1.out _).mono ?_⟩
          rintro e w2 ⟨rfl, hb⟩
          have rk1 := Lib.hid (rk.out.later hb)
          have rl1 := Lib.hid (rl.out.later hb)
          have rr1 := Lib.hid (rr.out.later hb)
          have B2 := Lib.hid (w_below B1.out hb)
          clear hb C1 q0 q1 q2 rk rl rr B1
          gi_wp2_with fail
          go_roundw
          case rel => exact ⟨j + 1, by omega, by go_num, hall2, rk1, rl1, rr1, B2⟩
          case measure => simp [intOf]; omega
        · rw [show chkV q = 2 from if_neg hp] at C1
          obtain ⟨e1, e2⟩ := hE.out j q hq hp
          have hfin := Lib.hid (show Ending.returned (Value.tuple #[cv C, .int .i64 E]) = .returned (.tuple #[cv (0, 0), .int .i64 2]) by rw [e1, e2])
          clear hall hp hq CH hE hN hO e1 e2 NE HT hbr
          obtain ⟨s, o, a⟩ := q
          gi_wp2_with fail
          refine ⟨trivial, (C1.out _).mono ?_⟩
          rintro e w2 ⟨rfl, hb⟩
          have r1 := Lib.hid (rr.out.later hb)
          have B2 := Lib.hid (w_below B1.out hb)
          clear hb C1 q0 q1 q2 rk rl rr B1
          obtain ⟨d0, d1⟩ := clef_put r1.out (.int .i64 0) (.int .i64 0)
          have e0 := r1.out.cell (j := 0) rfl
          have e1 := r1.out.cell (j := 1) rfl
          have ef := r1.out.frozen
          gi_wp2_with fail
          refine ⟨.tuple #[cv (0, 0), .int .i64 2], (by simp [results, Tryd.results21, go_sem, d0, d1]), hfin.out.symm, ?_⟩
          exact w_put (w_put B2.out (by omega) _ _) (by omega) _ _
      · have hlt' : ¬ ((j : Int) < l.length) := by omega
        have hok := Lib.hid (show ∀ p ∈ l, okP p from fun p hp => by
          obtain ⟨i, hi, e⟩ := List.getElem_of_mem hp
          exact hall.out i p (by omega) (by rw [List.getElem?_eq_getElem hi, e]))
        have LS := Lib.hid (fun W => callsIn_wide (n := 0) |>.2 (least_any W))
        have CS := Lib.hid (fun W => callsIn_wide (n := 0) |>.2 (clefs_any W))
        clear hE CH hl hall
        gi_wp2_with fail
        refine ⟨trivial, (LS.out _).mono ?_⟩
        rintro e w2 ⟨rfl, rfl⟩
        gi_wp2_with fail
        refine ⟨trivial, (CS.out _).mono ?_⟩
        rintro e w3 ⟨rfl, rfl⟩
        gi_wp2_with fail
        have hlt3 : w.heap.size + 1 + 1 + 1 ≤ wr.heap.size := by have := rr.out.lt; omega
        have I0 := Lib.hid (bi_start hbr.out rk.out rl.out rr.out)
        have hsz : wr.heap.size + 5 = (((((wr.alloc (cO (0, 0))).alloc (.cells #[.int .i64 18] 26)).alloc (.cells #[.int .i64 0] 3)).alloc (.cells #[.bool false] 4)).alloc (.cells #[lsF (wr.heap.size + 1 + 1 + 1) (wr.heap.size + 1 + 1)] 53)).heap.size := by simp only [World.size_alloc]
        have NE2 := Lib.hid (NE.out hok.out)
        have hfin := Lib.hid (show Ending.returned (Value.tuple #[cv C, .int .i64 E]) = .returned (.tuple #[cv (bestSt l 15).1, .int .i64 (if (bestSt l 15).2 < 0 then 18 else 0)]) by
          by_cases hn : (bestSt l 15).2 < 0
          · rw [(hN.out hok.out hn).1, (hN.out hok.out hn).2, if_pos hn, best_zero l 15 hn]
          · rw [(hO.out hok.out (by omega)).1, (hO.out hok.out (by omega)).2, if_neg hn])
        have HY := Lib.hid (fun j => bst_yes (l := l) (j := j))
        have HZ := Lib.hid (fun j => bst_no (l := l) (j := j))
        have HP := Lib.hid (show ∀ c, nedB c l = true → 0 ≤ nedV c l from fun c hc => by unfold nedV; rw [if_pos hc]; exact ned_nonneg c l)
        have hst0 : bestSt l 0 = ((0, 0), -1) := rfl
        rw [← hst0] at I0
        clear LS CS hok hN hO rk rl rr hbr NE hst0
        generalize hst : bestSt l = st at *
        clear hst
        change Code.wpIn _ _ _ _ _ _ (((((wr.alloc (cO (0, 0))).alloc (.cells #[.int .i64 18] 26)).alloc (.cells #[.int .i64 0] 3)).alloc (.cells #[.bool false] 4)).alloc (.cells #[lsF (wr.heap.size + 1 + 1 + 1) (wr.heap.size + 1 + 1)] 53))
        generalize (((((wr.alloc (cO (0, 0))).alloc (.cells #[.int .i64 18] 26)).alloc (.cells #[.int .i64 0] 3)).alloc (.cells #[.bool false] 4)).alloc (.cells #[lsF (wr.heap.size + 1 + 1 + 1) (wr.heap.size + 1 + 1)] 53)) = w5 at *
        generalize wr.heap.size = k1 at *
        refine wpIn_gives clefs_gives rfl (enters_of Tryd.func50 (by kernel_rfl) rfl) rfl
          (fun pre A => BI w k1 k0 (.slice p l.length cap) (st pre.length) A) (fun _ => False) ?hC ?hI ?hIx ?h0
          (fun x a' A => ∃ Bx, HoldsB A Bx 23 #[.int .i64 x.1, .int .i64 x.2] ∧ k1 + 5 ≤ Bx ∧ a' = { tmps := #[.int .i64 k0, .slice p l.length cap, .pointer (some ⟨w.heap.size, 0, none⟩), .pointer (some ⟨w.heap.size + 1, 0, none⟩), .pointer (some ⟨w.heap.size + 1 + 1, 0, none⟩), u5, .int .i64 0, undef, u8, u9,
            .pointer (some ⟨k1, 0, none⟩), .pointer (some ⟨k1 + 1, 0, none⟩), .pointer (some ⟨k1 + 1 + 1 + 1 + 1, 0, none⟩), .pointer (some ⟨Bx, 0, none⟩), undef, undef, .int .i64 k0, .int .i64 0, .int .i64 0, .bool false, undef, undef, .slice p l.length cap, .int .i64 (l.length : Int), .int .i64 (j : Int), .bool false, u26, u27, u28, u29, u30, u31, u32, u33, u34,
            .agg #[.int .i64 0, .int .i64 0], lsF (k1 + 1 + 1 + 1) (k1 + 1 + 1), .func (.func 50) #[] #[], cv x, undef, undef, undef, undef, undef, undef, undef, undef, undef, undef, undef, undef, undef, undef, undef, undef], defers := [] })
          ?hAx ?assign ?body ?done ?stop
        case hC =>
          rintro pre A hi
          exact HT.out _ hi.bel
        case hI =>
          rintro pre A A' row hi hg hr
          exact bi_from (B := w5.heap.size) (by omega) k1 k0 _ (st pre.length) () A A' row hi hg hr
        case hIx => exact fun _ _ _ _ h _ _ => h
        case h0 => exact I0.out
        case hAx =>
          rintro x a' s A A' row ⟨Bx, h, h2, e⟩ hg hr
          exact ⟨Bx, holds_own Bx _ (fun (_ : Unit) => _) () A A' row h hg (fun r e => (hr r e).2), h2, e⟩
        case assign =>
          rintro m2 l2 pre x A K hle hi hK
          gi_wp2_with fail
          exact hK _ _ (Mid.bel _ (w_alloc (w_refl A) _)) (hi.later (w_alloc (w_refl A) _)) ⟨A.heap.size, HoldsB.new A _ _, by omega, rfl⟩
        case body =>
          rintro m2 l2 pre x post a' A hx hle hi ⟨Bx, hB, hBx, rfl⟩
          obtain ⟨ex, h15⟩ := allC_mid hx
          have NE1 := Lib.hid (show ∀ W, Below w.heap.size w W → CallsIn (Fence.wide.inRound l2) (m2 - 1) Tryd.prog 46 #[cv x, .int .i64 k0, .slice p l.length cap] W (NedPost x l W) from fun W b => CallsIn.inRound l2 (callsIn_wide (n := m2 - 1) |>.2 (by rw [ex]; exact NE2.out _ h15 W b)))
          have hy := Lib.hid (HY.out pre.length)
          have hz := Lib.hid (HZ.out pre.length)
          rw [← ex] at hy hz
          have hp := Lib.hid (HP.out x)
          have hlen : (pre ++ [x]).length = pre.length + 1 := by simp
          unfold NedPost at NE1
          generalize st pre.length = s0 at *
          generalize hs1 : st (pre.length + 1) = s1 at *
          have HI := Lib.hid hi
          have HBx := Lib.hid hB
          have HL := Lib.hid hle
          have c1 := hi.key.cell (j := 0) rfl
          have c2 := hi.lst.cell (j := 0) rfl
          have x1 := hB.cell (j := 0) rfl
          have x2 := hB.cell (j := 1) rfl
          have B1 := Lib.hid hi.bel
          clear HY HZ HP NE2 ex h15 hx hi hB hle HT
          generalize nedV x l = n at *
          generalize nedB x l = b at *
          obtain ⟨xs, xl⟩ := x
          obtain ⟨sc, sv⟩ := s0
          cases b with
          | false =>
            have hfin2 := hz.out (fun h => by cases h.1)
            gi_wp2_with fail
            clear c1 c2 x1 x2
            refine ⟨trivial, (fun h => by cases h), (NE1.out _ B1.out).mono ?_⟩
            rintro e w6 ⟨rfl, hb⟩
            have HI2 := Lib.hid (HI.out.later hb)
            have HM := Lib.hid (Mid.bel w5.heap.size hb)
            clear hb NE1 B1
            gi_wp2_with fail
            refine ⟨(fun _ h => (by cases h)), ?_⟩
            gi_wp2_with fail
            show Mid _ _ _ ∧ _
            dsimp only
            rw [hlen, hs1, hfin2]
            exact ⟨HM.out, HI2.out⟩
          | true =>
            have hn0 := hp.out rfl
            by_cases h1 : sv < 0
            · have hfin2 := hy.out rfl (.inl h1)
              gi_wp2_with fail
              clear c1 c2 x1 x2
              refine ⟨trivial, (fun h => by cases h), (NE1.out _ B1.out).mono ?_⟩
              rintro e w6 ⟨rfl, hb⟩
              have HI2 := Lib.hid (HI.out.later hb)
              have HM := Lib.hid (Mid.bel w5.heap.size hb)
              have HBy := Lib.hid (HBx.out.later hb)
              have g := HI2.out.giv
              rw [show decide (0 ≤ ((sc, sv) : Cl × Int).2) = false from decide_eq_false (by simp only; omega)] at g
              obtain ⟨v, hv, _⟩ := HI2.out.val
              have LN := Lib.hid (CallsIn.inRound l2 (callsIn_wide (n := m2 - 1) |>.2 (least_new n v _ _ w6 g hv)))
              have fc := HI2.out.fn.cell (j := 0) rfl
              clear hb NE1 B1 g hv h1
              gi_wp2_with fail
              refine ⟨trivial, (fun h => by cases h), LN.out.mono ?_⟩
              rintro e w7 ⟨rfl, hw7⟩
              have HJ := Lib.hid (show BJ w k1 k0 (.slice p l.length cap) sc (if sv < 0 then 18 else 0) n w7 from hw7 ▸ HI2.out.take hlt3 n)
              have HM7 := Lib.hid (HM.out.trans (show Mid w5.heap.size w6 w7 from hw7 ▸ (Mid.set _ _ (by omega) _ _).trans (Mid.set _ _ (by omega) _ _)))
              have HB7 := Lib.hid (show HoldsB w7 Bx 23 #[.int .i64 xs, .int .i64 xl] from hw7 ▸ (HBy.out.other (by omega) 0 _).other (by omega) 0 _)
              clear hw7 LN HI2 HM HBy fc
              have x1 := HB7.out.cell (j := 0) rfl
              have x2 := HB7.out.cell (j := 1) rfl
              have b0 := HJ.out.bst.cell (j := 0) rfl
              have b1 := HJ.out.bst.cell (j := 1) rfl
              have bf := HJ.out.bst.frozen
              have er := HJ.out.err.cell (j := 0) rfl
              have ef := HJ.out.err.frozen
              gi_wp2_with fail
              show Mid _ _ _ ∧ _
              dsimp only
              rw [hlen, hs1, hfin2]
              exact ⟨HM7.out.trans ((Mid.set _ _ (by omega) _ _).trans ((Mid.set _ _ (by omega) _ _).trans (Mid.set _ _ (by omega) _ _))), HJ.out.put hlt3 (xs, xl) hn0⟩
            · by_cases h2 : n < sv
              · have hfin2 := hy.out rfl (.inr h2)
                gi_wp2_with fail
                clear c1 c2 x1 x2
                refine ⟨trivial, (fun h => by cases h), (NE1.out _ B1.out).mono ?_⟩
                rintro e w6 ⟨rfl, hb⟩
                have HI2 := Lib.hid (HI.out.later hb)
                have HM := Lib.hid (Mid.bel w5.heap.size hb)
                have HBy := Lib.hid (HBx.out.later hb)
                have g := HI2.out.giv
                rw [show decide (0 ≤ ((sc, sv) : Cl × Int).2) = true from decide_eq_true (by simp only; omega)] at g
                obtain ⟨v, hv, hv2⟩ := HI2.out.val
                obtain rfl : v = sv := hv2 (by simp only; omega)
                have LN := Lib.hid (CallsIn.inRound l2 (callsIn_wide (n := m2 - 1) |>.2 (least_less n v h2 _ _ w6 g hv)))
                have fc := HI2.out.fn.cell (j := 0) rfl
                clear hb NE1 B1 g hv hv2 h1 h2
                gi_wp2_with fail
                refine ⟨trivial, (fun h => by cases h), LN.out.mono ?_⟩
                rintro e w7 ⟨rfl, hw7⟩
                have HJ := Lib.hid (show BJ w k1 k0 (.slice p l.length cap) sc (if v < 0 then 18 else 0) n w7 from hw7 ▸ HI2.out.take hlt3 n)
                have HM7 := Lib.hid (HM.out.trans (show Mid w5.heap.size w6 w7 from hw7 ▸ (Mid.set _ _ (by omega) _ _).trans (Mid.set _ _ (by omega) _ _)))
                have HB7 := Lib.hid (show HoldsB w7 Bx 23 #[.int .i64 xs, .int .i64 xl] from hw7 ▸ (HBy.out.other (by omega) 0 _).other (by omega) 0 _)
                clear hw7 LN HI2 HM HBy fc
                have x1 := HB7.out.cell (j := 0) rfl
                have x2 := HB7.out.cell (j := 1) rfl
                have b0 := HJ.out.bst.cell (j := 0) rfl
                have b1 := HJ.out.bst.cell (j := 1) rfl
                have bf := HJ.out.bst.frozen
                have er := HJ.out.err.cell (j := 0) rfl
                have ef := HJ.out.err.frozen
                gi_wp2_with fail
                show Mid _ _ _ ∧ _
                dsimp only
                rw [hlen, hs1, hfin2]
                exact ⟨HM7.out.trans ((Mid.set _ _ (by omega) _ _).trans ((Mid.set _ _ (by omega) _ _).trans (Mid.set _ _ (by omega) _ _))), HJ.out.put hlt3 (xs, xl) hn0⟩
              · have hfin2 := hz.out (fun h => by rcases h.2 with h | h <;> simp only at h <;> omega)
                gi_wp2_with fail
                clear c1 c2 x1 x2
                refine ⟨trivial, (fun h => by cases h), (NE1.out _ B1.out).mono ?_⟩
                rintro e w6 ⟨rfl, hb⟩
                have HI2 := Lib.hid (HI.out.later hb)
                have HM := Lib.hid (Mid.bel w5.heap.size hb)
                have g := HI2.out.giv
                rw [show decide (0 ≤ ((sc, sv) : Cl × Int).2) = true from decide_eq_true (by simp only; omega)] at g
                obtain ⟨v, hv, hv2⟩ := HI2.out.val
                obtain rfl : v = sv := hv2 (by simp only; omega)
                have LN := Lib.hid (CallsIn.inRound l2 (callsIn_wide (n := m2 - 1) |>.2 (least_more n v (by omega) _ _ w6 g hv)))
                have fc := HI2.out.fn.cell (j := 0) rfl
                clear hb NE1 B1 g hv hv2 h1 h2
                gi_wp2_with fail
                refine ⟨trivial, (fun h => by cases h), LN.out.mono ?_⟩
                rintro e w7 ⟨rfl, rfl⟩
                clear LN fc
                gi_wp2_with fail
                show Mid _ _ _ ∧ _
                dsimp only
                rw [hlen, hs1, hfin2]
                exact ⟨HM.out, HI2.out⟩
        case done =>
          rintro D A hD hi hd
          rw [show allC.length = 15 from by decide] at hi
          generalize st 15 = s15 at *
          obtain ⟨sc, sv⟩ := s15
          have b0 := hi.bst.cell (j := 0) rfl
          have b1 := hi.bst.cell (j := 1) rfl
          have er := hi.err.cell (j := 0) rfl
          have r0 := hi.res.cell (j := 0) rfl
          have r1 := hi.res.cell (j := 1) rfl
          have rf := hi.res.frozen
          have HI := Lib.hid hi
          have hdd := Lib.hid hd
          clear hi hd
          simp only at b0 b1 er hfin
          generalize (if sv < 0 then (18 : Int) else 0) = e15 at *
          gi_wp2_with fail
          gi_region
          all_goals
            gi_wp2_with fail
            obtain ⟨A2, hA2⟩ : ∃ A2, World.drew ((A.setCell ⟨w.heap.size + 1 + 1, 0, none⟩ (.int .i64 sc.1)).setCell ⟨w.heap.size + 1 + 1, 1, none⟩ (.int .i64 sc.2)) = A2 := ⟨_, rfl⟩
            have g1 := Lib.hid (show HoldsB A2 (w.heap.size + 1 + 1) 23 #[.int .i64 sc.1, .int .i64 sc.2] from hA2 ▸ ((HI.out.res.set 0 _).set 1 _).later (w_refl _).drew)
            have hB5 := Lib.hid (show Below w.heap.size w A2 from hA2 ▸ (w_put (w_put HI.out.bel (by omega) _ _) (by omega) _ _).drew)
            have hd2 := Lib.hid (show A2.heap[D]? = some (.deferred (some [])) from hA2 ▸ (Below.heap_setCell _ _ _ _ (by simp only; omega)).trans ((Below.heap_setCell _ _ _ _ (by simp only; omega)).trans hdd.out))
            rw [hA2]
            have d1 : ∀ o, (A2.putObj D o).cell? ⟨w.heap.size + 1 + 1, 0, none⟩ = some (.int .i64 sc.1) := fun o => HoldsB.cell (t := 23) (cs := #[.int .i64 sc.1, .int .i64 sc.2]) ((World.putObj_heap_other (by omega)).trans g1.out) rfl
            have d2 : ∀ o, (A2.putObj D o).cell? ⟨w.heap.size + 1 + 1, 1, none⟩ = some (.int .i64 sc.2) := fun o => HoldsB.cell (t := 23) (cs := #[.int .i64 sc.1, .int .i64 sc.2]) ((World.putObj_heap_other (by omega)).trans g1.out) rfl
            refine ⟨by simp, .inl ⟨_, _, rfl, run_takeDeferred hd2.out, ?_⟩⟩
            refine ⟨.tuple #[cv sc, .int .i64 e15], (by simp [results, Tryd.results21, go_sem, d1, d2]), hfin.out.symm, ?_⟩
            exact hB5.out.trans (belowK_b (w := w) (Nat.le_refl _) A2 D _ _ (by omega) hd2.out rfl rfl)
        case stop =>
          rintro D A hD hx hd
          exact hx.elim
  · have hkk : keyK k0 = 2 := if_neg hk
    rw [hkk] at CK
    obtain ⟨e1, e2⟩ := bes_key (l := l) hk
    rw [e1, e2]
    clear h T hk hkk e1 e2
    gi_wp2_with fail
    refine ⟨trivial, (CK.out _).mono ?_⟩
    rintro e w0 ⟨rfl, rfl⟩
    clear CK
    gi_wp2_with fail
    refine ⟨.tuple #[cv (0, 0), .int .i64 2], (by simp [results, Tryd.results21, go_sem]), rfl, ?_⟩
    exact B0.out

end Go.Proofs.YteomimeagloofaaDoor
