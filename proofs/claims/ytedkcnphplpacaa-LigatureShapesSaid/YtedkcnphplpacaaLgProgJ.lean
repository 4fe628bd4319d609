/- The program's checkLists, can, Can and Count. -/
import Derived.Test.YtedkcnphplpacaaLgProgI
namespace Go.Proofs.Ytedkcnphplpacaa
open Go.RowKit Go.Shelf
attribute [local go_sem] Oper.semAt_some

set_option maxHeartbeats 4000000 in
theorem pask_any (ps vs : List Int) (p q : Option Addr) (cp cq : Nat) (w : World) (hp : SlP w 1 p ps.length cp (ints ps)) (hq : SlP w 1 q vs.length cq (ints vs)) :
    Calls Try.prog 46 #[.slice p ps.length cp, .slice q vs.length cq] w fun e w' => e = .returned (.int .i64 (askE ps vs)) ∧ w' = w := by
  have f1 := hp.fit
  have f2 := hp.max
  have f3 := hq.fit
  have f4 := hq.max
  have SZ := Lib.hid (fun W => psize_any (ps.length : Int) W)
  unfold sizeOk at SZ
  by_cases h : 2 ≤ ps.length ∧ ps.length ≤ 12
  · rw [decide_eq_true (show 2 ≤ (ps.length : Int) ∧ (ps.length : Int) ≤ 12 by omega)] at SZ
    by_cases k : vs.length = ps.length
    · have HB := Lib.hid (fun j hj hb => ask_bad (ps := ps) (vs := vs) h k (j := j) hj hb)
      have HO := Lib.hid (fun hb => ask_ok (ps := ps) (vs := vs) h k hb)
      rw [k] at hq f3 ⊢
      obtain ⟨b, off, rfl, -, -⟩ := hp.at_ (by omega)
      obtain ⟨b', off', rfl, -, -⟩ := hq.at_ (by omega)
      have CP := Lib.hid (fun i hi => int_at hp (i := i) hi)
      have CQ := Lib.hid (fun i hi => int_at hq (i := i) hi)
      generalize askE ps vs = E at *
      generalize hps : (fun i : Nat => ps.getD i 0) = pf at *
      generalize hvs : (fun i : Nat => vs.getD i 0) = vf at *
      have ep : ∀ i : Nat, ps.getD i 0 = pf i := fun i => congrFun hps i
      have ev : ∀ i : Nat, vs.getD i 0 = vf i := fun i => congrFun hvs i
      simp only [ep, ev] at HB HO CP CQ
      have PL := Lib.hid (fun x W => pplace_any x W)
      unfold placeOk at PL
      clear hp hq k h hps hvs ep ev
      generalize ps.length = n at *
      go_enter Try.func46, Try.ntmps46
      go_wp2_with fail
      refine (SZ.out _).mono ?_
      rintro e w0 ⟨rfl, rfl⟩
      clear SZ
      go_wp2_with fail
      go_loopw [17] (fun s17 wr => ∃ k : Nat, k ≤ n ∧ s17 = .int .i64 (k : Int) ∧ Hid (∀ j, j < k → okPV (pf j) (vf j)) ∧ wr = w0) (fun s17 _ => n - (intOf s17).toNat)
      case atStart => exact ⟨0, by omega, rfl, Lib.hid (fun j hj => by omega), rfl⟩
      case round =>
        rename World => wr
        obtain ⟨k, hk, rfl, hall, hww⟩ := hrel
        subst hww
        by_cases hlt : k < n
        · have hlt' : (k : Int) < n := by omega
          have hk0 : (0 : Int) ≤ k := by omega
          have c0 := CP.out k hlt
          have d0 := CQ.out k hlt
          by_cases hok : okPV (pf k) (vf k)
          · have hall2 := Lib.hid (show ∀ j, j < k + 1 → okPV (pf j) (vf j) from fun j hj => by
              by_cases e : j = k
              · rw [e]; exact hok
              · exact hall.out j (by omega))
            obtain ⟨⟨a1, a2⟩, a3, a4⟩ := hok
            have P1 := Lib.hid (fun W => PL.out (pf k) W)
            rw [decide_eq_true (show -4 ≤ pf k ∧ pf k ≤ 12 from ⟨a1, a2⟩)] at P1
            clear hall HB HO CP CQ PL
            have a3' : ¬ vf k < 1 := by omega
            have a4' : ¬ 8 < vf k := by omega
            generalize pf k = x at *
            generalize vf k = y at *
            go_wp2_with fail
            refine (P1.out _).mono ?_
            rintro e w1 ⟨rfl, rfl⟩
            go_wp2_with fail
            go_roundw
            case rel => exact ⟨k + 1, by omega, by go_num, hall2, trivial⟩
            case measure => simp [intOf]; omega
          · have hE := Lib.hid (HB.out k hlt hok)
            unfold okPV at hok
            have P1 := Lib.hid (fun W => PL.out (pf k) W)
            clear hall HB HO CP CQ PL
            generalize pf k = x at *
            generalize vf k = y at *
            by_cases hx : -4 ≤ x ∧ x ≤ 12
            · rw [decide_eq_true hx] at P1
              have ways : y < 1 ∨ (1 ≤ y ∧ 8 < y) := by omega
              clear hok
              rcases ways with a3 | ⟨a3, a4⟩
              all_goals
                go_wp2_with fail
                refine (P1.out _).mono ?_
                rintro e w1 ⟨rfl, rfl⟩
                go_wp2_with fail
                go_ret
                exact ⟨by rw [hE.out]; rfl, rfl⟩
            · rw [decide_eq_false hx] at P1
              clear hok
              go_wp2_with fail
              refine (P1.out _).mono ?_
              rintro e w1 ⟨rfl, rfl⟩
              go_wp2_with fail
              go_ret
              exact ⟨by rw [hE.out]; rfl, rfl⟩
        · have hE := Lib.hid (HO.out (fun j hj => hall.out j (by omega)))
          have hlt' : ¬ (k : Int) < n := by omega
          clear hall HB HO CP CQ PL
          go_wp2_with fail
          go_ret
          exact ⟨by rw [hE.out]; rfl, rfl⟩
    · rw [ask_form h k]
      have q1 : ((vs.length : Int) == (ps.length : Int)) = false := by simp; omega
      clear hp hq h k
      generalize ps.length = n at *
      generalize vs.length = m at *
      go_enter Try.func46, Try.ntmps46
      go_wp2_with fail
      refine (SZ.out _).mono ?_
      rintro e w0 ⟨rfl, rfl⟩
      go_wp2_with fail
      go_ret
      exact ⟨rfl, rfl⟩
  · rw [decide_eq_false (show ¬ (2 ≤ (ps.length : Int) ∧ (ps.length : Int) ≤ 12) by omega)] at SZ
    rw [ask_full h]
    clear hp hq h
    generalize ps.length = n at *
    go_enter Try.func46, Try.ntmps46
    go_wp2_with fail
    refine (SZ.out _).mono ?_
    rintro e w0 ⟨rfl, rfl⟩
    go_wp2_with fail
    go_ret
    exact ⟨rfl, rfl⟩

theorem flat_lenP {F : Bool × Int → List (List Sg)} {B : Nat} (h : ∀ o, (F o).length ≤ B) : ∀ L : List (Bool × Int), (L.flatMap F).length ≤ L.length * B
  | [] => by simp
  | o :: t => by
    have := flat_lenP h t
    have := h o
    rw [List.flatMap_cons, List.length_append, List.length_cons, Nat.add_mul]
    omega
theorem pAll_len (ps vs : List Int) : ∀ (k : Nat) (l : List Sg), (pAll ps vs k l).length ≤ 8 ^ k
  | 0, _ => Nat.le_refl 1
  | k + 1, l => by
    have := flat_lenP (F := fun o => if hopP vs (l ++ [nxS ps l.length o]) = true then pAll ps vs k (l ++ [nxS ps l.length o]) else []) (B := 8 ^ k) (fun o => by
      split
      · exact pAll_len ps vs k _
      · simp) optP
    rw [Nat.pow_succ]
    show (optP.flatMap _).length ≤ _
    have e : optP.length = 8 := rfl
    rw [e] at this
    omega
theorem pAll_small (ps vs : List Int) {n : Nat} (h : n ≤ 12) : (pAll ps vs n []).length ≤ 68719476736 :=
  Nat.le_trans (pAll_len ps vs n []) (Nat.le_trans (Nat.pow_le_pow_right (by decide) h) (by decide))
theorem below_fromL {w : World} {B : Nat} (hB : w.heap.size ≤ B) : OwnFrom B (fun (_ : Unit) A => Below w.heap.size w A) := by
  rintro s A A' row h hg hr
  exact h.grown hg h.size (fun j e => by have := (hr j e).1; omega)
/-- The two boxes that an iterator of shapes reads, above what was there. -/
structure BxL (w : World) (bp bv : Nat) (v1 v2 : Value) (A : World) : Prop where
  bel : Below w.heap.size w A
  b1 : HoldsB A bp 22 #[v1]
  b2 : HoldsB A bv 22 #[v2]
theorem BxL.later {w : World} {bp bv : Nat} {v1 v2 : Value} {A B : World} (h : BxL w bp bv v1 v2 A) (b : Below A.heap.size A B) : BxL w bp bv v1 v2 B := ⟨w_below h.bel b, h.b1.later b, h.b2.later b⟩
theorem BxL.off {w : World} {bp bv n K : Nat} {v1 v2 : Value} {A B : World} (h : BxL w bp bv v1 v2 A) (hw : w.heap.size ≤ n) (h1 : bp < n) (h2 : bv < n) (o : Off n K A B) : BxL w bp bv v1 v2 B := ⟨o.below hw h.bel, o.keepB (.inl h1) h.b1, o.keepB (.inl h2) h.b2⟩
theorem BxL.from_ {w : World} {B bp bv : Nat} {v1 v2 : Value} (hB : w.heap.size ≤ B) : OwnFrom B (fun (_ : Unit) A => BxL w bp bv v1 v2 A) := by
  rintro s A A' row h hg hr
  exact ⟨below_fromL hB () A A' row h.bel hg hr, holds_own _ _ (fun (_ : Unit) => _) () A A' row h.b1 hg (fun r e => (hr r e).2), holds_own _ _ (fun (_ : Unit) => _) () A A' row h.b2 hg (fun r e => (hr r e).2)⟩
theorem BxL.put {w : World} {bp bv b : Nat} {v1 v2 : Value} {A : World} (h : BxL w bp bv v1 v2 A) (hb : w.heap.size ≤ b) (h1 : bp ≠ b) (h2 : bv ≠ b) (j : Nat) (u : Value) : BxL w bp bv v1 v2 (A.setCell ⟨b, j, none⟩ u) := ⟨w_put h.bel hb _ _, h.b1.other h1 _ _, h.b2.other h2 _ _⟩
theorem BxL.plc {ps vs : List Int} {cap bp bv cp cv : Nat} {pp pv : Option Addr} {w A : World} (h : BxL w bp bv (.slice pp cap cp) (.slice pv cap cv) A) (hp : SlP w 1 pp cap cp (ints ps)) (hv : SlP w 1 pv cap cv (ints vs)) : PlC ps vs cap bp bv pp cp pv cv A := ⟨h.b1, h.b2, hp.later h.bel, hv.later h.bel⟩

set_option maxRecDepth 100000 in
set_option maxHeartbeats 4000000 in
theorem pcnt_any (ps vs : List Int) (n : Nat) (hn : ps.length = n) (hn2 : 2 ≤ n) (hn12 : n ≤ 12) (p q : Option Addr) (cp cq : Nat) (w : World) (hp : SlP w 1 p n cp (ints ps)) (hq : SlP w 1 q n cq (ints vs)) (hask : askE ps vs = 0) (hvn : vs.length = n) :
    Calls Try.prog 28 #[.slice p n cp, .slice q n cq] w fun e w' => e = .returned (.tuple #[.int .i64 ((pAll ps vs n []).length : Int), .int .i64 0]) ∧ Below w.heap.size w w' := by
  refine (callsIn_wide (n := 1)).1 ?_
  have f1 := hp.fit
  have f2 := hp.max
  have CK := Lib.hid (show ∀ m, CallsIn Fence.wide m Try.prog 46 #[.slice p n cp, .slice q n cq] w fun e w' => e = .returned (.int .i64 0) ∧ w' = w from fun m => callsIn_wide.2 (by
    have := pask_any ps vs p q cp cq w (by rw [hn]; exact hp) (by rw [hvn]; exact hq)
    rw [hn, hvn, hask] at this
    exact this))
  have SH := Lib.hid (fun m W => callsIn_wide (n := m) |>.2 (pshapes_any (.slice p n cp) (.slice q n cq) n n cp cq p q rfl rfl W))
  have GV := Lib.hid (fun bp bv => shapes_gives n bp bv hn2 hn12 ps vs hn p cp q cq)
  have HP := Lib.hid hp
  have HQ := Lib.hid hq
  have hsm := pAll_small ps vs hn12
  clear hp hq hask hn hvn
  generalize pAll ps vs n [] = xs at *
  refine callsIn_of_wp_marks Try.func28 rfl trivial ?_ rfl
  simp only [Try.ntmps28, List.size_toArray, List.length_cons, List.length_nil, Nat.reduceAdd, Nat.reduceSub, Array.replicate_succ, Array.replicate_zero, List.push_toArray, List.append_toArray, List.nil_append, List.cons_append]
  gi_wp2_with fail
  refine ⟨trivial, (CK.out _).mono ?_⟩
  rintro e w0 ⟨rfl, rfl⟩
  clear CK
  gi_wp2_with fail
  refine ⟨trivial, (SH.out _ _).mono ?_⟩
  rintro e w3 ⟨rfl, rfl⟩
  clear SH
  gi_wp2_with fail
  have HK := Lib.hid (show HoldsB (((w0.alloc (.cells #[.int .i64 0] 3)).alloc (.cells #[.slice p n cp] 22)).alloc (.cells #[.slice q n cq] 22)) w0.heap.size 3 #[.int .i64 0] from ((HoldsB.new w0 _ _).al _).al _)
  have HB := Lib.hid (show BxL w0 (w0.heap.size + 1) (w0.heap.size + 1 + 1) (.slice p n cp) (.slice q n cq) (((w0.alloc (.cells #[.int .i64 0] 3)).alloc (.cells #[.slice p n cp] 22)).alloc (.cells #[.slice q n cq] 22)) from by
    have h1 := (HoldsB.new (w0.alloc (.cells #[.int .i64 0] 3)) 22 #[.slice p n cp]).al (.cells #[.slice q n cq] 22)
    have h2 := HoldsB.new ((w0.alloc (.cells #[.int .i64 0] 3)).alloc (.cells #[.slice p n cp] 22)) 22 #[.slice q n cq]
    simp only [World.size_alloc] at h1 h2
    exact ⟨w_alloc (w_alloc (w_alloc (w_refl w0) _) _) _, h1, h2⟩)
  have hsz : (((w0.alloc (.cells #[.int .i64 0] 3)).alloc (.cells #[.slice p n cp] 22)).alloc (.cells #[.slice q n cq] 22)).heap.size = w0.heap.size + 3 := by simp only [World.size_alloc]
  generalize ((w0.alloc (.cells #[.int .i64 0] 3)).alloc (.cells #[.slice p n cp] 22)).alloc (.cells #[.slice q n cq] 22) = w3 at *
  refine wpIn_givesS (GV.out _ _) rfl (enters_of Try.func62 (by kernel_rfl) rfl) rfl
    (fun pre A => HoldsB A w0.heap.size 3 #[.int .i64 (pre.length : Int)] ∧ BxL w0 (w0.heap.size + 1) (w0.heap.size + 1 + 1) (.slice p n cp) (.slice q n cq) A)
    (fun _ => False) ?hC ?hI ?hIo ?hIxo ?hIx ?h0
    (fun v _ a' _ => a' = { tmps := #[.slice p n cp, .slice q n cq, undef, undef, .int .i64 0, .int .i64 0, .int .i64 0, .pointer (some ⟨w0.heap.size, 0, none⟩), .slice p n cp, .slice q n cq, .int .i64 0, .int .i64 0, .bool false, undef, .slice p n cp, .slice q n cq, (.func (.func 62) #[] #[.pointer (some ⟨w0.heap.size + 1, 0, none⟩), .pointer (some ⟨w0.heap.size + 1 + 1, 0, none⟩)]), v, undef, undef, undef], defers := [] })
    ?hAx ?assign ?body ?done ?stop
  case hC =>
    rintro pre A ⟨_, h2⟩
    exact h2.plc HP.out HQ.out
  case hI =>
    rintro pre A A' row ⟨h1, h2⟩ hg hr
    exact ⟨holds_own _ _ (fun (_ : Unit) => _) () A A' row h1 hg (fun r e => (hr r e).2), BxL.from_ (by omega) () A A' row h2 hg hr⟩
  case hIo =>
    rintro pre A B ⟨h1, h2⟩ o
    exact ⟨o.keepB (.inl (by omega)) h1, h2.off (by omega) (by omega) (by omega) o⟩
  case hIxo => exact fun _ _ h _ => h
  case hIx => exact fun _ _ _ _ h _ _ => h
  case h0 => exact ⟨HK.out, HB.out⟩
  case hAx =>
    rintro v x a' s A A' row e hg hr
    exact e
  case assign =>
    rintro m2 l2 pre v x A K hle hs ⟨h1, h2⟩ hK
    gi_wp2_with fail
    exact hK _ _ (Mid.refl _ _) ⟨h1, h2⟩ (by kernel_rfl)
  case body =>
    rintro m2 l2 pre v x post a' A hx hle hs ⟨h1, h2⟩ rfl
    have hlen : ((pre ++ [x]).length : Int) = (pre.length : Int) + 1 := by simp
    have hpl : pre.length < xs.length := by rw [hx]; simp
    have x1 : IntKind.i64.wrap ((pre.length : Int) + 1) = (pre.length : Int) + 1 := IntWalk.i64_in _ (by omega)
    have e1 := h1.cell (j := 0) rfl
    have ef := h1.frozen 0
    have H1 := Lib.hid (h1.set 0 (.int .i64 ((pre.length : Int) + 1)))
    have H2 := Lib.hid (h2.put (Nat.le_refl _) (by omega) (by omega) 0 (.int .i64 ((pre.length : Int) + 1)))
    have HM := Lib.hid (Mid.set w3.heap.size A (c := w0.heap.size) (by omega) 0 (.int .i64 ((pre.length : Int) + 1)))
    clear h1 h2 hx hpl hs
    gi_wp2_with fail
    show Mid _ _ _ ∧ _
    dsimp only
    rw [hlen]
    exact ⟨HM.out, H1.out, H2.out⟩
  case done =>
    rintro D A hD ⟨h1, h2⟩ hd
    have e1 := h1.cell (j := 0) rfl
    have hdd := Lib.hid hd
    have hB5 := Lib.hid h2.bel
    clear h1 h2 hd
    gi_wp2_with fail
    refine ⟨by simp, .inl ⟨_, _, rfl, run_takeDeferred hdd.out, ?_⟩⟩
    refine ⟨.tuple #[.int .i64 (xs.length : Int), .int .i64 0], (by simp [results, Try.results28, go_sem]), rfl, ?_⟩
    exact hB5.out.trans (belowK_b (w := w0) (Nat.le_refl _) A D _ _ (by omega) hdd.out rfl rfl)
  case stop =>
    rintro D A hD hx hd
    exact hx.elim

end Go.Proofs.Ytedkcnphplpacaa
