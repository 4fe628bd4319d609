/- The program's tests of one note: sizes, places, fields, and whether a note may stand among its neighbours. -/
import Derived.Test.YtedkcnphplpacaaLgRefA
namespace Go.Proofs.Ytedkcnphplpacaa
open Go.RowKit
attribute [local go_sem] sgA_g0 sgA_g1 sgA_g2 sgA_g3 sgA_g4 sgA_g5 sgA_g6 sgA_g7 sgA_g8 sgA_g9 sgA_g10 sgA_g11 sgA_g12 sgA_g13 sgA_g14 sgA_g15 sgA_g16

theorem wl_store0 {ops : Array Oper} {rest : List Oper} {x y : Operand} {t : TypeId} {ps : String} {af : Array Edge} {a : Act} {Q : Exit → Act → World → Prop} {W : World} (B : Nat) (c : Array Value) (s : Sg) (hB : B = W.heap.size) (hx : a.eval x = .pointer (some ⟨B, 0, none⟩)) (hy : a.eval y = sgv s) (hc : c.size = 17)
    (h : wpList Try.prog ops Q rest a (W.alloc (sgO s))) :
    wpList Try.prog ops Q ({ dst := none, op := .store 30 x y, type := t, pos := ps, after := af, guard := none } :: rest) a (W.alloc (.cells c 30)) :=
  wl_store B c s hB hx hy hc h

def sizeOk (n : Int) : Bool := decide (2 ≤ n ∧ n ≤ 12)
theorem psize_any (n : Int) (w : World) : Calls Try.prog 38 #[.int .i64 n] w fun e w' => e = .returned (.bool (sizeOk n)) ∧ w' = w := by
  unfold sizeOk
  by_cases h : 2 ≤ n
  · by_cases k : n ≤ 12
    · rw [decide_eq_true ⟨h, k⟩]
      go_enter Try.func38, Try.ntmps38
      go_wp2_with fail
      go_ret
      exact ⟨rfl, rfl⟩
    · rw [decide_eq_false (fun g => k g.2)]
      go_enter Try.func38, Try.ntmps38
      go_wp2_with fail
      go_ret
      exact ⟨rfl, rfl⟩
  · rw [decide_eq_false (fun g => h g.1)]
    go_enter Try.func38, Try.ntmps38
    go_wp2_with fail
    go_ret
    exact ⟨rfl, rfl⟩
def placeOk (n : Int) : Bool := decide (-4 ≤ n ∧ n ≤ 12)
theorem pplace_any (n : Int) (w : World) : Calls Try.prog 56 #[.int .i64 n] w fun e w' => e = .returned (.bool (placeOk n)) ∧ w' = w := by
  unfold placeOk
  by_cases h : -4 ≤ n
  · by_cases k : n ≤ 12
    · rw [decide_eq_true ⟨h, k⟩]
      go_enter Try.func56, Try.ntmps56
      go_wp2_with fail
      go_ret
      exact ⟨rfl, rfl⟩
    · rw [decide_eq_false (fun g => k g.2)]
      go_enter Try.func56, Try.ntmps56
      go_wp2_with fail
      go_ret
      exact ⟨rfl, rfl⟩
  · rw [decide_eq_false (fun g => h g.1)]
    go_enter Try.func56, Try.ntmps56
    go_wp2_with fail
    go_ret
    exact ⟨rfl, rfl⟩

def fldE (s : Sg) : Int := if s.kind ≠ 4 then 8 else if badRange s then 2 else 0
set_option maxHeartbeats 4000000 in
theorem pfld_any (s : Sg) (w : World) : Calls Try.prog 39 #[sgv s] w fun e w' => e = .returned (.int .i64 (fldE s)) ∧ Below w.heap.size w w' := by
  have HN := sg_new w s
  have B1 := Lib.hid (w_alloc (w_refl w) (sgO s))
  have k0 := HN.cell (j := 0) (v := .int .i64 s.kind) rfl
  have k2 := HN.cell (j := 2) (v := .int .i64 s.place) rfl
  have k3 := HN.cell (j := 3) (v := .int .i64 s.acc) rfl
  have k5 := HN.cell (j := 5) (v := .int .i64 s.stem) rfl
  have IP := Lib.hid (fun W => pplace_any s.place W)
  clear HN
  by_cases hk : s.kind ≠ 4
  · rw [show fldE s = 8 from if_pos hk]
    have hk1 : (s.kind != 4) = true := by simp [hk]
    have hk2 : (s.kind == 4) = false := by simp [hk]
    clear hk IP
    go_enter Try.func39, Try.ntmps39
    go_wp2_with (first | (refine wl_box s (by kernel_rfl) ?_) | fail)
    go_ret
    exact ⟨rfl, B1.out⟩
  have hk1 : (s.kind != 4) = false := by simpa using hk
  have hk2 : (s.kind == 4) = true := by simpa using hk
  unfold placeOk at IP
  by_cases hr : badRange s
  · rw [show fldE s = 2 by unfold fldE; rw [if_neg hk, if_pos hr]]
    clear hk
    by_cases hp : -4 ≤ s.place ∧ s.place ≤ 12
    · rw [decide_eq_true hp] at IP
      have ways : s.acc < -1 ∨ (-1 ≤ s.acc ∧ 2 < s.acc) ∨ (-1 ≤ s.acc ∧ s.acc ≤ 2 ∧ s.stem < 0) ∨ (-1 ≤ s.acc ∧ s.acc ≤ 2 ∧ 0 ≤ s.stem ∧ 3 < s.stem) := by
        unfold badRange at hr; omega
      clear hr hp
      rcases ways with g1 | ⟨g1, g2⟩ | ⟨g1, g2, g3⟩ | ⟨g1, g2, g3, g4⟩
      all_goals
        go_enter Try.func39, Try.ntmps39
        go_wp2_with (first | (refine wl_box s (by kernel_rfl) ?_) | fail)
        refine (IP.out _).mono ?_
        rintro e w1 ⟨rfl, rfl⟩
        go_wp2_with fail
        go_ret
        exact ⟨rfl, B1.out⟩
    · rw [decide_eq_false hp] at IP
      clear hr hp
      go_enter Try.func39, Try.ntmps39
      go_wp2_with (first | (refine wl_box s (by kernel_rfl) ?_) | fail)
      refine (IP.out _).mono ?_
      rintro e w1 ⟨rfl, rfl⟩
      go_wp2_with fail
      go_ret
      exact ⟨rfl, B1.out⟩
  · rw [show fldE s = 0 by unfold fldE; rw [if_neg hk, if_neg hr]]
    have g3 : ¬ s.acc < -1 := by unfold badRange at hr; omega
    have g4 : ¬ 2 < s.acc := by unfold badRange at hr; omega
    have g5 : ¬ s.stem < 0 := by unfold badRange at hr; omega
    have g6 : ¬ 3 < s.stem := by unfold badRange at hr; omega
    rw [decide_eq_true (show -4 ≤ s.place ∧ s.place ≤ 12 by unfold badRange at hr; omega)] at IP
    clear hk hr
    go_enter Try.func39, Try.ntmps39
    go_wp2_with (first | (refine wl_box s (by kernel_rfl) ?_) | fail)
    refine (IP.out _).mono ?_
    rintro e w1 ⟨rfl, rfl⟩
    go_wp2_with fail
    go_ret
    exact ⟨rfl, B1.out⟩

set_option maxHeartbeats 4000000 in
theorem ponly_any (s : Sg) (w : World) : Calls Try.prog 40 #[sgv s] w fun e w' => e = .returned (sgv (bareS s)) ∧ Below w.heap.size w w' := by
  have HN := Lib.hid (sg_new (w.alloc (sgO s)) (bareS s))
  rw [World.size_alloc] at HN
  have e := sg_new w s
  have k0 := (e.al zO).cell (j := 0) rfl
  have k2 := (e.al zO).cell (j := 2) rfl
  have k3 := (e.al zO).cell (j := 3) rfl
  have k4 := (e.al zO).cell (j := 4) rfl
  have k5 := (e.al zO).cell (j := 5) rfl
  have k6 := (e.al zO).cell (j := 6) rfl
  have k7 := (e.al zO).cell (j := 7) rfl
  clear e
  go_enter Try.func40, Try.ntmps40
  go_wp2_with (first | (refine wl_box s (by kernel_rfl) ?_) | (refine wl_store (w.heap.size + 1) _ (bareS s) (by simp) (by kernel_rfl) (by kernel_rfl) rfl ?_) | fail)
  refine bodyPost_ret (res_sg rfl (by kernel_rfl) HN.out.sg) rfl ⟨rfl, ?_⟩
  exact w_alloc (w_alloc (w_refl w) _) _

/-! ### Whether a note may stand among its neighbours -/
def obP (l : List Sg) (i : Nat) : Bool := (l.getD i zS).obl && ((l.getD i zS).last || ((l.getD (i + 1) zS).obl || decide ((l.getD i zS).place ≤ (l.getD (i + 1) zS).place)))
def stP (l : List Sg) (i : Nat) : Bool := ((l.getD i zS).stem == 1 || (l.getD i zS).stem == 2) || ((l.getD i zS).place == (l.getD (i - 1) zS).place)
def rtP (l : List Sg) (i : Nat) : Bool := (decide (1 < i) || (l.getD i zS).stem != 3) || (l.getD 0 zS).stem != 1
def frmP (l : List Sg) (i : Nat) : Bool := !(obP l i) && (decide (i = 0) || (!(stP l i) && rtP l i))

set_option maxRecDepth 100000 in
set_option maxHeartbeats 8000000 in
theorem pfrm_any (l : List Sg) (i : Nat) (hi : i < l.length) (hm : l.length ≤ 1000) (hnx : (l.getD i zS).last = true ∨ i + 1 < l.length) (p : Option Addr) (cap : Nat) (w : World) (h : SlP w 17 p l.length cap (flatG l)) :
    Calls Try.prog 41 #[.slice p l.length cap, .int .i64 i] w fun e w' => e = .returned (.bool (frmP l i)) ∧ Below w.heap.size w w' := by
  have f1 := h.fit
  have f2 := h.max
  obtain ⟨b, off, rfl, _, hs⟩ := h.sg (sg_some hi)
  have HL := Lib.hid h
  have HS := Lib.hid hs
  have hlt : (i : Int) < l.length := by omega
  have hi0 : (0 : Int) ≤ i := by omega
  have HF := Lib.hid (show frmP l i = (!(obP l i) && (decide (i = 0) || (!(stP l i) && rtP l i))) from rfl)
  have HO := Lib.hid (show obP l i = ((l.getD i zS).obl && ((l.getD i zS).last || ((l.getD (i + 1) zS).obl || decide ((l.getD i zS).place ≤ (l.getD (i + 1) zS).place)))) from rfl)
  have HT := Lib.hid (show stP l i = (((l.getD i zS).stem == 1 || (l.getD i zS).stem == 2) || ((l.getD i zS).place == (l.getD (i - 1) zS).place)) from rfl)
  have HR := Lib.hid (show rtP l i = ((decide (1 < i) || (l.getD i zS).stem != 3) || (l.getD 0 zS).stem != 1) from rfl)
  clear h hs
  generalize frmP l i = FF at *
  generalize obP l i = OO at *
  generalize stP l i = TT at *
  generalize rtP l i = RR at *
  generalize l.getD i zS = s at *
  have HN := Lib.hid (sg_new w s)
  have B1 := Lib.hid (w_alloc (w_refl w) (sgO s))
  have FY := Lib.hid (show Below w.heap.size w (w.alloc (sgO s)) ∧ HoldsB (w.alloc (sgO s)) w.heap.size 30 (sgA s) from ⟨B1.out, HN.out⟩)
  clear B1 HN
  go_enter Try.func41, Try.ntmps41
  go_wp2_with (first | (refine wl_load b (off + i * 17) s (by kernel_rfl) HS.out ?_) | (refine wl_store0 w.heap.size _ s rfl (by kernel_rfl) (by kernel_rfl) rfl ?_) | fail)
  go_cut [34] (fun s34 wx => s34 = .bool OO ∧ Hid (Below w.heap.size w wx ∧ HoldsB wx w.heap.size 30 (sgA s)))
  case first =>
    clear HF HT HR HS
    have k6 := FY.out.2.cell (j := 6) (v := .bool s.obl) rfl
    have k7 := FY.out.2.cell (j := 7) (v := .bool s.last) rfl
    have k2 := FY.out.2.cell (j := 2) (v := .int .i64 s.place) rfl
    cases ho : s.obl with
    | false =>
      rw [ho] at k6 HO
      have hB := HO.out
      clear HO k2 k7
      go_quiet (fail)
      go_wp2_with fail
      go_meet
      exact ⟨by rw [hB]; rfl, Lib.hid ⟨FY.out.1.trans ⟨rfl, rfl, rfl, Nat.le_refl _, fun _ _ => rfl⟩, FY.out.2.later ⟨rfl, rfl, rfl, Nat.le_refl _, fun _ _ => rfl⟩⟩⟩
    | true =>
      rw [ho] at k6 HO
      cases hl : s.last with
      | true =>
        rw [hl] at k7 HO
        have hB := HO.out
        clear HO k2
        go_quiet (fail)
        go_wp2_with fail
        go_meet
        exact ⟨by rw [hB]; rfl, Lib.hid ⟨FY.out.1.trans ⟨rfl, rfl, rfl, Nat.le_refl _, fun _ _ => rfl⟩, FY.out.2.later ⟨rfl, rfl, rfl, Nat.le_refl _, fun _ _ => rfl⟩⟩⟩
      | false =>
        rw [hl] at k7 HO
        have hn : i + 1 < l.length := by
          rcases hnx with g | g
          · rw [hl] at g; cases g
          · exact g
        have hn1 : (i : Int) + 1 < l.length := by omega
        have hn0 : (0 : Int) ≤ (i : Int) + 1 := by omega
        have x2 : IntKind.i64.wrap ((i : Int) + 1) = (i : Int) + 1 := IntWalk.i64_in _ (by omega)
        obtain ⟨_, _, e9, _, hx⟩ := (HL.out.later FY.out.1).sg (sg_some hn)
        injection e9 with e9
        injection e9 with e9 e10 _
        subst e9 e10
        generalize l.getD (i + 1) zS = nx at *
        have n2 := hx.e2
        have n6 := hx.e6
        clear hx hn hnx
        cases hp : nx.obl with
        | true =>
          rw [hp] at n6 HO
          have hB := HO.out
          clear HO
          go_quiet (fail)
          go_wp2_with fail
          go_meet
          exact ⟨by rw [hB]; rfl, Lib.hid ⟨FY.out.1.trans ⟨rfl, rfl, rfl, Nat.le_refl _, fun _ _ => rfl⟩, FY.out.2.later ⟨rfl, rfl, rfl, Nat.le_refl _, fun _ _ => rfl⟩⟩⟩
        | false =>
          rw [hp] at n6 HO
          by_cases hq : s.place ≤ nx.place
          · rw [decide_eq_true hq] at HO
            have hB := HO.out
            clear HO
            go_quiet (fail)
            go_wp2_with fail
            go_meet
            exact ⟨by rw [hB]; rfl, Lib.hid ⟨FY.out.1.trans ⟨rfl, rfl, rfl, Nat.le_refl _, fun _ _ => rfl⟩, FY.out.2.later ⟨rfl, rfl, rfl, Nat.le_refl _, fun _ _ => rfl⟩⟩⟩
          · rw [decide_eq_false hq] at HO
            have hB := HO.out
            clear HO
            go_quiet (fail)
            go_wp2_with fail
            go_meet
            exact ⟨by rw [hB]; rfl, Lib.hid ⟨FY.out.1.trans ⟨rfl, rfl, rfl, Nat.le_refl _, fun _ _ => rfl⟩, FY.out.2.later ⟨rfl, rfl, rfl, Nat.le_refl _, fun _ _ => rfl⟩⟩⟩
  case rest =>
    clear FY HO hnx HS
    obtain ⟨rfl, FY⟩ := hcut
    cases OO with
    | true =>
      have hF := Lib.hid (show FF = false by rw [HF.out]; rfl)
      clear HF
      go_wp2_with fail
      go_ret
      exact ⟨by rw [hF.out]; rfl, FY.out.1⟩
    | false =>
    by_cases hz : i = 0
    · have hF := Lib.hid (show FF = true by rw [HF.out, decide_eq_true hz]; rfl)
      have hz1 : ((i : Int) == 0) = true := by simp; omega
      clear HF hz
      go_wp2_with fail
      go_ret
      exact ⟨by rw [hF.out]; rfl, FY.out.1⟩
    have hz1 : ((i : Int) == 0) = false := by simp; omega
    rw [decide_eq_false hz] at HF
    go_upto_region 6 with (fail)
    go_cut [55] (fun s55 wx => s55 = .bool TT ∧ Hid (Below w.heap.size w wx ∧ HoldsB wx w.heap.size 30 (sgA s)))
    case first =>
      clear HF HR hz1
      have k2 := FY.out.2.cell (j := 2) (v := .int .i64 s.place) rfl
      have k5 := FY.out.2.cell (j := 5) (v := .int .i64 s.stem) rfl
      by_cases h1 : s.stem = 1
      · have q1 : (s.stem == 1) = true := by simp [h1]
        rw [q1] at HT
        have hB := HT.out
        clear HT h1
        go_quiet (fail)
        go_wp2_with fail
        go_meet
        exact ⟨by rw [hB]; rfl, Lib.hid ⟨FY.out.1.trans ⟨rfl, rfl, rfl, Nat.le_refl _, fun _ _ => rfl⟩, FY.out.2.later ⟨rfl, rfl, rfl, Nat.le_refl _, fun _ _ => rfl⟩⟩⟩
      have q1 : (s.stem == 1) = false := by simp [h1]
      rw [q1] at HT
      by_cases h2 : s.stem = 2
      · have q2 : (s.stem == 2) = true := by simp [h2]
        rw [q2] at HT
        have hB := HT.out
        clear HT h1 h2
        go_quiet (fail)
        go_wp2_with fail
        go_meet
        exact ⟨by rw [hB]; rfl, Lib.hid ⟨FY.out.1.trans ⟨rfl, rfl, rfl, Nat.le_refl _, fun _ _ => rfl⟩, FY.out.2.later ⟨rfl, rfl, rfl, Nat.le_refl _, fun _ _ => rfl⟩⟩⟩
      have q2 : (s.stem == 2) = false := by simp [h2]
      rw [q2] at HT
      clear h1 h2
      obtain ⟨j, rfl⟩ : ∃ j, i = j + 1 := ⟨i - 1, by omega⟩
      rw [Nat.add_sub_cancel] at HT
      have x2 : IntKind.i64.wrap (((j + 1 : Nat) : Int) - 1) = (j : Int) := by rw [IntWalk.i64_in _ (by omega)]; omega
      have hj0 : (0 : Int) ≤ (j : Int) := by omega
      have hj1 : (j : Int) < l.length := by omega
      obtain ⟨_, _, e9, _, hx⟩ := (HL.out.later FY.out.1).sg (sg_some (show j < l.length by omega))
      injection e9 with e9
      injection e9 with e9 e10 _
      subst e9 e10
      generalize l.getD j zS = nx at *
      have n2 := hx.e2
      clear hx
      generalize ((j + 1 : Nat) : Int) = ji at *
      have hB := HT.out
      clear HT
      go_quiet (fail)
      go_wp2_with fail
      go_meet
      exact ⟨by rw [hB]; rfl, Lib.hid ⟨FY.out.1.trans ⟨rfl, rfl, rfl, Nat.le_refl _, fun _ _ => rfl⟩, FY.out.2.later ⟨rfl, rfl, rfl, Nat.le_refl _, fun _ _ => rfl⟩⟩⟩
    case rest =>
    clear FY HT hz1
    obtain ⟨rfl, FY⟩ := hcut
    cases TT with
    | true =>
      have hF := Lib.hid (show FF = false by rw [HF.out]; rfl)
      clear HF
      go_wp2_with fail
      go_ret
      exact ⟨by rw [hF.out]; rfl, FY.out.1⟩
    | false =>
    have hF := Lib.hid (show FF = RR by rw [HF.out]; simp)
    clear HF
    have k5 := FY.out.2.cell (j := 5) (v := .int .i64 s.stem) rfl
    obtain ⟨_, _, e9, _, hx⟩ := (HL.out.later FY.out.1).sg (sg_some (show 0 < l.length by omega))
    injection e9 with e9
    injection e9 with e9 e10 _
    subst e9 e10
    generalize l.getD 0 zS = nx at *
    have n5 := hx.e5
    simp only [Nat.zero_mul, Nat.add_zero] at n5
    have hl0 : (0 : Int) < l.length := by omega
    clear hx
    by_cases h1 : 1 < i
    · have h1' : (1 : Int) < i := by omega
      rw [decide_eq_true h1] at HR
      have hB := Lib.hid (show FF = true by rw [hF.out, HR.out]; rfl)
      clear HR hF h1
      go_wp2_with fail
      go_ret
      exact ⟨by rw [hB.out]; rfl, FY.out.1⟩
    have h1' : ¬ (1 : Int) < i := by omega
    rw [decide_eq_false h1] at HR
    clear h1
    by_cases h3 : s.stem = 3
    · have q3 : (s.stem != 3) = false := by simp [h3]
      have q4 : (s.stem == 3) = true := by simp [h3]
      rw [q3] at HR
      have hB := Lib.hid (show FF = (nx.stem != 1) by rw [hF.out, HR.out]; rfl)
      clear HR hF h3
      go_wp2_with fail
      go_ret
      exact ⟨by rw [hB.out]; rfl, FY.out.1⟩
    · have q3 : (s.stem != 3) = true := by simp [h3]
      have q4 : (s.stem == 3) = false := by simp [h3]
      rw [q3] at HR
      have hB := Lib.hid (show FF = true by rw [hF.out, HR.out]; rfl)
      clear HR hF h3
      go_wp2_with fail
      go_ret
      exact ⟨by rw [hB.out]; rfl, FY.out.1⟩

end Go.Proofs.Ytedkcnphplpacaa
