/- The reference's shapes: all valid shapes with places and values. -/
import Derived.Test.YtedkcnphplpacaaLgRefD
import Derived.Test.YtedkcnphplpacaaLgLst
namespace Go.Proofs.Ytedkcnphplpacaa
open Go.RowKit
attribute [local go_sem] sgA_g0 sgA_g1 sgA_g2 sgA_g3 sgA_g4 sgA_g5 sgA_g6 sgA_g7 sgA_g8 sgA_g9 sgA_g10 sgA_g11 sgA_g12 sgA_g13 sgA_g14 sgA_g15 sgA_g16

def optL : List (Int × Bool) := [(0, false), (0, true), (1, false), (1, true), (2, false), (2, true), (3, false), (3, true)]
def putG (l : List Sg) (i : Nat) (o : Int × Bool) : List Sg := l.set i (setOb (setSt (l.getD i zS) o.1) o.2)
def bothG (l : List Sg) (i : Nat) : Bool := decide (0 < i) && (l.getD (i - 1) zS).obl && (l.getD i zS).obl
def goodG (vs : List Int) (l : List Sg) (i : Nat) : Bool := (!bothG l i && (errG l i == 0)) && (valG l i == vs.getD i 0)
def shpG (vs : List Int) : Nat → List Sg → Nat → List (List Sg)
  | 0, l, _ => [l]
  | n + 1, l, i => optL.flatMap fun o => if goodG vs (putG l i o) i = true then shpG vs n (putG l i o) (i + 1) else []
theorem putG_len (l : List Sg) (i : Nat) (o : Int × Bool) : (putG l i o).length = l.length := by unfold putG; simp
def ShpPost (vs : List Int) (n : Nat) (l : List Sg) (i : Nat) (w : World) (e : Ending) (w' : World) : Prop := ∃ v us, e = .returned v ∧ GrpL w w' v us (shpG vs n l i)

theorem info_grp : (Try.prog.info? 23).map (fun i => (i.zero, i.size, i.bytes)) = some (some (.slice none 0 0), 1, 24) := by kernel_rfl

set_option maxRecDepth 100000 in
set_option maxHeartbeats 8000000 in
theorem rshp_end (vs : List Int) (l : List Sg) (hm : l.length ≤ 12) (p : Option Addr) (cap : Nat) (w : World) (h : SlP w 17 p l.length cap (flatG l)) (z : Value) :
    Calls Try.prog 66 #[.slice p l.length cap, z, .int .i64 (l.length : Int)] w (ShpPost vs 0 l l.length w) := by
  unfold ShpPost
  obtain ⟨i0, hi0, hz0, hz1, hz2⟩ := info_parts info_sign
  have f1 := h.fit
  have f2 := h.max
  have HS := Lib.hid h
  clear h
  go_enter Try.func66, Try.ntmps66
  go_wp2_with (at_builtin; refine wpList_append_sl rfl _ _ 23 rfl w.heap.size 30 i0 (sgv zS) 17 128 Try.underlying23 hi0 hz0 hz1 hz2 rfl (by decide) _ 0 (flatG []) rfl (World.ownsRow_lit w #[] 0 (Nat.le_refl _) (by unfold maxLen; omega) rfl) p l.length cap (flatG l) rfl (HS.out.later (w_alloc (w_refl w) _)) (by unfold maxLen; omega) (by omega) (by simp) ?_)
  intro v' w1 hown hgrow
  have HN := Lib.hid (show OwnL w w1 30 17 v' l.length (flatG l) by
    have HA : OwnL w (w.alloc (.cells #[] 30)) 30 17 (.slice (some ⟨w.heap.size, 0, none⟩) 0 0) 0 (flatG []) := ⟨w_alloc (w_refl w) _, World.ownsRow_lit w #[] 0 (Nat.le_refl _) (by unfold maxLen; omega) rfl⟩
    have := HA.app (w_refl _) hown hgrow
    first | exact this | (rw [Nat.zero_add] at this; exact this))
  clear hown hgrow
  obtain ⟨q2, c2, hv⟩ := HN.out.val
  subst hv
  go_wp2_with fail
  go_ret
  refine ⟨_, [.slice q2 l.length c2], rfl, ⟨w_alloc HN.out.bel _, ?_⟩, ?_⟩
  · exact World.ownsRow_lit w1 #[.slice q2 l.length c2] 1 HN.out.bel.size (by unfold maxLen; omega) rfl
  · exact Inn.one (own_keep HN.out.row (w_alloc (w_refl w1) _) (Nat.le_refl _))

theorem opt_at {t r : Nat} (ht : t < 4) (hr : r < 2) : optL[2 * t + r]? = some ((t : Int), decide ((r : Int) = 1)) := by
  have hall : ∀ t ∈ List.range 4, ∀ r ∈ List.range 2, optL[2 * t + r]? = some ((t : Int), decide ((r : Int) = 1)) := by decide
  exact hall t (List.mem_range.2 ht) r (List.mem_range.2 hr)
theorem putG_at (l : List Sg) (i : Nat) (a : Int) (b : Bool) : (l.set i (setSt (l.getD i zS) a)).set i (setOb (setSt (l.getD i zS) a) b) = putG l i (a, b) := by
  unfold putG; rw [List.set_set]
theorem own_some {w : World} {base : Nat} {e : TypeId} {k : Nat} {q : Option Addr} {n c : Nat} {xs : List Value} (h : w.ownsRow base e k (.slice q n c) n xs) (hn : 0 < n) : ∃ g, q = some ⟨g, 0, none⟩ ∧ base ≤ g ∧ g < w.heap.size := by
  rcases h.2 with ⟨e1, e2⟩ | ⟨g, cap, cur, e1, hb, hg, _⟩
  · omega
  · simp only [Value.slice.injEq, true_and] at e1
    exact ⟨g, e1.1, hb, (Array.getElem?_eq_some_iff.1 hg).1⟩
theorem flat_len {F : Int × Bool → List (List Sg)} {B : Nat} (h : ∀ o, (F o).length ≤ B) : ∀ L : List (Int × Bool), (L.flatMap F).length ≤ L.length * B
  | [] => by simp
  | o :: t => by
    have := flat_len h t
    have := h o
    rw [List.flatMap_cons, List.length_append, List.length_cons, Nat.add_mul]
    omega
theorem shp_len (vs : List Int) : ∀ (n : Nat) (l : List Sg) (i : Nat), (shpG vs n l i).length ≤ 8 ^ n
  | 0, _, _ => Nat.le_refl 1
  | n + 1, l, i => by
    have := flat_len (F := fun o => if goodG vs (putG l i o) i = true then shpG vs n (putG l i o) (i + 1) else []) (B := 8 ^ n) (fun o => by
      split
      · exact shp_len vs n _ _
      · simp) optL
    rw [Nat.pow_succ]
    show (optL.flatMap _).length ≤ _
    have e : optL.length = 8 := rfl
    rw [e] at this
    omega

set_option maxRecDepth 100000 in
set_option maxHeartbeats 40000000 in
theorem rshp_any (vs : List Int) (pv : Option Addr) (cv : Nat) : ∀ (n : Nat) (l : List Sg) (i : Nat), i + n = l.length → 2 ≤ l.length → l.length ≤ 12 → ∀ (w : World) (p : Option Addr) (cap : Nat), SlP w 17 p l.length cap (flatG l) → SlP w 1 pv l.length cv (ints vs) →
    Calls Try.prog 66 #[.slice p l.length cap, .slice pv l.length cv, .int .i64 (i : Int)] w (ShpPost vs n l i w)
  := by
  intro n
  induction n with
  | zero =>
    intro l i hin _ h12 w p cap h _
    obtain rfl : i = l.length := by omega
    exact rshp_end vs l h12 p cap w h _
  | succ n ih =>
    intro l i hin h2 h12 w p cap h hv
    have IH := Lib.hid (fun (x : List Sg) (hx : x.length = l.length) (W : World) (b : Below w.heap.size w W) (q : Option Addr) (c : Nat) (hq : SlP W 17 q x.length c (flatG x)) => ih x (i + 1) (by omega) (by omega) (by omega) W q c hq (hx.symm ▸ hv.later b))
    clear ih
    have hi : i < l.length := by omega
    obtain ⟨i0, hi0, hz0, hz1, hz2⟩ := info_parts info_sign
    obtain ⟨j0, hj0, hy0, hy1, hy2⟩ := info_parts info_grp
    have f1 := h.fit
    have f2 := h.max
    have f3 := hv.fit
    have f4 := hv.max
    have HS := Lib.hid h
    have HV := Lib.hid hv
    have hF : shpG vs (n + 1) l i = optL.flatMap (fun o => if goodG vs (putG l i o) i = true then shpG vs n (putG l i o) (i + 1) else []) := rfl
    unfold ShpPost
    rw [hF]
    have HX := Lib.hid (show ∀ k o, optL[k]? = some o → (optL.take (k + 1)).flatMap (fun o => if goodG vs (putG l i o) i = true then shpG vs n (putG l i o) (i + 1) else []) = (optL.take k).flatMap (fun o => if goodG vs (putG l i o) i = true then shpG vs n (putG l i o) (i + 1) else []) ++ (if goodG vs (putG l i o) i = true then shpG vs n (putG l i o) (i + 1) else []) from fun k o ho => by
      rw [List.take_add_one, ho, List.flatMap_append]; simp)
    have HE := Lib.hid (show (optL.take 8).flatMap (fun o => if goodG vs (putG l i o) i = true then shpG vs n (putG l i o) (i + 1) else []) = optL.flatMap (fun o => if goodG vs (putG l i o) i = true then shpG vs n (putG l i o) (i + 1) else []) from rfl)
    have H0 : (optL.take 0).flatMap (fun o => if goodG vs (putG l i o) i = true then shpG vs n (putG l i o) (i + 1) else []) = [] := rfl
    have HB8 := Lib.hid (show ∀ k, k ≤ 8 → ((optL.take k).flatMap (fun o => if goodG vs (putG l i o) i = true then shpG vs n (putG l i o) (i + 1) else [])).length ≤ 8 * 8 ^ n from fun k hk => by
      have := flat_len (F := fun o => if goodG vs (putG l i o) i = true then shpG vs n (putG l i o) (i + 1) else []) (B := 8 ^ n) (fun o => by
        split
        · exact shp_len vs n _ _
        · simp) (optL.take k)
      rw [List.length_take, show optL.length = 8 from rfl] at this
      exact Nat.le_trans this (Nat.mul_le_mul_right _ (by omega)))
    have h8n : 8 ^ n ≤ 8589934592 := Nat.le_trans (Nat.pow_le_pow_right (by decide) (show n ≤ 11 by omega)) (by decide : 8 ^ 11 ≤ 8589934592)
    have HL8 := Lib.hid (fun x => shp_len vs n x (i + 1))
    generalize 8 ^ n = B8 at *
    generalize hFL : (fun k : Nat => (optL.take k).flatMap (fun o => if goodG vs (putG l i o) i = true then shpG vs n (putG l i o) (i + 1) else [])) = FL at *
    have hfl : ∀ k : Nat, (optL.take k).flatMap (fun o => if goodG vs (putG l i o) i = true then shpG vs n (putG l i o) (i + 1) else []) = FL k := fun k => congrFun hFL k
    simp only [hfl] at HX HE H0 HB8
    clear h hv hF hFL hfl
    generalize optL.flatMap (fun o => if goodG vs (putG l i o) i = true then shpG vs n (putG l i o) (i + 1) else []) = RES at *
    have hne : ((i : Int) == (l.length : Int)) = false := by simp; omega
    go_enter Try.func66, Try.ntmps66
    go_wp2_with fail
    go_loopw [7, 8] (fun v s8 wr => ∃ (t : Nat) (us : List Value), t ≤ 4 ∧ s8 = .int .i64 (t : Int) ∧ (∃ q m c, v = .slice q m c) ∧ Hid (GrpL w wr v us (FL (2 * t)))) (fun _ s8 _ => (4 - intOf s8).toNat)
    case atStart => exact ⟨0, [], by omega, rfl, ⟨none, 0, 0, rfl⟩, Lib.hid (by rw [Nat.mul_zero, H0]; exact GrpL.start w)⟩
    case round =>
      rename World => wr
      clear H0
      obtain ⟨t, us, ht, rfl, ⟨q, m, c, rfl⟩, hg⟩ := hrel
      by_cases hlt : t < 4
      · have hlt' : (t : Int) ≤ 3 := by omega
        go_wp2_with fail
        go_loopw [7, 9] (fun v s9 wx => ∃ (r : Nat) (us : List Value), r ≤ 2 ∧ s9 = .int .i64 (r : Int) ∧ (∃ q m c, v = .slice q m c) ∧ Hid (GrpL w wx v us (FL (2 * t + r)))) (fun _ s9 _ => (2 - intOf s9).toNat)
        case atStart => exact ⟨0, us, by omega, rfl, ⟨q, m, c, rfl⟩, hg⟩
        case round =>
          clear hg
          rename World => wx
          obtain ⟨r, us, hr, rfl, ⟨q, m, c, rfl⟩, hg⟩ := hrel
          by_cases hr2 : r < 2
          · have hr2' : (r : Int) < 2 := by omega
            have HX1 := Lib.hid (HX.out (2 * t + r) _ (opt_at hlt hr2))
            have hB1 := HB8.out (2 * t + r) (by omega)
            have hB2 := HB8.out (2 * t + r + 1) (by omega)
            have hbo : ((r : Int) == 1) = decide ((r : Int) = 1) := by
              by_cases e : (r : Int) = 1
              · rw [decide_eq_true e, e]; rfl
              · rw [decide_eq_false e]; simp [e]
            generalize decide ((r : Int) = 1) = bo at *
            have hpx := putG_at l i (t : Int) bo
            obtain ⟨x, hx⟩ : ∃ x, putG l i ((t : Int), bo) = x := ⟨_, rfl⟩
            have hxl : x.length = l.length := by rw [← hx]; exact putG_len l i _
            rw [hx] at HX1 hpx
            go_wp2_with (at_builtin; refine wpList_append_sl rfl _ _ 23 rfl wx.heap.size 30 i0 (sgv zS) 17 128 Try.underlying23 hi0 hz0 hz1 hz2 rfl (by decide) _ 0 (flatG []) rfl (World.ownsRow_lit wx #[] 0 (Nat.le_refl _) (by unfold maxLen; omega) rfl) p l.length cap (flatG l) rfl (HS.out.later (w_below hg.out.own.bel (w_alloc (w_refl wx) _))) (by unfold maxLen; omega) (by omega) (by simp) ?_)
            intro v' w1 hown hgrow
            have HN := Lib.hid (show OwnL wx w1 30 17 v' l.length (flatG l) by
              have HA : OwnL wx (wx.alloc (.cells #[] 30)) 30 17 (.slice (some ⟨wx.heap.size, 0, none⟩) 0 0) 0 (flatG []) := ⟨w_alloc (w_refl wx) _, World.ownsRow_lit wx #[] 0 (Nat.le_refl _) (by unfold maxLen; omega) rfl⟩
              have := HA.app (w_refl _) hown hgrow
              first | exact this | (rw [Nat.zero_add] at this; exact this))
            clear hown hgrow
            obtain ⟨q2, c2, hv⟩ := HN.out.val
            subst hv
            obtain ⟨g, rfl, hgb, hgl⟩ := own_some HN.out.row (by omega)
            have hc2 := (SlP.of_own HN.out.row (flatG_len l) (flatG_one l))
            have hs5 := flatG_at l i _ (sg_some hi) 5 (by decide)
            have hs6 := flatG_at l i _ (sg_some hi) 6 (by decide)
            have d5 : w1.cell? ⟨g, i * 17 + 5, none⟩ = some (.int .i64 (l.getD i zS).stem) := by rw [HN.out.row.cellAt (i * 17 + 5) (by omega), hs5]; rfl
            have fr5 := HN.out.row.frozenAt (i * 17 + 5)
            have R2 := own_set HN.out.row (i * 17 + 5) (.int .i64 (t : Int))
            rw [flatG_stem l i _ _ (sg_some hi)] at R2
            have d6 : (w1.setCell ⟨g, i * 17 + 5, none⟩ (.int .i64 (t : Int))).cell? ⟨g, i * 17 + 6, none⟩ = some (.bool (l.getD i zS).obl) := by
              rw [World.cell?_setCell_other _ _ _ _ (by intro e; injection e with _ e _; omega), HN.out.row.cellAt (i * 17 + 6) (by omega), hs6]; rfl
            have fr6 := HN.out.row.frozenAt (i * 17 + 6)
            have R3 := own_set R2 (i * 17 + 6) (.bool bo)
            rw [flatG_obl _ i (setSt (l.getD i zS) t) bo (by simp [hi]), hpx] at R3
            have HY := Lib.hid (show Below wx.heap.size wx ((w1.setCell ⟨g, i * 17 + 5, none⟩ (.int .i64 (t : Int))).setCell ⟨g, i * 17 + 6, none⟩ (.bool bo)) from w_put (w_put HN.out.bel hgb _ _) hgb _ _)
            have HR := Lib.hid R3
            clear R2 R3 hc2 hs5 hs6
            go_upto_region 12 with (fail)
            clear d5 d6 fr5 fr6 HN
            generalize (w1.setCell ⟨g, i * 17 + 5, none⟩ (.int .i64 (t : Int))).setCell ⟨g, i * 17 + 6, none⟩ (.bool bo) = y at *
            obtain ⟨p5, c5, e5, hsx⟩ := SlP.of_own HR.out (by rw [← hxl]; exact flatG_len x) (flatG_one x)
            injection e5 with e5 _ e6
            subst e5 e6
            rw [← hxl] at hsx
            have hVy := HV.out.later (w_below hg.out.own.bel HY.out)
            obtain ⟨bv, ov, rfl, _, hvc⟩ := hVy.at_ (by omega)
            have FY := Lib.hid (show GrpL w y (.slice q m c) us (FL (2 * t + r)) ∧ SlP y 17 (some ⟨g, 0, none⟩) x.length c2 (flatG x) ∧ SlP y 1 (some ⟨bv, ov, none⟩) l.length cv (ints vs) from ⟨hg.out.later HY.out, hsx, hVy⟩)
            obtain ⟨want, hwant⟩ : ∃ z, vs.getD i 0 = z := ⟨_, rfl⟩
            have hcw : ∀ W, SlP W 1 (some ⟨bv, ov, none⟩) l.length cv (ints vs) → W.cell? ⟨bv, ov + i, none⟩ = some (.int .i64 want) := fun W hW => by
              obtain ⟨b', o', e', _, hu⟩ := hW.at_ (by omega)
              injection e' with e'
              injection e' with e1 e2 _
              subst e1 e2
              refine hu i _ ?_
              rw [List.getElem?_map, ← hwant]
              have hln := hW.len
              rw [List.length_map] at hln
              have hiv : i < vs.length := by omega
              simp [List.getElem?_eq_getElem hiv]
            have hgood : goodG vs x i = ((!bothG x i && (errG x i == 0)) && (valG x i == want)) := by unfold goodG; rw [hwant]
            have HG := Lib.hid hgood
            have N1 := Lib.hid (fun W hW => rnote_any x i (by omega) (by omega) (some ⟨g, 0, none⟩) c2 W hW)
            have V1 := Lib.hid (fun W hW => rval_any x i (by omega) (by omega) (by omega) (some ⟨g, 0, none⟩) c2 W hW)
            have IX := Lib.hid (IH.out x hxl)
            have hlx := HL8.out x
            rw [hxl] at N1 V1 IX
            have hBoth := Lib.hid (show bothG x i = (decide (0 < i) && (x.getD (i - 1) zS).obl && (x.getD i zS).obl) from rfl)
            clear hgood hVy hvc hsx HR HY HX HB8 HL8 IH hpx hx
            generalize goodG vs x i = GO at *
            generalize bothG x i = BO at *
            go_cut [11] (fun s11 wy => s11 = .bool BO ∧ Hid (wy = y))
            case first =>
              have hi0' : (0 : Int) ≤ i := by omega
              have hilt : (i : Int) < l.length := by omega
              obtain ⟨_, _, e9, _, hxi⟩ := FY.out.2.1.sg (sg_some (show i < x.length by omega))
              injection e9 with e9
              injection e9 with e9 e10 _
              subst e9 e10
              have m6 := hxi.e6
              simp only [Nat.zero_add] at m6
              by_cases hp : 0 < i
              · have hp' : (0 : Int) < i := by omega
                obtain ⟨j, hj⟩ : ∃ j, i - 1 = j := ⟨_, rfl⟩
                obtain ⟨_, _, e9, _, hxj⟩ := FY.out.2.1.sg (sg_some (show j < x.length by omega))
                injection e9 with e9
                injection e9 with e9 e10 _
                subst e9 e10
                have n6 := hxj.e6
                simp only [Nat.zero_add] at n6
                have x2 : IntKind.i64.wrap ((i : Int) - 1) = (j : Int) := by rw [IntWalk.i64_in _ (by omega)]; omega
                have hj0 : (0 : Int) ≤ (j : Int) := by omega
                have hjl : (j : Int) < l.length := by omega
                rw [decide_eq_true hp, hj, Bool.true_and] at hBoth
                generalize (x.getD j zS).obl = oj at *
                generalize (x.getD i zS).obl = oi at *
                clear hxi hxj
                cases oj with
                | true =>
                  have hB := hBoth.out
                  clear hBoth
                  go_wp2_with fail
                  go_meet
                  exact ⟨by rw [hB]; rfl, Lib.hid rfl⟩
                | false =>
                  have hB := hBoth.out
                  clear hBoth
                  go_wp2_with fail
                  go_meet
                  exact ⟨by rw [hB]; rfl, Lib.hid rfl⟩
              · have hp' : ¬ (0 : Int) < i := by omega
                rw [decide_eq_false hp] at hBoth
                have hB := hBoth.out
                clear hBoth hxi m6
                go_wp2_with fail
                go_meet
                exact ⟨by rw [hB]; rfl, Lib.hid rfl⟩
            case rest =>
              clear hBoth
              obtain ⟨rfl, hy⟩ := hcut
              obtain rfl := hy.out.symm
              clear hy
              go_wp2_with fail
              go_cut [75] (fun s75 wy => s75 = .bool (!GO) ∧ Hid (GrpL w wy (.slice q m c) us (FL (2 * t + r)) ∧ SlP wy 17 (some ⟨g, 0, none⟩) x.length c2 (flatG x) ∧ SlP wy 1 (some ⟨bv, ov, none⟩) l.length cv (ints vs)))
              case first =>
                clear HX1 IX
                cases BO with
                | true =>
                  have hG := HG.out
                  clear HG N1 V1
                  go_quiet (fail)
                  go_wp2_with fail
                  go_meet
                  exact ⟨by rw [hG]; rfl, Lib.hid ⟨FY.out.1.later ⟨rfl, rfl, rfl, Nat.le_refl _, fun _ _ => rfl⟩, FY.out.2.1.later ⟨rfl, rfl, rfl, Nat.le_refl _, fun _ _ => rfl⟩, FY.out.2.2.later ⟨rfl, rfl, rfl, Nat.le_refl _, fun _ _ => rfl⟩⟩⟩
                | false =>
                  have hiv0 : (0 : Int) ≤ i := by omega
                  have hivl : (i : Int) < l.length := by omega
                  by_cases he : errG x i = 0
                  · rw [he] at N1 HG
                    obtain ⟨vx, hvx⟩ : ∃ z, valG x i = z := ⟨_, rfl⟩
                    rw [hvx] at V1 HG
                    have hG : GO = !(vx != want) := by rw [HG.out]; cases h : (vx == want) <;> simp [bne, h]
                    clear HG he hvx
                    have FX0 := FY
                    clear FY
                    refine wp_region_held (S := (fun W => W.cell? ⟨bv, ov + i, none⟩ = some (.int .i64 want))) (by kernel_rfl) ?_
                    change wpAnyH _ _ _ _ _ _ _ _ (World.drew _)
                    have FX := Lib.hid (show GrpL w (World.drew y) (.slice q m c) us (FL (2 * t + r)) ∧ SlP (World.drew y) 17 (some ⟨g, 0, none⟩) x.length c2 (flatG x) ∧ SlP (World.drew y) 1 (some ⟨bv, ov, none⟩) l.length cv (ints vs) from ⟨FX0.out.1.later (w_refl _).drew, FX0.out.2.1.later (w_refl _).drew, FX0.out.2.2.later (w_refl _).drew⟩)
                    clear FX0
                    generalize World.drew y = z at *
                    refine wpAnyH_take (i := 0) (v := .bool false) rfl (by kernel_rfl) (by kernel_rfl) (by kernel_rfl) (fun _ _ _ h => h) (Or.inl ⟨by kernel_rfl, fun _ _ => by go_simp⟩) (hcw _ FX.out.2.2) ?_
                    refine wpAnyH_take (i := 1) (v := .bool false) rfl (by kernel_rfl) (by kernel_rfl) (by kernel_rfl) (fun _ _ _ h => h) (Or.inl ⟨by kernel_rfl, fun _ _ => by go_simp⟩) (hcw _ FX.out.2.2) ?_
                    refine wpAnyH_take (i := 2) (v := .slice (some ⟨g, 0, none⟩) l.length c2) rfl (by kernel_rfl) (by kernel_rfl) (by kernel_rfl) (fun _ _ _ h => h) (Or.inl ⟨by kernel_rfl, fun _ _ => by go_simp⟩) (hcw _ FX.out.2.2) ?_
                    refine wpAnyH_take (i := 3) (v := .int .i64 (i : Int)) rfl (by kernel_rfl) (by kernel_rfl) (by kernel_rfl) (fun _ _ _ h => h) (Or.inl ⟨by kernel_rfl, fun _ _ => by go_simp⟩) (hcw _ FX.out.2.2) ?_
                    refine wpAnyH_ready (rs := [4]) (by kernel_rfl) (by simp) ?_
                    refine AllReadyH.cons rfl (fun K hK => ?_) AllReadyH.nil
                    rw [if_pos (by kernel_rfl)]
                    go_simp
                    go_at_call 42
                    refine (N1.out _ (hxl ▸ FX.out.2.1)).mono ?_
                    rintro e wn ⟨rfl, hb⟩
                    replace FX := Lib.hid (show _ ∧ _ ∧ _ from ⟨FX.out.1.later hb, FX.out.2.1.later hb, FX.out.2.2.later hb⟩)
                    clear hb N1
                    go_simp
                    refine hK.out _ _ (hcw _ FX.out.2.2) (fun _ => ?_)
                    clear hK K
                    refine wpAnyH_take (i := 5) (v := .bool false) rfl (by kernel_rfl) (by kernel_rfl) (by kernel_rfl) (fun _ _ _ h => h) (Or.inl ⟨by kernel_rfl, fun _ _ => by go_simp⟩) (hcw _ FX.out.2.2) ?_
                    refine wpAnyH_take (i := 6) (v := .bool false) rfl (by kernel_rfl) (by kernel_rfl) (by kernel_rfl) (fun _ _ _ h => h) (Or.inl ⟨by kernel_rfl, fun _ _ => by go_simp⟩) (hcw _ FX.out.2.2) ?_
                    refine wpAnyH_take (i := 7) (v := .bool false) rfl (by kernel_rfl) (by kernel_rfl) (by kernel_rfl) (fun _ _ _ h => h) (Or.inl ⟨by kernel_rfl, fun _ _ => by go_simp⟩) (hcw _ FX.out.2.2) ?_
                    refine wpAnyH_take (i := 8) (v := .slice (some ⟨g, 0, none⟩) l.length c2) rfl (by kernel_rfl) (by kernel_rfl) (by kernel_rfl) (fun _ _ _ h => h) (Or.inl ⟨by kernel_rfl, fun _ _ => by go_simp⟩) (hcw _ FX.out.2.2) ?_
                    refine wpAnyH_take (i := 9) (v := .int .i64 (i : Int)) rfl (by kernel_rfl) (by kernel_rfl) (by kernel_rfl) (fun _ _ _ h => h) (Or.inl ⟨by kernel_rfl, fun _ _ => by go_simp⟩) (hcw _ FX.out.2.2) ?_
                    refine wpAnyH_take (i := 11) (v := .slice (some ⟨bv, ov, none⟩) l.length cv) rfl (by kernel_rfl) (by kernel_rfl) (by kernel_rfl) (fun _ _ _ h => h) (Or.inl ⟨by kernel_rfl, fun _ _ => by go_simp⟩) (hcw _ FX.out.2.2) ?_
                    refine wpAnyH_take (i := 12) (v := .int .i64 (i : Int)) rfl (by kernel_rfl) (by kernel_rfl) (by kernel_rfl) (fun _ _ _ h => h) (Or.inl ⟨by kernel_rfl, fun _ _ => by go_simp⟩) (hcw _ FX.out.2.2) ?_
                    refine wpAnyH_take (i := 13) (v := .pointer (some ⟨bv, ov + i, none⟩)) rfl (by kernel_rfl) (by kernel_rfl) (by kernel_rfl) (fun _ _ _ h => h) (Or.inl ⟨by kernel_rfl, fun _ _ => by go_simp⟩) (hcw _ FX.out.2.2) ?_
                    refine wpAnyH_take (i := 14) (v := .int .i64 want) rfl (by kernel_rfl) (by kernel_rfl) (by kernel_rfl) (fun _ _ _ h => h) (Or.inl ⟨by kernel_rfl, fun W hW => by go_simp⟩) (hcw _ FX.out.2.2) ?_
                    refine wpAnyH_ready (rs := [10]) (by kernel_rfl) (by simp) ?_
                    refine AllReadyH.cons rfl (fun K hK => ?_) AllReadyH.nil
                    rw [if_pos (by kernel_rfl)]
                    go_simp
                    go_at_call 45
                    refine (V1.out _ (hxl ▸ FX.out.2.1)).mono ?_
                    rintro e wn ⟨rfl, hb⟩
                    replace FX := Lib.hid (show _ ∧ _ ∧ _ from ⟨FX.out.1.later hb, FX.out.2.1.later hb, FX.out.2.2.later hb⟩)
                    clear hb V1
                    go_simp
                    refine hK.out _ _ (hcw _ FX.out.2.2) (fun _ => ?_)
                    clear hK K
                    refine wpAnyH_take (i := 15) (v := .bool (vx != want)) rfl (by kernel_rfl) (by kernel_rfl) (by kernel_rfl) (fun _ _ _ h => h) (Or.inl ⟨by kernel_rfl, fun _ _ => by go_simp⟩) (hcw _ FX.out.2.2) ?_
                    refine wpAnyH_take (i := 16) (v := .bool (vx != want)) rfl (by kernel_rfl) (by kernel_rfl) (by kernel_rfl) (fun _ _ _ h => h) (Or.inl ⟨by kernel_rfl, fun _ _ => by go_simp⟩) (hcw _ FX.out.2.2) ?_
                    refine wpAnyH_done (by kernel_rfl) ?_ _
                    go_wp2_with fail
                    simp only [Act.put, List.getElem_toArray, List.getElem_cons_succ, List.getElem_cons_zero, List.setIfInBounds_toArray, List.set_cons_succ, List.set_cons_zero]
                    go_meet
                    exact ⟨by rw [hG]; simp, FX⟩
                  · have q1 : (errG x i != 0) = true := by simp [he]
                    have q2 : (errG x i == 0) = false := beq_eq_false_iff_ne.2 he
                    have hG : GO = false := by rw [HG.out, q2]; rfl
                    clear HG he V1
                    generalize errG x i = ex at *
                    have FX0 := FY
                    clear FY
                    refine wp_region_held (S := (fun W => W.cell? ⟨bv, ov + i, none⟩ = some (.int .i64 want))) (by kernel_rfl) ?_
                    change wpAnyH _ _ _ _ _ _ _ _ (World.drew _)
                    have FX := Lib.hid (show GrpL w (World.drew y) (.slice q m c) us (FL (2 * t + r)) ∧ SlP (World.drew y) 17 (some ⟨g, 0, none⟩) x.length c2 (flatG x) ∧ SlP (World.drew y) 1 (some ⟨bv, ov, none⟩) l.length cv (ints vs) from ⟨FX0.out.1.later (w_refl _).drew, FX0.out.2.1.later (w_refl _).drew, FX0.out.2.2.later (w_refl _).drew⟩)
                    clear FX0
                    generalize World.drew y = z at *
                    refine wpAnyH_take (i := 0) (v := .bool false) rfl (by kernel_rfl) (by kernel_rfl) (by kernel_rfl) (fun _ _ _ h => h) (Or.inl ⟨by kernel_rfl, fun _ _ => by go_simp⟩) (hcw _ FX.out.2.2) ?_
                    refine wpAnyH_take (i := 1) (v := .bool false) rfl (by kernel_rfl) (by kernel_rfl) (by kernel_rfl) (fun _ _ _ h => h) (Or.inl ⟨by kernel_rfl, fun _ _ => by go_simp⟩) (hcw _ FX.out.2.2) ?_
                    refine wpAnyH_take (i := 2) (v := .slice (some ⟨g, 0, none⟩) l.length c2) rfl (by kernel_rfl) (by kernel_rfl) (by kernel_rfl) (fun _ _ _ h => h) (Or.inl ⟨by kernel_rfl, fun _ _ => by go_simp⟩) (hcw _ FX.out.2.2) ?_
                    refine wpAnyH_take (i := 3) (v := .int .i64 (i : Int)) rfl (by kernel_rfl) (by kernel_rfl) (by kernel_rfl) (fun _ _ _ h => h) (Or.inl ⟨by kernel_rfl, fun _ _ => by go_simp⟩) (hcw _ FX.out.2.2) ?_
                    refine wpAnyH_ready (rs := [4]) (by kernel_rfl) (by simp) ?_
                    refine AllReadyH.cons rfl (fun K hK => ?_) AllReadyH.nil
                    rw [if_pos (by kernel_rfl)]
                    go_simp
                    go_at_call 42
                    refine (N1.out _ (hxl ▸ FX.out.2.1)).mono ?_
                    rintro e wn ⟨rfl, hb⟩
                    replace FX := Lib.hid (show _ ∧ _ ∧ _ from ⟨FX.out.1.later hb, FX.out.2.1.later hb, FX.out.2.2.later hb⟩)
                    clear hb N1
                    go_simp
                    refine hK.out _ _ (hcw _ FX.out.2.2) (fun _ => ?_)
                    clear hK K
                    refine wpAnyH_take (i := 5) (v := .bool true) rfl (by kernel_rfl) (by kernel_rfl) (by kernel_rfl) (fun _ _ _ h => h) (Or.inl ⟨by kernel_rfl, fun _ _ => by go_simp⟩) (hcw _ FX.out.2.2) ?_
                    refine wpAnyH_take (i := 6) (v := .bool true) rfl (by kernel_rfl) (by kernel_rfl) (by kernel_rfl) (fun _ _ _ h => h) (Or.inl ⟨by kernel_rfl, fun _ _ => by go_simp⟩) (hcw _ FX.out.2.2) ?_
                    refine wpAnyH_take (i := 7) (v := .bool true) rfl (by kernel_rfl) (by kernel_rfl) (by kernel_rfl) (fun _ _ _ h => h) (Or.inl ⟨by kernel_rfl, fun _ _ => by go_simp⟩) (hcw _ FX.out.2.2) ?_
                    refine wpAnyH_take (i := 8) (v := undef) rfl (by kernel_rfl) (by kernel_rfl) (by kernel_rfl) (fun _ _ _ h => h) (Or.inr ⟨by kernel_rfl, rfl⟩) (hcw _ FX.out.2.2) ?_
                    refine wpAnyH_take (i := 9) (v := undef) rfl (by kernel_rfl) (by kernel_rfl) (by kernel_rfl) (fun _ _ _ h => h) (Or.inr ⟨by kernel_rfl, rfl⟩) (hcw _ FX.out.2.2) ?_
                    refine wpAnyH_take (i := 10) (v := undef) rfl (by kernel_rfl) (by kernel_rfl) (by kernel_rfl) (fun _ _ _ h => h) (Or.inr ⟨by kernel_rfl, rfl⟩) (hcw _ FX.out.2.2) ?_
                    refine wpAnyH_take (i := 11) (v := undef) rfl (by kernel_rfl) (by kernel_rfl) (by kernel_rfl) (fun _ _ _ h => h) (Or.inr ⟨by kernel_rfl, rfl⟩) (hcw _ FX.out.2.2) ?_
                    refine wpAnyH_take (i := 12) (v := undef) rfl (by kernel_rfl) (by kernel_rfl) (by kernel_rfl) (fun _ _ _ h => h) (Or.inr ⟨by kernel_rfl, rfl⟩) (hcw _ FX.out.2.2) ?_
                    refine wpAnyH_take (i := 13) (v := undef) rfl (by kernel_rfl) (by kernel_rfl) (by kernel_rfl) (fun _ _ _ h => h) (Or.inr ⟨by kernel_rfl, rfl⟩) (hcw _ FX.out.2.2) ?_
                    refine wpAnyH_take (i := 14) (v := undef) rfl (by kernel_rfl) (by kernel_rfl) (by kernel_rfl) (fun _ _ _ h => h) (Or.inr ⟨by kernel_rfl, rfl⟩) (hcw _ FX.out.2.2) ?_
                    refine wpAnyH_take (i := 15) (v := undef) rfl (by kernel_rfl) (by kernel_rfl) (by kernel_rfl) (fun _ _ _ h => h) (Or.inr ⟨by kernel_rfl, rfl⟩) (hcw _ FX.out.2.2) ?_
                    refine wpAnyH_take (i := 16) (v := .bool true) rfl (by kernel_rfl) (by kernel_rfl) (by kernel_rfl) (fun _ _ _ h => h) (Or.inl ⟨by kernel_rfl, fun _ _ => by go_simp⟩) (hcw _ FX.out.2.2) ?_
                    refine wpAnyH_done (by kernel_rfl) ?_ _
                    go_wp2_with fail
                    simp only [Act.put, List.getElem_toArray, List.getElem_cons_succ, List.getElem_cons_zero, List.setIfInBounds_toArray, List.set_cons_succ, List.set_cons_zero]
                    go_meet
                    exact ⟨by rw [hG]; rfl, FX⟩
              case rest =>
                clear FY HG N1 V1
                obtain ⟨rfl, FZ⟩ := hcut
                cases GO with
                | false =>
                  have hx1 := HX1.out
                  rw [if_neg (by decide), List.append_nil] at hx1
                  have HG2 := Lib.hid (hx1 ▸ FZ.out.1)
                  clear HX1 hx1 IX FZ
                  go_wp2_with fail
                  go_roundw
                  case rel => exact ⟨r + 1, us, by omega, by go_num, ⟨q, m, c, rfl⟩, HG2⟩
                  case measure => simp [intOf]; omega
                | true =>
                  have hx1 := HX1.out
                  rw [if_pos rfl] at hx1
                  have x3 : IntKind.i64.wrap ((i : Int) + 1) = ((i + 1 : Nat) : Int) := by rw [IntWalk.i64_in _ (by omega)]; omega
                  clear HX1
                  go_wp2_with fail
                  refine (IX.out _ FZ.out.1.own.bel _ _ (hxl ▸ FZ.out.2.1)).mono ?_
                  rintro e w5 ⟨v2, us2, rfl, hg2⟩
                  have hb5 := hg2.own.bel
                  have HI := Lib.hid (show GrpL w w5 (.slice q m c) us (FL (2 * t + r)) from FZ.out.1.later hb5)
                  have HJ := Lib.hid (hg2.inn.base FZ.out.1.own.bel.size)
                  obtain ⟨q6, c6, rfl, hs6⟩ := SlP.of_own hg2.own.row (by rw [hg2.inn.1, Nat.mul_one]) hg2.inn.ones
                  have H6 := Lib.hid hs6
                  have t1 := hs6.fit
                  have t2 := hs6.max
                  have hx2 := Lib.hid hx1
                  clear hg2 hs6 FZ IX hb5 hx1
                  generalize shpG vs n x (i + 1) = M at *
                  go_wp2_with (at_builtin; refine wpList_append_sl rfl _ _ 74 rfl w.heap.size 23 j0 (.slice none 0 0) 1 24 Try.underlying74 hj0 hy0 hy1 hy2 rfl (by decide) _ (FL (2 * t + r)).length us rfl HI.out.own.row q6 M.length c6 us2 rfl H6.out (by unfold maxLen; omega) (by omega) HI.out.own.bel.size ?_)
                  intro v' w6 hown hgrow
                  have HN := Lib.hid (show GrpL w w6 v' (us ++ us2) (FL (2 * t + r + 1)) by
                    rw [hx2.out]
                    refine ⟨?_, (HI.out.inn.far HI.out.own.row hgrow).app (HJ.out.far HI.out.own.row hgrow)⟩
                    have := HI.out.own.app (w_refl _) hown hgrow
                    rwa [← List.length_append] at this)
                  obtain ⟨q7, c7, hv7⟩ := HN.out.own.val
                  subst hv7
                  clear hown hgrow HI HJ H6
                  go_wp2_with fail
                  go_roundw
                  case rel => exact ⟨r + 1, us ++ us2, by omega, by go_num, ⟨q7, _, c7, rfl⟩, HN⟩
                  case measure => simp [intOf]; omega
          · obtain rfl : r = 2 := by omega
            go_wp2_with fail
            go_roundw
            case rel => exact ⟨t + 1, us, by omega, by go_num, ⟨q, m, c, rfl⟩, hg⟩
            case measure => simp [intOf]; omega
      · obtain rfl : t = 4 := by omega
        go_wp2_with fail
        go_ret
        exact ⟨_, us, rfl, by rw [← HE.out]; exact hg.out⟩

end Go.Proofs.Ytedkcnphplpacaa
