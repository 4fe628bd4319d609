/- The iterator's recursion: all shapes that begin as some signs do, in order. -/
import Derived.Test.YtedkcnphplpacaaLgProgG
import Derived.Test.YtedkcnphplpacaaLgPath
import Derived.Test.YtedkcnphplpacaaLgLate
namespace Go.Proofs.Ytedkcnphplpacaa
open Go.RowKit

theorem two_bools {r : Nat} (hr : r < 2) : (#[.bool false, .bool true] : Array Value)[r]? = some (.bool (decide ((r : Int) = 1))) := by
  have c : r = 0 ∨ r = 1 := by omega
  rcases c with rfl | rfl <;> rfl

set_option maxRecDepth 100000 in
set_option maxHeartbeats 4000000 in
theorem go_all (n0 L cap bp bv : Nat) (hc2 : 2 ≤ cap) (hc : cap ≤ 12) (ps vs : List Int) (hps : ps.length = cap) (pp : Option Addr) (cp : Nat) (pv : Option Addr) (cv : Nat) (J : List (List Sg) → World → Prop) (Jx : World → Prop) (xs : List (List Sg))
    (HJ : ∀ pre A B, J pre A → Off n0 6 A B → J pre B) (HX : ∀ A B, Jx A → Off n0 6 A B → Jx B) (HC0 : ∀ pre A, J pre A → PlC ps vs cap bp bv pp cp pv cv A)
    (HY : ∀ (m : Nat) pre x post A v, xs = pre ++ x :: post → J pre A → n0 + 6 ≤ A.heap.size → SgR n0 A v x → YieldAt Fence.wide m Try.prog L #[v] A fun e B => (e = .returned (.bool true) ∧ J (pre ++ [x]) B ∧ Mid n0 A B) ∨ (e = .returned (.bool false) ∧ Jx B ∧ Mid n0 A B)) :
    ∀ (k : Nat) (l : List Sg) (pre post : List (List Sg)) (A : World), l.length + k = cap → xs = pre ++ pAll ps vs k l ++ post → ItS n0 L cap bp bv l A → J pre A → n0 + 6 ≤ A.heap.size →
    Calls Try.prog 63 #[.pointer (some ⟨n0 + 4, 0, none⟩), .pointer (some ⟨bp, 0, none⟩), .pointer (some ⟨n0, 0, none⟩), .pointer (some ⟨n0 + 2, 0, none⟩), .pointer (some ⟨bv, 0, none⟩), .pointer (some ⟨n0 + 5, 0, none⟩)] A (PG n0 L cap bp bv J Jx (pre ++ pAll ps vs k l) l A) := by
  intro k
  induction k with
  | zero =>
    intro l pre post A hl hx hi hj hsz
    exact go_end n0 L cap bp bv (by omega) (by omega) ps vs pp cp pv cv J Jx xs HY pre post l A (by omega) (by rw [hx]; show pre ++ [l] ++ post = _; simp) hi hj (HC0 pre A hj) hsz
  | succ k ih =>
    intro l pre post A hlk hx hi hj hsz
    clear HY
    have hll : l.length < cap := by omega
    obtain ⟨i0, hi0, hz0, hz1, hz2⟩ := info_parts info_sign
    obtain ⟨pb, po, hpe, -, -⟩ := (HC0 pre A hj).ps_.at_ (by omega)
    subst hpe
    have HC := Lib.hid HC0
    have HJh := Lib.hid HJ
    have HXh := Lib.hid HX
    have IH := Lib.hid (show ∀ o pre' post' B, xs = pre' ++ pAll ps vs k (l ++ [nxS ps l.length o]) ++ post' → ItS n0 L cap bp bv (l ++ [nxS ps l.length o]) B → J pre' B → n0 + 6 ≤ B.heap.size →
      Calls Try.prog 63 #[.pointer (some ⟨n0 + 4, 0, none⟩), .pointer (some ⟨bp, 0, none⟩), .pointer (some ⟨n0, 0, none⟩), .pointer (some ⟨n0 + 2, 0, none⟩), .pointer (some ⟨bv, 0, none⟩), .pointer (some ⟨n0 + 5, 0, none⟩)] B (PG n0 L cap bp bv J Jx (pre' ++ pAll ps vs k (l ++ [nxS ps l.length o])) (l ++ [nxS ps l.length o]) B) from fun o pre' post' B => ih _ pre' post' B (by rw [List.length_append]; simp; omega))
    have HOP := Lib.hid (show ∀ o W, ItS n0 L cap bp bv (l ++ [nxS ps l.length o]) W → SlP W 1 pv cap cv (ints vs) → Calls Try.prog 64 #[.slice (some ⟨n0 + 1, 0, none⟩) 4 4, .slice (some ⟨n0 + 3, 0, none⟩) (l.length + 1) cap, .slice pv cap cv] W fun e w' => e = .returned (.bool (hopP vs (l ++ [nxS ps l.length o]))) ∧ Below W.heap.size W w' from fun o W hW hv => by
      have hln : (l ++ [nxS ps l.length o]).length = l.length + 1 := by simp
      have hsl := hW.sl (by rw [hln]; omega) (by omega)
      have := phop_any (l ++ [nxS ps l.length o]) (by omega) (by omega) (fun h => by
        rw [hln, Nat.add_sub_cancel, gd_right _ _ _ (Nat.le_refl _), Nat.sub_self] at h
        have h2 : decide (l.length + 1 = ps.length) = true := h
        have := of_decide_eq_true h2
        omega) (some ⟨n0 + 3, 0, none⟩) cap (n0 + 1) vs cap (by omega) pv cv W hW.ru hsl hv
      rw [hln] at this
      exact this)
    clear ih HJ HX HC0
    have hF : pAll ps vs (k + 1) l = optP.flatMap (fun o => if hopP vs (l ++ [nxS ps l.length o]) = true then pAll ps vs k (l ++ [nxS ps l.length o]) else []) := rfl
    rw [hF] at hx ⊢
    have hFo : ∀ o, (fun o => if hopP vs (l ++ [nxS ps l.length o]) = true then pAll ps vs k (l ++ [nxS ps l.length o]) else []) o = if hopP vs (l ++ [nxS ps l.length o]) = true then pAll ps vs k (l ++ [nxS ps l.length o]) else [] := fun o => rfl
    generalize (fun o => if hopP vs (l ++ [nxS ps l.length o]) = true then pAll ps vs k (l ++ [nxS ps l.length o]) else []) = f at *
    have HFo := Lib.hid hFo
    have HX1 := Lib.hid (show ∀ j o, optP[j]? = some o → (optP.take (j + 1)).flatMap f = (optP.take j).flatMap f ++ f o from fun j o ho => by
      rw [List.take_add_one, ho, List.flatMap_append]; simp)
    have HE := Lib.hid (show (optP.take 8).flatMap f = optP.flatMap f from rfl)
    have H0 : (optP.take 0).flatMap f = [] := rfl
    have HD := Lib.hid (show ∀ j, ∃ r, optP.flatMap f = (optP.take j).flatMap f ++ r from fun j => ⟨(optP.drop j).flatMap f, by rw [← List.flatMap_append, List.take_append_drop]⟩)
    generalize hFL : (fun j : Nat => (optP.take j).flatMap f) = FL at *
    have hfl : ∀ j : Nat, (optP.take j).flatMap f = FL j := fun j => congrFun hFL j
    simp only [hfl] at HX1 HE H0 HD
    have hx8 := hx
    generalize optP.flatMap f = RES at *
    have HXS := Lib.hid hx
    have e4 := hi.lv.cell (j := 0) rfl
    have e1 := (HC.out _ _ hj).bp_.cell (j := 0) rfl
    have hne : ((l.length : Int) == (cap : Int)) = false := by simp; omega
    have G0 := Lib.hid (show GS n0 L cap bp bv A.heap.size A (J (pre ++ FL (4 * 0))) l (A.alloc (.cells #[.bool false, .bool true] 4)) from
      ⟨hi.later (w_alloc (w_refl A) _), by rw [Nat.mul_zero, H0, List.append_nil]; exact HJh.out _ _ _ hj (Off.bel (w_alloc (w_refl A) _)), HoldsB.new A _ _, Kp.off (Off.bel (w_alloc (w_refl A) _)), by rw [World.size_alloc]; omega⟩)
    have hlit : n0 + 6 ≤ A.heap.size := hsz
    have hl12 : l.length ≤ 12 := by omega
    clear hi hj hx hx8 hF hFo hFL hfl hsz hlk H0
    go_enter Try.func63, Try.ntmps63
    go_wp2_with fail
    clear e4 e1
    generalize hlt0 : A.heap.size = lit at *
    generalize A.alloc (.cells #[.bool false, .bool true] 4) = A1 at *
    clear hlt0
    go_loopw [23] (fun s23 wr => ∃ r : Nat, r ≤ 2 ∧ s23 = .int .i64 (r : Int) ∧ Hid (GS n0 L cap bp bv lit A (J (pre ++ FL (4 * r))) l wr)) (fun s23 _ => (2 - intOf s23).toNat)
    case atStart => exact ⟨0, by omega, rfl, G0⟩
    case round =>
      rename World => wr
      clear G0
      obtain ⟨r, hr, rfl, GR⟩ := hrel
      by_cases hr2 : r < 2
      · have hr2' : (r : Int) < 2 := by omega
        have hr0 : (0 : Int) ≤ r := by omega
        have c6 := GR.out.lt_.cell (two_bools hr2)
        obtain ⟨bo, hbo⟩ : ∃ b, decide ((r : Int) = 1) = b := ⟨_, rfl⟩
        rw [hbo] at c6
        have G1 := Lib.hid (show GS n0 L cap bp bv lit A (J (pre ++ FL (4 * r + 0))) l wr from GR.out)
        clear GR
        go_wp2_with fail
        clear c6
        go_loopw [27] (fun s27 wx => ∃ t : Nat, t ≤ 4 ∧ s27 = .int .i64 (t : Int) ∧ Hid (GS n0 L cap bp bv lit A (J (pre ++ FL (4 * r + t))) l wx)) (fun s27 _ => (4 - intOf s27).toNat)
        case atStart => exact ⟨0, by omega, rfl, G1⟩
        case round =>
          rename World => wx
          clear G1
          obtain ⟨t, ht, rfl, FY⟩ := hrel
          by_cases ht4 : t < 4
          · have ht4' : (t : Int) < 4 := by omega
            have hopt := optP_at hr2 ht4
            rw [hbo] at hopt
            have hstep := HX1.out _ _ hopt
            have hfo := HFo.out (bo, (t : Int))
            obtain ⟨rr, hrr⟩ := HD.out (4 * r + t + 1)
            have HO := Lib.hid (HOP.out (bo, (t : Int)))
            have HI := Lib.hid (IH.out (bo, (t : Int)))
            have hlb : ((l.length : Int) == (cap : Int) - 1) = decide (l.length + 1 = ps.length) := by
              by_cases e : l.length + 1 = ps.length
              · rw [decide_eq_true e]; simp; omega
              · rw [decide_eq_false e]; simp; omega
            have x1 : IntKind.i64.wrap ((cap : Int) - 1) = (cap : Int) - 1 := IntWalk.i64_in _ (by omega)
            obtain ⟨lb, hlbe⟩ : ∃ b, decide (l.length + 1 = ps.length) = b := ⟨_, rfl⟩
            rw [hlbe] at hlb
            obtain ⟨s, hs⟩ : ∃ s : Sg, (⟨4, 0, ps.getD l.length 0, 0, false, (t : Int), bo, lb, 0, 0, 0, 0, false, 0, 0, 0, 0⟩ : Sg) = s := ⟨_, rfl⟩
            have hnx : nxS ps l.length (bo, (t : Int)) = s := by rw [← hs, ← hlbe]; rfl
            rw [hnx] at HO HI hfo
            have hlen1 : (l ++ [s]).length = l.length + 1 := by simp
            have HST := Lib.hid hstep
            have HFO := Lib.hid hfo
            have HRR := Lib.hid hrr
            have HNX := Lib.hid (show pre ++ FL (4 * r + (t + 1)) = pre ++ FL (4 * r + t) ++ f (bo, (t : Int)) by rw [← Nat.add_assoc, hstep, List.append_assoc])
            have HXX := Lib.hid (show ∀ M, f (bo, (t : Int)) = M → xs = (pre ++ FL (4 * r + t)) ++ M ++ (rr ++ post) from fun M hM => by
              rw [HXS.out, hrr, hstep, hM]; simp)
            have HJP := Lib.hid (HJh.out (pre ++ FL (4 * r + t)))
            have HJN := Lib.hid (HJh.out (pre ++ FL (4 * r + (t + 1))))
            clear hopt hstep hfo hrr hnx hlbe HX1 HFo HD HOP IH HST HRR HXS HE HJh
            generalize hP : pre ++ FL (4 * r + t) = P at *
            generalize hPN : pre ++ FL (4 * r + (t + 1)) = PN at *
            have HPE := Lib.hid hP
            have HPNE := Lib.hid hPN
            clear hP hPN
            generalize f (bo, (t : Int)) = fo at *
            go_wp2_with fail
            refine wp_region_late (S := fun W => W.cell? ⟨n0 + 4, 0, none⟩ = some (.slice (some ⟨n0 + 3, 0, none⟩) l.length cap) ∧ W.cell? ⟨bp, 0, none⟩ = some (.slice (some ⟨pb, po, none⟩) cap cp) ∧ W.cell? ⟨pb, po + l.length, none⟩ = some (.int .i64 (ps.getD l.length 0))) ([14, 15]) (by kernel_rfl) ?_
            have FX := Lib.hid (FY.out.later HJP.out (w_refl wx).drew)
            clear FY
            generalize World.drew wx = y at *
            refine wpL_loadT (i := 0) (v := .slice (some ⟨n0 + 3, 0, none⟩) l.length cap) rfl (by kernel_rfl) (by kernel_rfl) (by kernel_rfl) (by kernel_rfl) (by kernel_rfl) (by kernel_rfl) (fun _ _ _ h => h) (Or.inl ⟨by kernel_rfl, fun W hW => by (obtain ⟨c1, c2, c3⟩ := hW; go_simp)⟩) ⟨FX.out.it.lv.cell (j := 0) rfl, (HC.out _ _ FX.out.j).bp_.cell (j := 0) rfl, int_at (HC.out _ _ FX.out.j).ps_ hll⟩ (by kernel_rfl) ?_
            refine wpL_loadT (i := 1) (v := .slice (some ⟨pb, po, none⟩) cap cp) rfl (by kernel_rfl) (by kernel_rfl) (by kernel_rfl) (by kernel_rfl) (by kernel_rfl) (by kernel_rfl) (fun _ _ _ h => h) (Or.inl ⟨by kernel_rfl, fun W hW => by (obtain ⟨c1, c2, c3⟩ := hW; go_simp)⟩) ⟨FX.out.it.lv.cell (j := 0) rfl, (HC.out _ _ FX.out.j).bp_.cell (j := 0) rfl, int_at (HC.out _ _ FX.out.j).ps_ hll⟩ (by kernel_rfl) ?_
            refine wpL_take (i := 2) (v := .int .i64 (l.length : Int)) rfl (by kernel_rfl) (by kernel_rfl) (by kernel_rfl) (by kernel_rfl) (fun _ _ _ h => h) (Or.inl ⟨by kernel_rfl, fun _ => by go_simp⟩) (.inl ⟨FX.out.it.lv.cell (j := 0) rfl, (HC.out _ _ FX.out.j).bp_.cell (j := 0) rfl, int_at (HC.out _ _ FX.out.j).ps_ hll⟩) ?_
            refine wpL_take (i := 3) (v := .pointer (some ⟨pb, po + l.length, none⟩)) rfl (by kernel_rfl) (by kernel_rfl) (by kernel_rfl) (by kernel_rfl) (fun _ _ _ h => h) (Or.inl ⟨by kernel_rfl, fun _ => by go_simp⟩) (.inl ⟨FX.out.it.lv.cell (j := 0) rfl, (HC.out _ _ FX.out.j).bp_.cell (j := 0) rfl, int_at (HC.out _ _ FX.out.j).ps_ hll⟩) ?_
            refine wpL_loadT (i := 4) (v := .int .i64 (ps.getD l.length 0)) rfl (by kernel_rfl) (by kernel_rfl) (by kernel_rfl) (by kernel_rfl) (by kernel_rfl) (by kernel_rfl) (fun _ _ _ h => h) (Or.inl ⟨by kernel_rfl, fun W hW => by (obtain ⟨c1, c2, c3⟩ := hW; go_simp)⟩) ⟨FX.out.it.lv.cell (j := 0) rfl, (HC.out _ _ FX.out.j).bp_.cell (j := 0) rfl, int_at (HC.out _ _ FX.out.j).ps_ hll⟩ (by kernel_rfl) ?_
            refine wpL_take (i := 5) (v := .int .i64 (t : Int)) rfl (by kernel_rfl) (by kernel_rfl) (by kernel_rfl) (by kernel_rfl) (fun _ _ _ h => h) (Or.inl ⟨by kernel_rfl, fun _ => by go_simp⟩) (.inl ⟨FX.out.it.lv.cell (j := 0) rfl, (HC.out _ _ FX.out.j).bp_.cell (j := 0) rfl, int_at (HC.out _ _ FX.out.j).ps_ hll⟩) ?_
            refine wpL_take (i := 6) (v := .bool bo) rfl (by kernel_rfl) (by kernel_rfl) (by kernel_rfl) (by kernel_rfl) (fun _ _ _ h => h) (Or.inl ⟨by kernel_rfl, fun _ => by go_simp⟩) (.inl ⟨FX.out.it.lv.cell (j := 0) rfl, (HC.out _ _ FX.out.j).bp_.cell (j := 0) rfl, int_at (HC.out _ _ FX.out.j).ps_ hll⟩) ?_
            refine wpL_take (i := 7) (v := .int .i64 (l.length : Int)) rfl (by kernel_rfl) (by kernel_rfl) (by kernel_rfl) (by kernel_rfl) (fun _ _ _ h => h) (Or.inl ⟨by kernel_rfl, fun _ => by go_simp⟩) (.inl ⟨FX.out.it.lv.cell (j := 0) rfl, (HC.out _ _ FX.out.j).bp_.cell (j := 0) rfl, int_at (HC.out _ _ FX.out.j).ps_ hll⟩) ?_
            refine wpL_loadT (i := 8) (v := .slice (some ⟨pb, po, none⟩) cap cp) rfl (by kernel_rfl) (by kernel_rfl) (by kernel_rfl) (by kernel_rfl) (by kernel_rfl) (by kernel_rfl) (fun _ _ _ h => h) (Or.inl ⟨by kernel_rfl, fun W hW => by (obtain ⟨c1, c2, c3⟩ := hW; go_simp)⟩) ⟨FX.out.it.lv.cell (j := 0) rfl, (HC.out _ _ FX.out.j).bp_.cell (j := 0) rfl, int_at (HC.out _ _ FX.out.j).ps_ hll⟩ (by kernel_rfl) ?_
            refine wpL_take (i := 9) (v := .int .i64 (cap : Int)) rfl (by kernel_rfl) (by kernel_rfl) (by kernel_rfl) (by kernel_rfl) (fun _ _ _ h => h) (Or.inl ⟨by kernel_rfl, fun _ => by go_simp⟩) (.inl ⟨FX.out.it.lv.cell (j := 0) rfl, (HC.out _ _ FX.out.j).bp_.cell (j := 0) rfl, int_at (HC.out _ _ FX.out.j).ps_ hll⟩) ?_
            refine wpL_take (i := 10) (v := .int .i64 ((cap : Int) - 1)) rfl (by kernel_rfl) (by kernel_rfl) (by kernel_rfl) (by kernel_rfl) (fun _ _ _ h => h) (Or.inl ⟨by kernel_rfl, fun _ => by go_simp⟩) (.inl ⟨FX.out.it.lv.cell (j := 0) rfl, (HC.out _ _ FX.out.j).bp_.cell (j := 0) rfl, int_at (HC.out _ _ FX.out.j).ps_ hll⟩) ?_
            refine wpL_take (i := 11) (v := .bool lb) rfl (by kernel_rfl) (by kernel_rfl) (by kernel_rfl) (by kernel_rfl) (fun _ _ _ h => h) (Or.inl ⟨by kernel_rfl, fun _ => by go_simp⟩) (.inl ⟨FX.out.it.lv.cell (j := 0) rfl, (HC.out _ _ FX.out.j).bp_.cell (j := 0) rfl, int_at (HC.out _ _ FX.out.j).ps_ hll⟩) ?_
            refine wpL_take (i := 12) (v := sgv s) rfl (by kernel_rfl) (by kernel_rfl) (by kernel_rfl) (by kernel_rfl) (fun _ _ _ h => h) (Or.inl ⟨by kernel_rfl, fun _ => by (rw [← hs]; first | (go_simp; done) | (go_simp; rfl))⟩) (.inl ⟨FX.out.it.lv.cell (j := 0) rfl, (HC.out _ _ FX.out.j).bp_.cell (j := 0) rfl, int_at (HC.out _ _ FX.out.j).ps_ hll⟩) ?_
            refine wpL_ready (rs := [13]) (by kernel_rfl) (by simp) ?_
            refine AllL.cons rfl (fun K hK => ?_) AllL.nil
            refine step_lit rfl (.tmp 42) rfl s (by kernel_rfl) ?_
            have LT := Lib.hid (lit_new y (sgA s) 30)
            replace FX := Lib.hid (FX.out.later HJP.out (w_alloc (w_refl y) (sgO s)))
            refine hK.out _ _ (.inl ⟨FX.out.it.lv.cell (j := 0) rfl, (HC.out _ _ FX.out.j).bp_.cell (j := 0) rfl, int_at (HC.out _ _ FX.out.j).ps_ hll⟩) ?_
            clear hK K
            unfold sgO at FX
            have hys : y.heap.size = y.heap.size := rfl
            change wpL _ _ _ _ _ _ _ _ _ (World.alloc y (.cells (sgA s) 30))
            generalize hy2 : World.alloc y (.cells (sgA s) 30) = y2 at *
            clear hy2
            refine wpL_ready (rs := [14]) (by kernel_rfl) (by simp) ?_
            refine AllL.cons rfl (fun K hK => ?_) AllL.nil
            have R0 := FX.out.it.room hll
            refine step_append_room rfl (.tmp 30) (.tmp 43) 23 rfl 30 i0 17 Try.underlying23 hi0 hz1 (n0 + 3) 0 l.length cap (by kernel_rfl) ⟨y.heap.size, 0, none⟩ 1 1 (sgL s) (by kernel_rfl) rfl LT.out (sgL_one _) (by omega) (fun j hj => R0 j (by rw [sgL_len] at hj; exact hj)) ?_
            rw [Nat.zero_add]
            have HPU := Lib.hid (FX.out.push HJP.out hlit hll s (m := l.length + 1) (by simp))
            refine hK.out _ _ (.inr (by kernel_rfl)) ?_
            clear hK K R0 LT
            have hs0 := (holds_sets_other (show n0 + 4 ≠ n0 + 3 by omega) (sgL s) (l.length * 17) _ _ FX.out.it.lv)
            have e4 := hs0.cell (j := 0) rfl
            have ef4 := hs0.frozen 0
            generalize y2.setCells (n0 + 3) (l.length * 17) (sgL s) = y3 at *
            clear FX hs0 hys
            refine wpL_ready (rs := [15]) (by kernel_rfl) (by simp) ?_
            refine AllL.cons rfl (fun K hK => ?_) AllL.nil
            rw [if_pos (by kernel_rfl)]
            go_simp
            refine hK.out _ _ (.inr (by kernel_rfl)) ?_
            clear hK K e4 ef4
            generalize y3.setCell ⟨n0 + 4, 0, none⟩ (.slice (some ⟨n0 + 3, 0, none⟩) (l.length + 1) cap) = y4 at *
            refine wpL_done (by kernel_rfl) ?_ _
            have e4 := HPU.out.it.lv.cell (j := 0) rfl
            rw [hlen1] at e4
            have e3 := HPU.out.it.as_.cell (j := 0) rfl
            have eb := (HC.out _ _ HPU.out.j).bv_.cell (j := 0) rfl
            have HV := Lib.hid (HC.out _ _ HPU.out.j).vs_
            go_wp2_with fail
            clear e4 e3 eb
            refine (HO.out _ HPU.out.it HV.out).mono ?_
            rintro e wz ⟨rfl, hb⟩
            have GZ0 := Lib.hid (HPU.out.later HJP.out hb)
            clear hb HO HPU HV
            cases hho : hopP vs (l ++ [s]) with
            | false =>
              rw [hho, if_neg (by decide)] at HFO
              have hfe := HFO.out
              subst hfe
              have hPP : PN = P := by rw [HNX.out, List.append_nil]
              have GZ := Lib.hid (show GS n0 L cap bp bv lit A (J PN) (l ++ [s]) wz from hPP ▸ GZ0.out)
              rw [← HPNE.out] at GZ HJN
              clear GZ0 HI HFO HNX HXX hPP HJP HPE HXh
              have e4 := GZ.out.it.lv.cell (j := 0) rfl
              have ef4 := GZ.out.it.lv.frozen 0
              rw [hlen1] at e4
              have GN := Lib.hid (GZ.out.cut HJN.out hlit)
              clear GZ
              go_wp2_with fail
              go_roundw
              case rel => exact ⟨t + 1, by omega, by go_num, GN⟩
              case measure => simp [intOf]; omega
            | true =>
              rw [hho, if_pos rfl] at HFO
              have H1 := Lib.hid (HI.out P (rr ++ post) _ (HXX.out _ HFO.out) GZ0.out.it GZ0.out.j GZ0.out.sz)
              have hPP : P ++ pAll ps vs k (l ++ [s]) = PN := by rw [HNX.out, HFO.out]
              rw [hPP] at H1
              have eg := GZ0.out.it.go.cell (j := 0) rfl
              clear HI HFO HNX HXX hPP HJP hho HPE
              go_wp2_with fail
              clear eg
              refine H1.out.mono ?_
              rintro e wn ⟨hit, hkp, (⟨rfl, hjn⟩ | ⟨rfl, hjx⟩)⟩
              · have GZ := Lib.hid (show GS n0 L cap bp bv lit A (J PN) (l ++ [s]) wn from ⟨hit, hjn, hkp.keep _ _ hlit GZ0.out.lt_ rfl, GZ0.out.kp.trans hkp, Nat.le_trans GZ0.out.sz hkp.size⟩)
                rw [← HPNE.out] at GZ HJN
                clear hit hkp hjn GZ0 H1 HXh
                have e4 := GZ.out.it.lv.cell (j := 0) rfl
                have ef4 := GZ.out.it.lv.frozen 0
                rw [hlen1] at e4
                have GN := Lib.hid (GZ.out.cut HJN.out hlit)
                clear GZ
                go_wp2_with fail
                go_roundw
                case rel => exact ⟨t + 1, by omega, by go_num, GN⟩
                case measure => simp [intOf]; omega
              · have e4 := hit.lv.cell (j := 0) rfl
                have ef4 := hit.lv.frozen 0
                rw [hlen1] at e4
                have o := Off.set (K := 6) (n := n0) wn (c := n0 + 4) (by omega) (by omega) 0 (.slice (some ⟨n0 + 3, 0, none⟩) l.length cap)
                have HF := Lib.hid (show PG n0 L cap bp bv J Jx (pre ++ RES) l A (.returned (.bool false)) (wn.setCell ⟨n0 + 4, 0, none⟩ (.slice (some ⟨n0 + 3, 0, none⟩) l.length cap)) from
                  ⟨hit.cut, (GZ0.out.kp.trans hkp).trans (Kp.off o), .inr ⟨rfl, HXh.out _ _ hjx o⟩⟩)
                clear hit hkp hjx GZ0 H1 o HXh HJN
                go_wp2_with fail
                go_ret
                exact HF.out
          · obtain rfl : t = 4 := by omega
            have G2 := Lib.hid (show GS n0 L cap bp bv lit A (J (pre ++ FL (4 * (r + 1)))) l wx from FY.out)
            clear FY
            go_wp2_with fail
            go_roundw
            case rel => exact ⟨r + 1, by omega, by go_num, G2⟩
            case measure => simp [intOf]; omega
      · obtain rfl : r = 2 := by omega
        have HF := Lib.hid (show PG n0 L cap bp bv J Jx (pre ++ RES) l A (.returned (.bool true)) wr from ⟨GR.out.it, GR.out.kp, .inl ⟨rfl, by rw [← HE.out]; exact GR.out.j⟩⟩)
        clear GR
        go_wp2_with fail
        go_ret
        exact HF.out

end Go.Proofs.Ytedkcnphplpacaa
