/- The reference's Meanings, and its own. -/
import Derived.Test.YthokapebcplmkaaDRefB
import Derived.Test.YthokapebcplmkaaDPost
import Derived.Test.YthokapebcplmkaaLgLate
import Derived.Test.YthokapebcplmkaaDByr
namespace Go.Proofs.Ythokapebcplmkaa
open Go.RowKit

/-- The first element that is 0 or v. -/
def fO : List Int → Int → Int
  | [], _ => 0
  | x :: t, v => if x = 0 ∨ x = v then x else fO t v
theorem fO_hit (v : Int) : ∀ (l : List Int) (k : Nat) (x : Int), l[k]? = some x → (x = 0 ∨ x = v) → (∀ (j : Nat) (z : Int), j < k → l[j]? = some z → ¬ (z = 0 ∨ z = v)) → fO l v = x
  | [], k, x, h, _, _ => by simp at h
  | a :: t, 0, x, h, hx, _ => by
    simp at h; subst h
    exact if_pos hx
  | a :: t, k + 1, x, h, hx, hn => by
    have ha := hn 0 a (by omega) rfl
    have ih := fO_hit v t k x (by simpa using h) hx (fun j z hj hz => hn (j + 1) z (by omega) (by simpa using hz))
    exact (if_neg ha).trans ih
theorem fO_none (v : Int) : ∀ (l : List Int), (∀ (j : Nat) (z : Int), j < l.length → l[j]? = some z → ¬ (z = 0 ∨ z = v)) → fO l v = 0
  | [], _ => rfl
  | a :: t, hn => by
    have ha := hn 0 a (by simp) rfl
    exact (if_neg ha).trans (fO_none v t (fun j z hj hz => hn (j + 1) z (by simp; omega) (by simpa using hz)))
theorem fO_mns {q : Q4} {s : Sg} (h1 : (mns q s).length ≠ 0) (h2 : ¬ (mns q s).length = 1) : fO (mns q s) s.val = ownM q s.val := by
  have hb := abo_bd q s.val
  have ho := own_bd q s.val
  unfold mns at h1 h2 ⊢
  by_cases hk : s.kind = 1
  · rw [if_pos hk] at h1 h2 ⊢
    by_cases hc : s.col = true
    · rw [if_pos hc] at h2; exact absurd rfl h2
    · rw [if_neg hc] at h1 h2 ⊢
      by_cases ha : aboV q s.val = 0
      · rw [if_pos ha] at h2; exact absurd rfl h2
      · rw [if_neg ha] at h1 h2 ⊢
        have := hb ha
        by_cases h0 : ownM q s.val = 0
        · rw [if_pos h0, h0]; exact if_pos (.inl rfl)
        · rw [if_neg h0]
          show (if _ then _ else (if _ then _ else _)) = _
          rw [if_neg (by omega), if_pos (by omega)]
  · rw [if_neg hk] at h1 h2
    by_cases ha : aboV q s.val = 0
    · rw [if_pos ha] at h1; exact absurd rfl h1
    · rw [if_neg ha] at h2; exact absurd rfl h2

set_option maxHeartbeats 1000000 in
theorem rown_any (p : Option Addr) (cap : Nat) (l : List Int) (v : Int) (w : World) (h : SlP w 1 p l.length cap (ints l)) :
    Calls Try.prog 50 #[.slice p l.length cap, .int .i64 v] w fun e w' => e = .returned (.int .i64 (fO l v)) ∧ w = w' := by
  have f1 := h.fit
  have f2 := h.max
  have HS := Lib.hid h
  have HY := Lib.hid (fun k x hk hx hn => fO_hit v l k x hk hx hn)
  have HZ := Lib.hid (fun hn => fO_none v l hn)
  clear h
  generalize fO l v = R at *
  go_enter Try.func50, Try.ntmps50
  go_wp2_with fail
  go_loopw [5] (fun i wr => ∃ k : Nat, k ≤ l.length ∧ i = .int .i64 k ∧ Hid (∀ (j : Nat) (z : Int), j < k → l[j]? = some z → ¬ (z = 0 ∨ z = v)) ∧ w = wr) (fun i _ => l.length - (intOf i).toNat)
  case atStart => exact ⟨0, by omega, rfl, Lib.hid (fun j z hj => by omega), rfl⟩
  case round =>
    obtain ⟨k, hk, rfl, hall, rfl⟩ := hrel
    by_cases hlt : k < l.length
    · have hlt' : (k : Int) < l.length := by omega
      obtain ⟨s, hs⟩ : ∃ s, l[k]? = some s := ⟨l[k], List.getElem?_eq_getElem hlt⟩
      obtain ⟨b, off, rfl, _, hc⟩ := HS.out.at_ (by omega)
      have c0 := hc k (.int .i64 s) (by rw [List.getElem?_map, hs]; rfl)
      clear hc
      by_cases e : s = 0 ∨ s = v
      · have hB := Lib.hid (HY.out k s hs e hall.out)
        clear HY HZ hall hs
        by_cases e0 : s = 0
        · have g1 : (s == 0) = true := by simp [e0]
          clear e e0
          go_wp2_with fail
          go_ret
          exact ⟨by rw [hB.out]; rfl, rfl⟩
        · have g1 : (s == 0) = false := by simp [e0]
          have g2 : (s == v) = true := by simp; omega
          clear e e0
          go_wp2_with fail
          go_ret
          exact ⟨by rw [hB.out]; rfl, rfl⟩
      · have g1 : (s == 0) = false := by simp; omega
        have g2 : (s == v) = false := by simp; omega
        have hall2 := Lib.hid (show ∀ (j : Nat) (z : Int), j < k + 1 → l[j]? = some z → ¬ (z = 0 ∨ z = v) from fun j z hj hz => by
          by_cases ej : j = k
          · subst ej; rw [hs] at hz; injection hz with hz; rw [← hz]; exact e
          · exact hall.out j z (by omega) hz)
        clear HY HZ hall hs e
        go_wp2_with fail
        exact ⟨⟨k + 1, by omega, by go_num, hall2, trivial⟩, by simp [intOf]; omega⟩
    · obtain rfl : k = l.length := by omega
      have hB := Lib.hid (HZ.out hall.out)
      clear HY HZ hall
      go_wp2_with fail
      go_ret
      exact ⟨by rw [hB.out]; rfl, rfl⟩

set_option maxRecDepth 100000 in
set_option maxHeartbeats 4000000 in
theorem rmns_any (q : Q4) (l : List Sg) (hl : l.length ≤ 1000) (p : Option Addr) (cap : Nat) (w : World) (h : SlP w 17 p l.length cap (flatG l)) :
    Calls Try.prog 13 #[mv q, .slice p l.length cap] w (MnPost q l w) := by
  obtain ⟨i0, hi0, hz0, hz1, hz2⟩ := info_parts info_ints
  have f1 := h.fit
  have f2 := h.max
  have K0 := Lib.hid (Cell4.made w q 23)
  have B0 := Lib.hid (w_alloc (w_refl w) (mO q))
  have HP := Lib.hid h
  have CK := Lib.hid (fun W hh => rchk_any q l hl p cap W hh)
  clear h
  unfold MnPost
  by_cases hc : chkD q l = 0
  · rw [mnD_ok hc, hc]
    rw [hc] at CK
    obtain ⟨hm, hv⟩ := chkD_zero hc
    have DP := Lib.hid (fun k hk hd => dot_prev hv (k := k) hk hd)
    have RM0 := Lib.hid (fun s hs hv hn W => rmean_any q hm s hs hv hn W)
    have HLEN := Lib.hid (fun k => mnP_len q l k)
    clear hc hm hv
    obtain ⟨q1, q2, q3, q4⟩ := q
    go_enter Try.func13, Try.ntmps13
    obtain ⟨_, k0, k1, k2, k3, _⟩ := K0.out
    simp only at k0 k1 k2 k3
    go_wp2_with fail
    refine (CK.out _ (HP.out.later B0.out)).mono ?_
    rintro e w1 ⟨rfl, hb⟩
    have B1 := Lib.hid (w_below B0.out hb)
    have KM0 := Lib.hid (K0.out.later hb)
    clear hb k0 k1 k2 k3 K0 B0 CK
    obtain ⟨bm, hbm⟩ : ∃ bm, w.heap.size = bm := ⟨_, rfl⟩
    rw [hbm] at KM0 ⊢
    clear hbm
    go_wp2_with fail
    go_loopw [7, 8, 9] (fun s7 s8 _ wr => ∃ k : Nat, k ≤ l.length ∧ s8 = .int .i64 k ∧ Hid (∃ vs : List Value, GrpI w1 wr s7 vs (mnP (q1, q2, q3, q4) l k))) (fun _ s8 _ _ => l.length - (intOf s8).toNat)
    case atStart => exact ⟨0, by omega, rfl, Lib.hid ⟨[], GrpI.start _⟩⟩
    case round =>
      rename World => wr
      obtain ⟨k, hk, rfl, hG⟩ := hrel
      obtain ⟨vs, hG⟩ := hG.out
      have GV := Lib.hid hG
      clear hG
      obtain ⟨q5, c5, hv⟩ := GV.out.own.val
      subst hv
      by_cases hlt : k < l.length
      · have hlt' : (k : Int) < l.length := by omega
        have hk0 : (0 : Int) ≤ k := by omega
        have hs := sg_some hlt
        have HPr := Lib.hid (HP.out.later (w_below B1.out GV.out.own.bel))
        obtain ⟨bb, off, rfl, _, hsg⟩ := HPr.out.sg hs
        have e0 := hsg.e0
        have hll := HLEN.out k
        clear hsg hs
        by_cases h3 : (l.getD k zS).kind = 3
        · have e3 := e0
          rw [h3] at e3
          have hE := Lib.hid (mnP_dot (q := (q1, q2, q3, q4)) h3)
          obtain ⟨j, hj, _, hkd, hbf, hne, hv1, hv2⟩ := DP.out k hlt h3
          have hjl : j < l.length := by omega
          have hjl2 : (j : Int) < l.length := by omega
          have hj0 : (0 : Int) ≤ j := by omega
          have hs2 := sg_some hjl
          obtain ⟨bb', off', eb, _, hsg2⟩ := HPr.out.sg hs2
          injection eb with eb
          injection eb with eb1 eb2 _
          subst eb1 eb2
          have x1 : IntKind.i64.wrap ((k : Int) - 1) = (j : Int) := by rw [IntWalk.i64_in _ (by omega)]; omega
          have RM := Lib.hid (fun W => RM0.out _ hkd ⟨hv1, hv2⟩ hne W)
          rw [hbf] at hE
          have FX0 := Lib.hid (show Cell4 wr bm (q1, q2, q3, q4) ∧ SgAt wr bb (off + j * 17) (l.getD j zS) ∧ GrpI w1 wr (.slice q5 (mnP (q1, q2, q3, q4) l k).length c5) vs (mnP (q1, q2, q3, q4) l k) from ⟨KM0.out.later GV.out.own.bel, hsg2, GV.out⟩)
          clear DP RM0 HLEN e0 h3 hj hkd hbf hne hv1 hv2 hs2 hsg2 HPr GV
          generalize mnP (q1, q2, q3, q4) l k = LL at *
          generalize mns (q1, q2, q3, q4) (l.getD j zS) = X at *
          generalize l.getD j zS = sj at *
          go_wp2_with fail
          clear e3
          refine wp_region_held (S := (fun W => W.cell? ⟨bm, 0, none⟩ = some (.int .i64 q1) ∧ W.cell? ⟨bm, 1, none⟩ = some (.int .i64 q2) ∧ W.cell? ⟨bm, 2, none⟩ = some (.int .i64 q3) ∧ W.cell? ⟨bm, 3, none⟩ = some (.int .i64 q4) ∧ SgAt W bb (off + j * 17) sj)) (by kernel_rfl) ?_
          change wpAnyH _ _ _ _ _ _ _ _ (World.drew _)
          have FX := Lib.hid (show Cell4 (World.drew wr) bm (q1, q2, q3, q4) ∧ SgAt (World.drew wr) bb (off + j * 17) sj ∧ GrpI w1 (World.drew wr) (.slice q5 LL.length c5) vs LL from ⟨FX0.out.1.later (w_refl _).drew, FX0.out.2.1.later (w_refl _).drew, FX0.out.2.2.later (w_refl _).drew⟩)
          clear FX0
          generalize World.drew wr = y at *
          refine wpAnyH_take (i := 0) (v := mv (q1, q2, q3, q4)) rfl (by kernel_rfl) (by kernel_rfl) (by kernel_rfl) (fun _ _ _ h => h) (Or.inl ⟨by kernel_rfl, fun W hW => by (obtain ⟨c0, c1, c2, c3, _⟩ := hW; go_simp)⟩) ⟨FX.out.1.c0, FX.out.1.c1, FX.out.1.c2, FX.out.1.c3, FX.out.2.1⟩ ?_
          refine wpAnyH_take (i := 1) (v := .slice (some ⟨bb, off, none⟩) l.length cap) rfl (by kernel_rfl) (by kernel_rfl) (by kernel_rfl) (fun _ _ _ h => h) (Or.inl ⟨by kernel_rfl, fun _ _ => by go_simp⟩) ⟨FX.out.1.c0, FX.out.1.c1, FX.out.1.c2, FX.out.1.c3, FX.out.2.1⟩ ?_
          refine wpAnyH_take (i := 2) (v := .int .i64 (k : Int)) rfl (by kernel_rfl) (by kernel_rfl) (by kernel_rfl) (fun _ _ _ h => h) (Or.inl ⟨by kernel_rfl, fun _ _ => by go_simp⟩) ⟨FX.out.1.c0, FX.out.1.c1, FX.out.1.c2, FX.out.1.c3, FX.out.2.1⟩ ?_
          refine wpAnyH_take (i := 3) (v := .int .i64 (j : Int)) rfl (by kernel_rfl) (by kernel_rfl) (by kernel_rfl) (fun _ _ _ h => h) (Or.inl ⟨by kernel_rfl, fun _ _ => by go_simp⟩) ⟨FX.out.1.c0, FX.out.1.c1, FX.out.1.c2, FX.out.1.c3, FX.out.2.1⟩ ?_
          refine wpAnyH_take (i := 4) (v := .pointer (some ⟨bb, off + j * 17, none⟩)) rfl (by kernel_rfl) (by kernel_rfl) (by kernel_rfl) (fun _ _ _ h => h) (Or.inl ⟨by kernel_rfl, fun _ _ => by go_simp⟩) ⟨FX.out.1.c0, FX.out.1.c1, FX.out.1.c2, FX.out.1.c3, FX.out.2.1⟩ ?_
          refine wpAnyH_take (i := 5) (v := sgv sj) rfl (by kernel_rfl) (by kernel_rfl) (by kernel_rfl) (fun _ _ _ h => h) (sg_yields (.tmp 32) bb (off + j * 17) sj (by kernel_rfl) rfl (by kernel_rfl) (fun _ h => h.2.2.2.2)) ⟨FX.out.1.c0, FX.out.1.c1, FX.out.1.c2, FX.out.1.c3, FX.out.2.1⟩ ?_
          refine wpAnyH_ready (rs := [6]) (by kernel_rfl) (by simp) ?_
          refine AllReadyH.cons rfl (fun K hK => ?_) AllReadyH.nil
          rw [if_pos (by kernel_rfl)]
          go_simp
          go_at_call 46
          refine (RM.out _).mono ?_
          rintro e y1 ⟨u, rfl, ho⟩
          obtain ⟨pu, cu, rfl⟩ := ho.val
          have HU := Lib.hid (show y1.ownsRow w1.heap.size 3 1 (.slice pu X.length cu) X.length (ints X) from own_base ho.row FX.out.2.2.own.bel.size)
          replace FX := Lib.hid (show Cell4 y1 bm (q1, q2, q3, q4) ∧ SgAt y1 bb (off + j * 17) sj ∧ GrpI w1 y1 (.slice q5 LL.length c5) vs LL from ⟨FX.out.1.later ho.bel, FX.out.2.1.later ho.bel, FX.out.2.2.later ho.bel⟩)
          clear ho RM
          go_simp
          refine hK.out _ _ ⟨FX.out.1.c0, FX.out.1.c1, FX.out.1.c2, FX.out.1.c3, FX.out.2.1⟩ (fun _ => ?_)
          clear hK K
          refine wpAnyH_take (i := 7) (v := .slice pu X.length cu) rfl (by kernel_rfl) (by kernel_rfl) (by kernel_rfl) (fun _ _ _ h => h) (Or.inl ⟨by kernel_rfl, fun _ _ => by go_simp⟩) ⟨FX.out.1.c0, FX.out.1.c1, FX.out.1.c2, FX.out.1.c3, FX.out.2.1⟩ ?_
          refine wpAnyH_done (by kernel_rfl) ?_ _
          have HF := Lib.hid (show GrpI w1 (World.alloc y1 (.cells #[.slice pu X.length cu] 32)) (.slice q5 LL.length c5) vs LL from FX.out.2.2.later (w_alloc (w_refl y1) _))
          have HU2 := Lib.hid (show (World.alloc y1 (.cells #[.slice pu X.length cu] 32)).ownsRow w1.heap.size 3 1 (.slice pu X.length cu) X.length (ints X) from own_keep HU.out (w_alloc (w_refl y1) _) (Nat.le_refl _))
          clear FX HU
          go_wp2_with (at_builtin; refine wpList_append_own_at _ rfl _ _ 27 rfl w1.heap.size 32 i0 (.slice none 0 0) 1 24 Try.underlying27 hi0 hz0 hz1 hz2 rfl (by decide) _ LL.length vs (by kernel_rfl) HF.out.own.row ⟨y1.heap.size, 0, none⟩ 1 1 [.slice pu X.length cu] (by kernel_rfl) rfl (lit_new _ _ _) (fun u hu => by (obtain rfl := List.mem_singleton.1 hu; rfl)) (by unfold maxLen; omega) (by omega) HF.out.own.bel.size ?_)
          intro v' w3 hown hgrow _ _
          have HN := Lib.hid (show GrpI w1 w3 v' (vs ++ [.slice pu X.length cu]) (LL ++ [X]) from HF.out.app (w_refl _) HU2.out hown rfl hgrow)
          clear hown hgrow HF HU2
          go_wp2_with fail
          try simp only [Act.put, List.getElem_toArray, List.getElem_cons_succ, List.getElem_cons_zero, List.setIfInBounds_toArray, List.set_cons_succ, List.set_cons_zero]
          exact ⟨⟨k + 1, by omega, by go_num, Lib.hid ⟨vs ++ [.slice pu X.length cu], by (rw [hE.out]; exact HN.out)⟩⟩, by simp [intOf]; omega⟩
        · have h31 : ((l.getD k zS).kind == 3) = false := beq_eq_false_iff_ne.2 h3
          have hE := Lib.hid (mnP_not (q := (q1, q2, q3, q4)) h3)
          clear DP RM0 HLEN h3 HPr hll
          generalize (l.getD k zS).kind = kk at *
          go_wp2_with fail
          exact ⟨⟨k + 1, by omega, by go_num, Lib.hid ⟨vs, by (rw [hE.out]; exact GV.out)⟩⟩, by simp [intOf]; omega⟩
      · obtain rfl : k = l.length := by omega
        have hlt' : ¬ ((l.length : Int) < l.length) := by omega
        have HF := Lib.hid (show LstV wr (.slice q5 (mnP (q1, q2, q3, q4) l l.length).length c5) (mnP (q1, q2, q3, q4) l l.length) ∧ Below w.heap.size w wr from ⟨GV.out.val, w_below B1.out GV.out.own.bel⟩)
        clear GV HLEN DP RM0
        go_wp2_with fail
        go_ret2
        exact ⟨_, rfl, HF.out.1, HF.out.2⟩
  · rw [mnD_no hc]
    have h1 : (chkD q l != 0) = true := by simp [hc]
    have h2 : (chkD q l == 0) = false := by simp [hc]
    clear hc
    generalize chkD q l = E at *
    obtain ⟨q1, q2, q3, q4⟩ := q
    go_enter Try.func13, Try.ntmps13
    obtain ⟨_, k0, k1, k2, k3, _⟩ := K0.out
    simp only at k0 k1 k2 k3
    go_wp2_with fail
    refine (CK.out _ (HP.out.later B0.out)).mono ?_
    rintro e w1 ⟨rfl, hb⟩
    have B1 := Lib.hid (w_below B0.out hb)
    have KM0 := Lib.hid (K0.out.later hb)
    clear hb k0 k1 k2 k3 K0 B0 CK
    obtain ⟨bm, hbm⟩ : ∃ bm, w.heap.size = bm := ⟨_, rfl⟩
    rw [hbm] at KM0 ⊢
    clear hbm
    go_wp2_with fail
    go_ret2
    exact ⟨_, rfl, LstV.none _, B1.out⟩


end Go.Proofs.Ythokapebcplmkaa

/- The reference's Rule. -/
namespace Go.Proofs.Ythokapebcplmkaa
open Go.RowKit

theorem next_lt {l : List Sg} {k : Nat} {v : Int} (h : nextV l k = none ∨ ∃ y, nextV l k = some y ∧ v < y) : k + 1 ≥ l.length ∨ (k + 1 < l.length ∧ v < (l.getD (k + 1) zS).val) := by
  by_cases c : k + 1 < l.length
  · refine .inr ⟨c, ?_⟩
    have e : nextV l k = some (l.getD (k + 1) zS).val := by unfold nextV; rw [List.getElem?_eq_getElem c, List.getD_eq_getElem?_getD, List.getElem?_eq_getElem c]; rfl
    rcases h with h | ⟨y, h, hy⟩
    · rw [e] at h; cases h
    · rw [e] at h; cases h; exact hy
  · exact .inl (by omega)
theorem next_ge {l : List Sg} {k : Nat} {v : Int} (h : ¬ (nextV l k = none ∨ ∃ y, nextV l k = some y ∧ v < y)) : k + 1 < l.length ∧ ¬ v < (l.getD (k + 1) zS).val := by
  by_cases c : k + 1 < l.length
  · refine ⟨c, fun hv => h (.inr ⟨_, ?_, hv⟩)⟩
    unfold nextV; rw [List.getElem?_eq_getElem c, List.getD_eq_getElem?_getD, List.getElem?_eq_getElem c]; rfl
  · exact absurd (.inl (by unfold nextV; rw [List.getElem?_eq_none (by omega)]; rfl)) h
theorem sl_same {w : World} {cap : Nat} {l : List Sg} {b off : Nat} (h : SlP w 17 (some ⟨b, off, none⟩) l.length cap (flatG l)) {i : Nat} (hi : i < l.length) : SgAt w b (off + i * 17) (l.getD i zS) := by
  obtain ⟨bb', off', eb, _, hsg2⟩ := h.sg (sg_some hi)
  injection eb with eb
  injection eb with eb1 eb2 _
  subst eb1 eb2
  exact hsg2

set_option maxRecDepth 100000 in
set_option maxHeartbeats 8000000 in
theorem rrul_any (q : Q4) (l : List Sg) (hl : l.length ≤ 1000) (p : Option Addr) (cap : Nat) (w : World) (h : SlP w 17 p l.length cap (flatG l)) :
    Calls Try.prog 16 #[mv q, .slice p l.length cap] w (RuPost q l w) := by
  obtain ⟨i0, hi0, hz0, hz1, hz2⟩ := info_parts info_int
  have f1 := h.fit
  have f2 := h.max
  have K0 := Lib.hid (Cell4.made w q 23)
  have B0 := Lib.hid (w_alloc (w_refl w) (mO q))
  have HP := Lib.hid h
  have CK := Lib.hid (fun W hh => rchk_any q l hl p cap W hh)
  clear h
  unfold RuPost
  by_cases hc : chkD q l = 0
  · rw [ruD_ok hc, hc]
    rw [hc] at CK
    obtain ⟨hm, hv⟩ := chkD_zero hc
    have DP := Lib.hid (fun k hk hd => dot_prev hv (k := k) hk hd)
    have RM0 := Lib.hid (fun s hs hv hn W => rmean_any q hm s hs hv hn W)
    have HLEN := Lib.hid (fun k => (show (ruP q l k).length ≤ k by rw [ruP_len]; exact mnP_len q l k))
    have RO := Lib.hid (fun p cap zs v W hh => rown_any p cap zs v W hh)
    have AB0 := Lib.hid (fun v W => rabove_any q v W)
    clear hc hm hv
    obtain ⟨q1, q2, q3, q4⟩ := q
    go_enter Try.func16, Try.ntmps16
    obtain ⟨_, k0, k1, k2, k3, _⟩ := K0.out
    simp only at k0 k1 k2 k3
    go_wp2_with fail
    refine (CK.out _ (HP.out.later B0.out)).mono ?_
    rintro e w1 ⟨rfl, hb⟩
    have B1 := Lib.hid (w_below B0.out hb)
    have KM0 := Lib.hid (K0.out.later hb)
    clear hb k0 k1 k2 k3 K0 B0 CK
    obtain ⟨bm, hbm⟩ : ∃ bm, w.heap.size = bm := ⟨_, rfl⟩
    rw [hbm] at KM0 ⊢
    clear hbm
    go_wp2_with fail
    go_loopw [7, 8, 9, 10, 11] (fun s7 s8 _ _ _ wr => ∃ k : Nat, k ≤ l.length ∧ s8 = .int .i64 k ∧ Hid (OwnL w1 wr 3 1 s7 (ruP (q1, q2, q3, q4) l k).length (ints (ruP (q1, q2, q3, q4) l k)))) (fun _ s8 _ _ _ _ => l.length - (intOf s8).toNat)
    case atStart => exact ⟨0, by omega, rfl, Lib.hid (OwnL.start _ _ _)⟩
    case round =>
      rename World => wr
      obtain ⟨k, hk, rfl, GV⟩ := hrel
      obtain ⟨q5, c5, hv⟩ := GV.out.val
      subst hv
      by_cases hlt : k < l.length
      · have hlt' : (k : Int) < l.length := by omega
        have hk0 : (0 : Int) ≤ k := by omega
        have hs := sg_some hlt
        have HPr := Lib.hid (HP.out.later (w_below B1.out GV.out.bel))
        obtain ⟨bb, off, rfl, _, hsg⟩ := HPr.out.sg hs
        have e0 := hsg.e0
        have hll := HLEN.out k
        clear hsg hs
        by_cases h3 : (l.getD k zS).kind = 3
        · have e3 := e0
          rw [h3] at e3
          have hE := Lib.hid (ruP_dot (q := (q1, q2, q3, q4)) h3)
          obtain ⟨j, hj, _, hkd, hbf, hne, hv1, hv2⟩ := DP.out k hlt h3
          have hjl : j < l.length := by omega
          have hjl2 : (j : Int) < l.length := by omega
          have hj0 : (0 : Int) ≤ j := by omega
          have hsg2 := sl_same HPr.out hjl
          have x1 : IntKind.i64.wrap ((k : Int) - 1) = (j : Int) := by rw [IntWalk.i64_in _ (by omega)]; omega
          have x2 : IntKind.i64.wrap ((k : Int) + 1) = (k : Int) + 1 := IntWalk.i64_in _ (by omega)
          have RM := Lib.hid (fun W => RM0.out _ hkd ⟨hv1, hv2⟩ hne W)
          have HR1 := Lib.hid (fun h => rul_one (q := (q1, q2, q3, q4)) (s := l.getD j zS) (x := nextV l k) h)
          have HR2 := Lib.hid (fun h h2 => rul_own (q := (q1, q2, q3, q4)) (s := l.getD j zS) (x := nextV l k) h h2)
          have HR3 := Lib.hid (fun h h2 => rul_abv (q := (q1, q2, q3, q4)) (s := l.getD j zS) (x := nextV l k) h h2)
          have HFO := Lib.hid (fun h => fO_mns (q := (q1, q2, q3, q4)) (s := l.getD j zS) hne h)
          have AB := Lib.hid (fun W => AB0.out (l.getD j zS).val W)
          have NXT := Lib.hid (fun (hn : k + 1 < l.length) W (b : Below w.heap.size w W) => (sl_same (HP.out.later b) hn).e1)
          rw [hbf] at hE
          have FX0 := Lib.hid (show Cell4 wr bm (q1, q2, q3, q4) ∧ SgAt wr bb (off + j * 17) (l.getD j zS) ∧ OwnL w1 wr 3 1 (.slice q5 (ruP (q1, q2, q3, q4) l k).length c5) (ruP (q1, q2, q3, q4) l k).length (ints (ruP (q1, q2, q3, q4) l k)) from ⟨KM0.out.later GV.out.bel, hsg2, GV.out⟩)
          clear DP RM0 HLEN e0 h3 hj hkd hbf hne hv1 hv2 hsg2 HPr GV AB0
          generalize ruP (q1, q2, q3, q4) l k = LL at *
          generalize mns (q1, q2, q3, q4) (l.getD j zS) = X at *
          generalize rul (q1, q2, q3, q4) (l.getD j zS) (nextV l k) = RR at *
          generalize l.getD j zS = sj at *
          go_wp2_with fail
          clear e3
          refine wp_region_held (S := (fun W => W.cell? ⟨bm, 0, none⟩ = some (.int .i64 q1) ∧ W.cell? ⟨bm, 1, none⟩ = some (.int .i64 q2) ∧ W.cell? ⟨bm, 2, none⟩ = some (.int .i64 q3) ∧ W.cell? ⟨bm, 3, none⟩ = some (.int .i64 q4) ∧ SgAt W bb (off + j * 17) sj)) (by kernel_rfl) ?_
          change wpAnyH _ _ _ _ _ _ _ _ (World.drew _)
          have FX := Lib.hid (show Cell4 (World.drew wr) bm (q1, q2, q3, q4) ∧ SgAt (World.drew wr) bb (off + j * 17) sj ∧ OwnL w1 (World.drew wr) 3 1 (.slice q5 LL.length c5) LL.length (ints LL) from ⟨FX0.out.1.later (w_refl _).drew, FX0.out.2.1.later (w_refl _).drew, FX0.out.2.2.later (w_refl _).drew⟩)
          clear FX0
          generalize World.drew wr = y at *
          refine wpAnyH_take (i := 0) (v := mv (q1, q2, q3, q4)) rfl (by kernel_rfl) (by kernel_rfl) (by kernel_rfl) (fun _ _ _ h => h) (Or.inl ⟨by kernel_rfl, fun W hW => by (obtain ⟨c0, c1, c2, c3, _⟩ := hW; go_simp)⟩) ⟨FX.out.1.c0, FX.out.1.c1, FX.out.1.c2, FX.out.1.c3, FX.out.2.1⟩ ?_
          refine wpAnyH_take (i := 1) (v := .slice (some ⟨bb, off, none⟩) l.length cap) rfl (by kernel_rfl) (by kernel_rfl) (by kernel_rfl) (fun _ _ _ h => h) (Or.inl ⟨by kernel_rfl, fun _ _ => by go_simp⟩) ⟨FX.out.1.c0, FX.out.1.c1, FX.out.1.c2, FX.out.1.c3, FX.out.2.1⟩ ?_
          refine wpAnyH_take (i := 2) (v := .int .i64 (k : Int)) rfl (by kernel_rfl) (by kernel_rfl) (by kernel_rfl) (fun _ _ _ h => h) (Or.inl ⟨by kernel_rfl, fun _ _ => by go_simp⟩) ⟨FX.out.1.c0, FX.out.1.c1, FX.out.1.c2, FX.out.1.c3, FX.out.2.1⟩ ?_
          refine wpAnyH_take (i := 3) (v := .int .i64 (j : Int)) rfl (by kernel_rfl) (by kernel_rfl) (by kernel_rfl) (fun _ _ _ h => h) (Or.inl ⟨by kernel_rfl, fun _ _ => by go_simp⟩) ⟨FX.out.1.c0, FX.out.1.c1, FX.out.1.c2, FX.out.1.c3, FX.out.2.1⟩ ?_
          refine wpAnyH_take (i := 4) (v := .pointer (some ⟨bb, off + j * 17, none⟩)) rfl (by kernel_rfl) (by kernel_rfl) (by kernel_rfl) (fun _ _ _ h => h) (Or.inl ⟨by kernel_rfl, fun _ _ => by go_simp⟩) ⟨FX.out.1.c0, FX.out.1.c1, FX.out.1.c2, FX.out.1.c3, FX.out.2.1⟩ ?_
          refine wpAnyH_take (i := 5) (v := sgv sj) rfl (by kernel_rfl) (by kernel_rfl) (by kernel_rfl) (fun _ _ _ h => h) (sg_yields (.tmp 34) bb (off + j * 17) sj (by kernel_rfl) rfl (by kernel_rfl) (fun _ h => h.2.2.2.2)) ⟨FX.out.1.c0, FX.out.1.c1, FX.out.1.c2, FX.out.1.c3, FX.out.2.1⟩ ?_
          refine wpAnyH_ready (rs := [6]) (by kernel_rfl) (by simp) ?_
          refine AllReadyH.cons rfl (fun K hK => ?_) AllReadyH.nil
          rw [if_pos (by kernel_rfl)]
          go_simp
          go_at_call 46
          refine (RM.out _).mono ?_
          rintro e y1 ⟨u, rfl, ho⟩
          obtain ⟨pu, cu, rfl⟩ := ho.val
          have HU := Lib.hid (show y1.ownsRow w1.heap.size 3 1 (.slice pu X.length cu) X.length (ints X) from own_base ho.row FX.out.2.2.bel.size)
          replace FX := Lib.hid (show Cell4 y1 bm (q1, q2, q3, q4) ∧ SgAt y1 bb (off + j * 17) sj ∧ OwnL w1 y1 3 1 (.slice q5 LL.length c5) LL.length (ints LL) from ⟨FX.out.1.later ho.bel, FX.out.2.1.later ho.bel, FX.out.2.2.later ho.bel⟩)
          clear ho RM
          go_simp
          refine hK.out _ _ ⟨FX.out.1.c0, FX.out.1.c1, FX.out.1.c2, FX.out.1.c3, FX.out.2.1⟩ (fun _ => ?_)
          clear hK K
          refine wpAnyH_take (i := 7) (v := .slice pu X.length cu) rfl (by kernel_rfl) (by kernel_rfl) (by kernel_rfl) (fun _ _ _ h => h) (Or.inl ⟨by kernel_rfl, fun _ _ => by go_simp⟩) ⟨FX.out.1.c0, FX.out.1.c1, FX.out.1.c2, FX.out.1.c3, FX.out.2.1⟩ ?_
          refine wpAnyH_done (by kernel_rfl) ?_ _
          have FX0 := Lib.hid (show Cell4 y1 bm (q1, q2, q3, q4) ∧ SgAt y1 bb (off + j * 17) sj ∧ OwnL w1 y1 3 1 (.slice q5 LL.length c5) LL.length (ints LL) ∧ IntV y1 (.slice pu X.length cu) X from ⟨FX.out.1, FX.out.2.1, FX.out.2.2, IntV.of_own HU.out⟩)
          clear FX HU
          generalize aboV (q1, q2, q3, q4) sj.val = ab at *
          generalize valE (q1, q2, q3, q4) sj.val = er at *
          generalize ownM (q1, q2, q3, q4) sj.val = ow at *
          go_wp2_with fail
          refine wp_region_held (S := (fun W => W.cell? ⟨bm, 0, none⟩ = some (.int .i64 q1) ∧ W.cell? ⟨bm, 1, none⟩ = some (.int .i64 q2) ∧ W.cell? ⟨bm, 2, none⟩ = some (.int .i64 q3) ∧ W.cell? ⟨bm, 3, none⟩ = some (.int .i64 q4) ∧ W.cell? ⟨bb, off + j * 17 + 1, none⟩ = some (.int .i64 sj.val))) (by kernel_rfl) ?_
          change wpAnyH _ _ _ _ _ _ _ _ (World.drew _)
          have FX := Lib.hid (show Cell4 (World.drew y1) bm (q1, q2, q3, q4) ∧ SgAt (World.drew y1) bb (off + j * 17) sj ∧ OwnL w1 (World.drew y1) 3 1 (.slice q5 LL.length c5) LL.length (ints LL) ∧ IntV (World.drew y1) (.slice pu X.length cu) X from ⟨FX0.out.1.later (w_refl _).drew, FX0.out.2.1.later (w_refl _).drew, FX0.out.2.2.1.later (w_refl _).drew, FX0.out.2.2.2.later (w_refl _).drew⟩)
          clear FX0
          generalize World.drew y1 = z at *
          refine wpAnyH_take (i := 0) (v := mv (q1, q2, q3, q4)) rfl (by kernel_rfl) (by kernel_rfl) (by kernel_rfl) (fun _ _ _ h => h) (Or.inl ⟨by kernel_rfl, fun W hW => by (obtain ⟨c0, c1, c2, c3, _⟩ := hW; go_simp)⟩) ⟨FX.out.1.c0, FX.out.1.c1, FX.out.1.c2, FX.out.1.c3, FX.out.2.1.e1⟩ ?_
          refine wpAnyH_take (i := 1) (v := .slice (some ⟨bb, off, none⟩) l.length cap) rfl (by kernel_rfl) (by kernel_rfl) (by kernel_rfl) (fun _ _ _ h => h) (Or.inl ⟨by kernel_rfl, fun _ _ => by go_simp⟩) ⟨FX.out.1.c0, FX.out.1.c1, FX.out.1.c2, FX.out.1.c3, FX.out.2.1.e1⟩ ?_
          refine wpAnyH_take (i := 2) (v := .int .i64 (k : Int)) rfl (by kernel_rfl) (by kernel_rfl) (by kernel_rfl) (fun _ _ _ h => h) (Or.inl ⟨by kernel_rfl, fun _ _ => by go_simp⟩) ⟨FX.out.1.c0, FX.out.1.c1, FX.out.1.c2, FX.out.1.c3, FX.out.2.1.e1⟩ ?_
          refine wpAnyH_take (i := 3) (v := .int .i64 (j : Int)) rfl (by kernel_rfl) (by kernel_rfl) (by kernel_rfl) (fun _ _ _ h => h) (Or.inl ⟨by kernel_rfl, fun _ _ => by go_simp⟩) ⟨FX.out.1.c0, FX.out.1.c1, FX.out.1.c2, FX.out.1.c3, FX.out.2.1.e1⟩ ?_
          refine wpAnyH_take (i := 4) (v := .pointer (some ⟨bb, off + j * 17, none⟩)) rfl (by kernel_rfl) (by kernel_rfl) (by kernel_rfl) (fun _ _ _ h => h) (Or.inl ⟨by kernel_rfl, fun _ _ => by go_simp⟩) ⟨FX.out.1.c0, FX.out.1.c1, FX.out.1.c2, FX.out.1.c3, FX.out.2.1.e1⟩ ?_
          refine wpAnyH_take (i := 5) (v := .pointer (some ⟨bb, off + j * 17 + 1, none⟩)) rfl (by kernel_rfl) (by kernel_rfl) (by kernel_rfl) (fun _ _ _ h => h) (Or.inl ⟨by kernel_rfl, fun _ _ => by go_simp⟩) ⟨FX.out.1.c0, FX.out.1.c1, FX.out.1.c2, FX.out.1.c3, FX.out.2.1.e1⟩ ?_
          refine wpAnyH_take (i := 6) (v := .int .i64 sj.val) rfl (by kernel_rfl) (by kernel_rfl) (by kernel_rfl) (fun _ _ _ h => h) (Or.inl ⟨by kernel_rfl, fun W hW => by (obtain ⟨_, _, _, _, c4⟩ := hW; go_simp)⟩) ⟨FX.out.1.c0, FX.out.1.c1, FX.out.1.c2, FX.out.1.c3, FX.out.2.1.e1⟩ ?_
          refine wpAnyH_ready (rs := [7]) (by kernel_rfl) (by simp) ?_
          refine AllReadyH.cons rfl (fun K hK => ?_) AllReadyH.nil
          rw [if_pos (by kernel_rfl)]
          go_simp
          go_at_call 42
          refine (AB.out _).mono ?_
          rintro e y2 ⟨rfl, hb⟩
          replace FX := Lib.hid (show Cell4 y2 bm (q1, q2, q3, q4) ∧ SgAt y2 bb (off + j * 17) sj ∧ OwnL w1 y2 3 1 (.slice q5 LL.length c5) LL.length (ints LL) ∧ IntV y2 (.slice pu X.length cu) X from ⟨FX.out.1.later hb, FX.out.2.1.later hb, FX.out.2.2.1.later hb, FX.out.2.2.2.later hb⟩)
          clear hb AB
          go_simp
          refine hK.out _ _ ⟨FX.out.1.c0, FX.out.1.c1, FX.out.1.c2, FX.out.1.c3, FX.out.2.1.e1⟩ (fun _ => ?_)
          clear hK K
          refine wpAnyH_take (i := 8) (v := .tuple #[.int .i64 ab, .int .i64 er]) rfl (by kernel_rfl) (by kernel_rfl) (by kernel_rfl) (fun _ _ _ h => h) (Or.inl ⟨by kernel_rfl, fun _ _ => by go_simp⟩) ⟨FX.out.1.c0, FX.out.1.c1, FX.out.1.c2, FX.out.1.c3, FX.out.2.1.e1⟩ ?_
          refine wpAnyH_take (i := 9) (v := .int .i64 ab) rfl (by kernel_rfl) (by kernel_rfl) (by kernel_rfl) (fun _ _ _ h => h) (Or.inl ⟨by kernel_rfl, fun _ _ => by go_simp⟩) ⟨FX.out.1.c0, FX.out.1.c1, FX.out.1.c2, FX.out.1.c3, FX.out.2.1.e1⟩ ?_
          refine wpAnyH_take (i := 10) (v := .int .i64 er) rfl (by kernel_rfl) (by kernel_rfl) (by kernel_rfl) (fun _ _ _ h => h) (Or.inl ⟨by kernel_rfl, fun _ _ => by go_simp⟩) ⟨FX.out.1.c0, FX.out.1.c1, FX.out.1.c2, FX.out.1.c3, FX.out.2.1.e1⟩ ?_
          refine wpAnyH_take (i := 11) (v := .int .i64 ab) rfl (by kernel_rfl) (by kernel_rfl) (by kernel_rfl) (fun _ _ _ h => h) (Or.inl ⟨by kernel_rfl, fun _ _ => by go_simp⟩) ⟨FX.out.1.c0, FX.out.1.c1, FX.out.1.c2, FX.out.1.c3, FX.out.2.1.e1⟩ ?_
          refine wpAnyH_take (i := 12) (v := .int .i64 er) rfl (by kernel_rfl) (by kernel_rfl) (by kernel_rfl) (fun _ _ _ h => h) (Or.inl ⟨by kernel_rfl, fun _ _ => by go_simp⟩) ⟨FX.out.1.c0, FX.out.1.c1, FX.out.1.c2, FX.out.1.c3, FX.out.2.1.e1⟩ ?_
          refine wpAnyH_done (by kernel_rfl) ?_ _
          have ACC := Lib.hid FX.out.2.2.1
          have sjv := FX.out.2.1.e1
          have hX := FX.out.2.2.2
          obtain ⟨p9, c9, e9, hXs⟩ := hX
          injection e9 with e91 _ e92
          subst e91 e92
          have HX := Lib.hid hXs
          clear hXs
          by_cases hX1 : X.length = 1
          · have hX2 : ((X.length : Int) == 1) = true := by simp; omega
            have hr := HR1.out hX1
            obtain ⟨x0, rfl⟩ := List.length_eq_one_iff.1 hX1
            rw [hr] at hE
            have hE := Lib.hid (show ruP (q1, q2, q3, q4) l (k + 1) = LL ++ [x0] from hE.out)
            obtain ⟨b9, o9, rfl, _, hc9⟩ := HX.out.at_ (by simp)
            have c9 := hc9 0 (.int .i64 x0) rfl
            simp only [Nat.add_zero] at c9
            clear hc9 HX HR1 HR2 HR3 HFO NXT hX1 hr hX2 RO
            simp only [List.length_cons, List.length_nil, Nat.zero_add]
            have HA0 := ACC
            have HA := Lib.hid (show OwnL w1 (World.alloc y2 (.cells #[.int .i64 x0] 3)) 3 1 (.slice q5 LL.length c5) LL.length (ints LL) from ACC.out.later (w_alloc (w_refl y2) _))
            clear FX sjv
            go_wp2_with (at_builtin; refine wpList_append_own_at _ rfl _ _ 32 rfl w1.heap.size 3 i0 (.int .i64 0) 1 8 Try.underlying32 hi0 hz0 hz1 hz2 rfl (by decide) _ LL.length (ints LL) rfl HA.out.row ⟨y2.heap.size, 0, none⟩ 1 1 (ints [x0]) rfl rfl (lit_new _ _ _) (ints_one _) (by unfold maxLen; omega) (by omega) HA.out.bel.size ?_)
            intro v' w3 hown hgrow _ _
            have HN := Lib.hid (show OwnL w1 w3 3 1 v' (LL.length + 1) (ints LL ++ ints [x0]) from HA.out.app (w_refl _) hown hgrow)
            clear hown hgrow HA
            go_wp2_with fail
            try simp only [Act.put, List.getElem_toArray, List.getElem_cons_succ, List.getElem_cons_zero, List.setIfInBounds_toArray, List.set_cons_succ, List.set_cons_zero]
            exact ⟨⟨k + 1, by omega, by go_num, Lib.hid (by rw [hE.out, List.length_append, show ints (LL ++ [x0]) = ints LL ++ ints [x0] from List.map_append ..]; exact HN.out)⟩, by simp [intOf]; omega⟩
          · have hX2 : ((X.length : Int) == 1) = false := by simp; omega
            by_cases hnx : nextV l k = none ∨ ∃ y, nextV l k = some y ∧ sj.val < y
            · have hr := HR2.out hX1 hnx
              rw [hr, ← HFO.out hX1] at hE
              rcases next_lt hnx with hend | ⟨hin, hgt⟩
              · have hq1 : ((k : Int) + 1 == (l.length : Int)) = true := by simp; omega
                clear HR1 HR2 HR3 HFO NXT hX1 hr hnx hend
                go_wp2_with fail
                go_quiet (fail)
                obtain ⟨y3, hy3⟩ : ∃ y3, y2.drewN nq = y3 := ⟨_, rfl⟩
                have hby := Lib.hid (show Below y2.heap.size y2 y3 from by rw [← hy3]; exact below_drewN (w_refl y2) _)
                have ACC3 := Lib.hid (ACC.out.later hby.out)
                have HX3 := Lib.hid (HX.out.later hby.out)
                have sj3 := cell_later hby.out sjv
                rw [hy3]
                clear hy3 ACC HX sjv hby FX
                go_wp2_with fail
                refine (RO.out pu cu X sj.val _ HX3.out).mono ?_
                rintro e w9 ⟨rfl, rfl⟩
                clear RO HX3
                generalize fO X sj.val = xv at *
                have HA := Lib.hid (show OwnL w1 (World.alloc y3 (.cells #[.int .i64 xv] 3)) 3 1 (.slice q5 LL.length c5) LL.length (ints LL) from ACC3.out.later (w_alloc (w_refl y3) _))
                go_wp2_with (at_builtin; refine wpList_append_own_at _ rfl _ _ 32 rfl w1.heap.size 3 i0 (.int .i64 0) 1 8 Try.underlying32 hi0 hz0 hz1 hz2 rfl (by decide) _ LL.length (ints LL) rfl HA.out.row ⟨y3.heap.size, 0, none⟩ 1 1 (ints [xv]) rfl rfl (lit_new _ _ _) (ints_one _) (by unfold maxLen; omega) (by omega) HA.out.bel.size ?_)
                intro v' w3 hown hgrow _ _
                have HN := Lib.hid (show OwnL w1 w3 3 1 v' (LL.length + 1) (ints LL ++ ints [xv]) from HA.out.app (w_refl _) hown hgrow)
                clear hown hgrow HA
                go_wp2_with fail
                try simp only [Act.put, List.getElem_toArray, List.getElem_cons_succ, List.getElem_cons_zero, List.setIfInBounds_toArray, List.set_cons_succ, List.set_cons_zero]
                exact ⟨⟨k + 1, by omega, by go_num, Lib.hid (by rw [hE.out, List.length_append, show ints (LL ++ [xv]) = ints LL ++ ints [xv] from List.map_append ..]; exact HN.out)⟩, by simp [intOf]; omega⟩
              · have hq1 : ((k : Int) + 1 == (l.length : Int)) = false := by simp; omega
                have cn := NXT.out hin _ (w_below B1.out ACC.out.bel)
                have hin2 : (k : Int) + 1 < l.length := by omega
                have hin0 : (0 : Int) ≤ (k : Int) + 1 := by omega
                clear HR1 HR2 HR3 HFO NXT hX1 hr hnx
                generalize (l.getD (k + 1) zS).val = vn at *
                go_wp2_with fail
                go_quiet (fail)
                obtain ⟨y3, hy3⟩ : ∃ y3, y2.drewN nq = y3 := ⟨_, rfl⟩
                have hby := Lib.hid (show Below y2.heap.size y2 y3 from by rw [← hy3]; exact below_drewN (w_refl y2) _)
                have ACC3 := Lib.hid (ACC.out.later hby.out)
                have HX3 := Lib.hid (HX.out.later hby.out)
                have sj3 := cell_later hby.out sjv
                rw [hy3]
                clear hy3 ACC HX sjv hby FX
                go_wp2_with fail
                refine (RO.out pu cu X sj.val _ HX3.out).mono ?_
                rintro e w9 ⟨rfl, rfl⟩
                clear RO HX3
                generalize fO X sj.val = xv at *
                have HA := Lib.hid (show OwnL w1 (World.alloc y3 (.cells #[.int .i64 xv] 3)) 3 1 (.slice q5 LL.length c5) LL.length (ints LL) from ACC3.out.later (w_alloc (w_refl y3) _))
                go_wp2_with (at_builtin; refine wpList_append_own_at _ rfl _ _ 32 rfl w1.heap.size 3 i0 (.int .i64 0) 1 8 Try.underlying32 hi0 hz0 hz1 hz2 rfl (by decide) _ LL.length (ints LL) rfl HA.out.row ⟨y3.heap.size, 0, none⟩ 1 1 (ints [xv]) rfl rfl (lit_new _ _ _) (ints_one _) (by unfold maxLen; omega) (by omega) HA.out.bel.size ?_)
                intro v' w3 hown hgrow _ _
                have HN := Lib.hid (show OwnL w1 w3 3 1 v' (LL.length + 1) (ints LL ++ ints [xv]) from HA.out.app (w_refl _) hown hgrow)
                clear hown hgrow HA
                go_wp2_with fail
                try simp only [Act.put, List.getElem_toArray, List.getElem_cons_succ, List.getElem_cons_zero, List.setIfInBounds_toArray, List.set_cons_succ, List.set_cons_zero]
                exact ⟨⟨k + 1, by omega, by go_num, Lib.hid (by rw [hE.out, List.length_append, show ints (LL ++ [xv]) = ints LL ++ ints [xv] from List.map_append ..]; exact HN.out)⟩, by simp [intOf]; omega⟩
            · have hr := HR3.out hX1 hnx
              rw [hr] at hE
              obtain ⟨hin, hgt⟩ := next_ge hnx
              have hq1 : ((k : Int) + 1 == (l.length : Int)) = false := by simp; omega
              have cn := NXT.out hin _ (w_below B1.out ACC.out.bel)
              have hin2 : (k : Int) + 1 < l.length := by omega
              have hin0 : (0 : Int) ≤ (k : Int) + 1 := by omega
              clear HR1 HR2 HR3 HFO NXT hX1 hr hnx
              generalize (l.getD (k + 1) zS).val = vn at *
              go_wp2_with fail
              go_quiet (fail)
              obtain ⟨y3, hy3⟩ : ∃ y3, y2.drewN nq = y3 := ⟨_, rfl⟩
              have hby := Lib.hid (show Below y2.heap.size y2 y3 from by rw [← hy3]; exact below_drewN (w_refl y2) _)
              have ACC3 := Lib.hid (ACC.out.later hby.out)
              have HX3 := Lib.hid (HX.out.later hby.out)
              have sj3 := cell_later hby.out sjv
              rw [hy3]
              clear hy3 ACC HX sjv hby FX
              clear RO HX3
              have HA := Lib.hid (show OwnL w1 (World.alloc y3 (.cells #[.int .i64 ab] 3)) 3 1 (.slice q5 LL.length c5) LL.length (ints LL) from ACC3.out.later (w_alloc (w_refl y3) _))
              go_wp2_with (at_builtin; refine wpList_append_own_at _ rfl _ _ 32 rfl w1.heap.size 3 i0 (.int .i64 0) 1 8 Try.underlying32 hi0 hz0 hz1 hz2 rfl (by decide) _ LL.length (ints LL) rfl HA.out.row ⟨y3.heap.size, 0, none⟩ 1 1 (ints [ab]) rfl rfl (lit_new _ _ _) (ints_one _) (by unfold maxLen; omega) (by omega) HA.out.bel.size ?_)
              intro v' w3 hown hgrow _ _
              have HN := Lib.hid (show OwnL w1 w3 3 1 v' (LL.length + 1) (ints LL ++ ints [ab]) from HA.out.app (w_refl _) hown hgrow)
              clear hown hgrow HA
              go_wp2_with fail
              try simp only [Act.put, List.getElem_toArray, List.getElem_cons_succ, List.getElem_cons_zero, List.setIfInBounds_toArray, List.set_cons_succ, List.set_cons_zero]
              exact ⟨⟨k + 1, by omega, by go_num, Lib.hid (by rw [hE.out, List.length_append, show ints (LL ++ [ab]) = ints LL ++ ints [ab] from List.map_append ..]; exact HN.out)⟩, by simp [intOf]; omega⟩
        · have h31 : ((l.getD k zS).kind != 3) = true := by simpa using h3
          have hE := Lib.hid (ruP_not (q := (q1, q2, q3, q4)) h3)
          clear DP RM0 HLEN h3 HPr hll
          generalize (l.getD k zS).kind = kk at *
          go_wp2_with fail
          exact ⟨⟨k + 1, by omega, by go_num, Lib.hid (by (rw [hE.out]; exact GV.out))⟩, by simp [intOf]; omega⟩
      · obtain rfl : k = l.length := by omega
        have hlt' : ¬ ((l.length : Int) < l.length) := by omega
        have HF := Lib.hid (show IntV wr (.slice q5 (ruP (q1, q2, q3, q4) l l.length).length c5) (ruP (q1, q2, q3, q4) l l.length) ∧ Below w.heap.size w wr from ⟨IntV.of_own GV.out.row, w_below B1.out GV.out.bel⟩)
        clear GV HLEN DP RM0
        go_wp2_with fail
        go_ret2
        exact ⟨_, rfl, HF.out.1, HF.out.2⟩
  · rw [ruD_no hc]
    have h1 : (chkD q l != 0) = true := by simp [hc]
    have h2 : (chkD q l == 0) = false := by simp [hc]
    clear hc
    generalize chkD q l = E at *
    obtain ⟨q1, q2, q3, q4⟩ := q
    go_enter Try.func16, Try.ntmps16
    obtain ⟨_, k0, k1, k2, k3, _⟩ := K0.out
    simp only at k0 k1 k2 k3
    go_wp2_with fail
    refine (CK.out _ (HP.out.later B0.out)).mono ?_
    rintro e w1 ⟨rfl, hb⟩
    have B1 := Lib.hid (w_below B0.out hb)
    have KM0 := Lib.hid (K0.out.later hb)
    clear hb k0 k1 k2 k3 K0 B0 CK
    obtain ⟨bm, hbm⟩ : ∃ bm, w.heap.size = bm := ⟨_, rfl⟩
    rw [hbm] at KM0 ⊢
    clear hbm
    go_wp2_with fail
    go_ret2
    exact ⟨_, rfl, IntV.none _, B1.out⟩


end Go.Proofs.Ythokapebcplmkaa

/- The reference's Count, and is. -/
namespace Go.Proofs.Ythokapebcplmkaa
open Go.RowKit

set_option maxHeartbeats 2000000 in
theorem rcnt_any (q : Q4) (l : List Sg) (hl : l.length ≤ 1000) (p : Option Addr) (cap : Nat) (w : World) (h : SlP w 17 p l.length cap (flatG l)) :
    Calls Try.prog 19 #[mv q, .slice p l.length cap] w fun e w' => e = .returned (.tuple #[.int .i64 (cntD q l).1, .int .i64 (cntD q l).2]) ∧ Below w.heap.size w w' := by
  have K0 := Lib.hid (Cell4.made w q 23)
  have B0 := Lib.hid (w_alloc (w_refl w) (mO q))
  have HP := Lib.hid h
  have MN := Lib.hid (fun W hh => rmns_any q l hl p cap W hh)
  unfold MnPost at MN
  clear h
  by_cases hc : chkD q l = 0
  · have hone : ∀ x ∈ mnD q l, 1 ≤ x.length ∧ x.length ≤ 2 := mnD_one
    have HC := Lib.hid (show cntD q l = if prodL (mnD q l) ≤ 64 then ((prodL (mnD q l) : Int), 0) else (0, 15) from if_pos hc)
    rw [hc] at MN
    have hlen := mnD_len q l
    clear hc
    generalize cntD q l = R at *
    generalize mnD q l = L at *
    obtain ⟨R1, R2⟩ := R
    obtain ⟨q1, q2, q3, q4⟩ := q
    go_enter Try.func19, Try.ntmps19
    obtain ⟨_, k0, k1, k2, k3, _⟩ := K0.out
    simp only at k0 k1 k2 k3
    go_wp2_with fail
    refine (MN.out _ (HP.out.later B0.out)).mono ?_
    rintro e w1 ⟨v, rfl, ⟨pl, cl, vs, rfl, hL⟩, hb⟩
    have B1 := Lib.hid (w_below B0.out hb)
    have HL := Lib.hid hL
    have g1 := hL.sl.fit
    have g2 := hL.sl.max
    have HK := Lib.hid (fun k => prodL_take hone k)
    have HS := Lib.hid (fun k hk => prodL_step L (k := k) hk)
    have HO := Lib.hid (fun k (hk : k < L.length) => hone _ (List.getElem_mem hk))
    clear hb k0 k1 k2 k3 K0 B0 MN hL hone
    go_wp2_with fail
    go_loopw [8, 9] (fun s8 s9 wr => ∃ k : Nat, k ≤ L.length ∧ s9 = .int .i64 k ∧ s8 = .int .i64 (prodL (L.take k) : Int) ∧ Hid (prodL (L.take k) ≤ 64) ∧ Hid (Below w1.heap.size w1 wr)) (fun _ s9 _ => L.length - (intOf s9).toNat)
    case atStart => exact ⟨0, by omega, rfl, rfl, Lib.hid (by rw [List.take_zero]; decide), Lib.hid (w_refl _)⟩
    case round =>
      rename World => wr
      obtain ⟨k, hk, rfl, rfl, h64, hB⟩ := hrel
      by_cases hlt : k < L.length
      · have hlt' : (k : Int) < L.length := by omega
        have hk0 : (0 : Int) ≤ k := by omega
        have hLr := HL.out.later hB.out
        obtain ⟨b, off, rfl, _, _⟩ := hLr.sl.at_ (by omega)
        obtain ⟨u, hu, hv⟩ := hLr.at_ k _ (List.getElem?_eq_getElem hlt)
        obtain ⟨pu, cu, rfl, hus⟩ := hv
        have c0 := cell_at hLr.sl hu
        have hst := HS.out k hlt
        have ho := HO.out k hlt
        rw [List.getD_eq_getElem?_getD, List.getElem?_eq_getElem hlt, Option.getD_some] at hst
        have hmax := HK.out (k + 1)
        have h64' := h64.out
        clear hLr hu hus h64
        generalize L[k] = X at *
        generalize hp1 : prodL (L.take (k + 1)) = P2 at *
        generalize prodL (L.take k) = P1 at *
        have x1 : IntKind.i64.wrap ((P1 : Int) * (X.length : Int)) = (P2 : Int) := by
          have e1 : (P1 : Int) * (X.length : Int) = (P2 : Int) := by rw [hst]; exact (Int.natCast_mul _ _).symm
          have e2 : P2 ≤ 64 * 2 := by rw [hst]; exact Nat.mul_le_mul h64' ho.2
          rw [e1]; exact IntWalk.i64_in _ (by omega)
        by_cases hle : P2 ≤ 64
        · have hle' : ¬ (64 : Int) < P2 := by omega
          have hle2 := Lib.hid (show prodL (L.take (k + 1)) ≤ 64 by rw [hp1]; exact hle)
          have hp2 := Lib.hid hp1
          clear hst hp1 hmax HL HK HS HO
          go_wp2_with fail
          skip
          exact ⟨⟨k + 1, by omega, by go_num, by rw [hp2.out], hle2, hB⟩, by simp [intOf]; omega⟩
        · have hle' : (64 : Int) < P2 := by omega
          have hfin := Lib.hid (show R1 = 0 ∧ R2 = 15 by
            have e := HC.out
            rw [if_neg (by omega)] at e
            injection e with e1 e2
            exact ⟨e1, e2⟩)
          have HF := Lib.hid (w_below B1.out hB.out)
          clear hst hp1 hmax HL HK HS HO HC hle
          go_wp2_with fail
          go_ret2
          exact ⟨by rw [hfin.out.1, hfin.out.2]; rfl, HF.out⟩
      · obtain rfl : k = L.length := by omega
        have hlt' : ¬ ((L.length : Int) < L.length) := by omega
        have h64' := h64.out
        have hfin := Lib.hid (show R1 = (prodL (L.take L.length) : Int) ∧ R2 = 0 by
          have e := HC.out
          rw [List.take_length] at h64' ⊢
          rw [if_pos h64'] at e
          injection e with e1 e2
          exact ⟨e1, e2⟩)
        have HF := Lib.hid (w_below B1.out hB.out)
        clear HL HK HS HO HC h64 h64'
        generalize prodL (L.take L.length) = P1 at *
        go_wp2_with fail
        go_ret2
        exact ⟨by rw [hfin.out.1, hfin.out.2]; rfl, HF.out⟩
  · have HC := Lib.hid (show cntD q l = (0, chkD q l) from if_neg hc)
    rw [HC.out]
    have h1 : (chkD q l != 0) = true := by simp [hc]
    have h2 : (chkD q l == 0) = false := by simp [hc]
    clear hc HC
    generalize chkD q l = E at *
    generalize mnD q l = L at *
    obtain ⟨q1, q2, q3, q4⟩ := q
    go_enter Try.func19, Try.ntmps19
    obtain ⟨_, k0, k1, k2, k3, _⟩ := K0.out
    simp only at k0 k1 k2 k3
    go_wp2_with fail
    refine (MN.out _ (HP.out.later B0.out)).mono ?_
    rintro e w1 ⟨v, rfl, ⟨pl, cl, vs, rfl, hL⟩, hb⟩
    have B1 := Lib.hid (w_below B0.out hb)
    clear hb k0 k1 k2 k3 K0 B0 MN hL
    go_wp2_with fail
    go_ret2
    exact ⟨rfl, B1.out⟩

theorem ris_any (p : Option Addr) (cap : Nat) (l : List Int) (x : Int) (w : World) (h : SlP w 1 p l.length cap (ints l)) :
    Calls Try.prog 59 #[.slice p l.length cap, .int .i64 x] w fun e w' => e = .returned (.bool (decide (x ∈ l))) ∧ w = w' := by
  have f1 := h.fit
  have f2 := h.max
  have HS := Lib.hid h
  have HY := Lib.hid (show ∀ k : Nat, l[k]? = some x → decide (x ∈ l) = true from fun k hk => decide_eq_true (List.mem_of_getElem? hk))
  have HZ := Lib.hid (show (∀ (k : Nat) (z : Int), k < l.length → l[k]? = some z → z ≠ x) → decide (x ∈ l) = false from fun hn => decide_eq_false (fun hm => by
    obtain ⟨k, hk, e⟩ := List.getElem_of_mem hm
    exact hn k x hk (by rw [List.getElem?_eq_getElem hk, e]) rfl))
  clear h
  generalize decide (x ∈ l) = B at *
  go_enter Try.func59, Try.ntmps59
  go_wp2_with fail
  go_loopw [5] (fun i wr => ∃ k : Nat, k ≤ l.length ∧ i = .int .i64 k ∧ Hid (∀ (j : Nat) (z : Int), j < k → l[j]? = some z → z ≠ x) ∧ w = wr) (fun i _ => l.length - (intOf i).toNat)
  case atStart => exact ⟨0, by omega, rfl, Lib.hid (fun j z hj => by omega), rfl⟩
  case round =>
    obtain ⟨k, hk, rfl, hall, rfl⟩ := hrel
    by_cases hlt : k < l.length
    · have hlt' : (k : Int) < l.length := by omega
      obtain ⟨s, hs⟩ : ∃ s, l[k]? = some s := ⟨l[k], List.getElem?_eq_getElem hlt⟩
      obtain ⟨b, off, rfl, _, hc⟩ := HS.out.at_ (by omega)
      have c0 := hc k (.int .i64 s) (by rw [List.getElem?_map, hs]; rfl)
      clear hc
      by_cases e : s = x
      · have hB := Lib.hid (HY.out k (by rw [hs, e]))
        have q : (s == x) = true := by simp [e]
        clear HY HZ hall hs e
        go_wp2_with fail
        go_ret
        exact ⟨by rw [hB.out]; rfl, rfl⟩
      · have q : (s == x) = false := by simp [e]
        have hall2 := Lib.hid (show ∀ (j : Nat) (z : Int), j < k + 1 → l[j]? = some z → z ≠ x from fun j z hj hz => by
          by_cases ej : j = k
          · subst ej; rw [hs] at hz; injection hz with hz; rw [← hz]; exact e
          · exact hall.out j z (by omega) hz)
        clear HY HZ hall hs e
        go_wp2_with fail
        go_roundw
        case rel => exact ⟨k + 1, by omega, by go_num, hall2, trivial⟩
        case measure => simp [intOf]; omega
    · obtain rfl : k = l.length := by omega
      have hB := Lib.hid (HZ.out hall.out)
      clear HY HZ hall
      go_wp2_with fail
      go_ret
      exact ⟨by rw [hB.out]; rfl, rfl⟩

end Go.Proofs.Ythokapebcplmkaa
