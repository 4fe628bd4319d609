/- LigatureAllows returns true. -/
import Derived.Test.YtedkcnphplpacaaLgMathA
import Derived.Test.YtedkcnphplpacaaLgProgK
import Derived.Test.YtedkcnphplpacaaLgAwake
namespace Go.Proofs.Ytedkcnphplpacaa
open Go.RowKit

theorem ats_any (p : Option Addr) (cap : Nat) (zs : List Int) (i : Nat) (w : World) (h : SlP w 1 p zs.length cap (ints zs)) (hi : i ≤ 1000000) :
    Calls Try.prog 36 #[.slice p zs.length cap, .int .i64 i] w fun e w' => e = .returned (.int .i64 (zs.getD i 0)) ∧ w' = w := by
  have f1 := h.fit
  have f2 := h.max
  by_cases hlt : i < zs.length
  · obtain ⟨b, off, rfl, -, -⟩ := h.at_ (by omega)
    have c0 := int_at h hlt
    have hlt' : (i : Int) < zs.length := by omega
    have hi0 : (0 : Int) ≤ i := by omega
    obtain ⟨z, hz⟩ : ∃ z, zs.getD i 0 = z := ⟨_, rfl⟩
    rw [hz] at c0 ⊢
    clear h hz
    go_enter Try.func36, Try.ntmps36
    go_wp2_with fail
    go_ret
    exact ⟨rfl, rfl⟩
  · have e : zs.getD i 0 = 0 := by rw [List.getD, List.getElem?_eq_none (by omega)]; rfl
    have hlt' : ¬ (i : Int) < zs.length := by omega
    have hi0 : ¬ (i : Int) < 0 := by omega
    rw [e]
    clear h e hlt
    go_enter Try.func36, Try.ntmps36
    go_wp2_with fail
    go_ret
    exact ⟨rfl, rfl⟩
theorem getD_bdsL {zs : List Int} (h : ∀ z ∈ zs, -9223372036854775808 ≤ z ∧ z ≤ 9223372036854775807) (i : Nat) : -9223372036854775808 ≤ zs.getD i 0 ∧ zs.getD i 0 ≤ 9223372036854775807 := by
  by_cases hi : i < zs.length
  · have e : zs.getD i 0 = zs[i] := by simp [List.getD, List.getElem?_eq_getElem hi]
    rw [e]; exact h _ (List.getElem_mem hi)
  · have e : zs.getD i 0 = 0 := by rw [List.getD, List.getElem?_eq_none (by omega)]; rfl
    rw [e]; omega
/-- Values made of numbers by a table. -/
def tabI (tab values : List Int) (m : Int) (i : Nat) : Int := tab.getD (values.getD i 0 % m).toNat 0
def tabV (tab values : List Int) (m : Int) (n : Nat) : List Int := (List.range n).map (tabI tab values m)
theorem tabV_len (tab values : List Int) (m : Int) (n : Nat) : (tabV tab values m n).length = n := by unfold tabV; simp
theorem tabV_take (tab values : List Int) (m : Int) (n : Nat) {k : Nat} (h : k < n) : (tabV tab values m n).take (k + 1) = (tabV tab values m n).take k ++ [tabI tab values m k] := by
  rw [List.take_add_one]; unfold tabV; rw [List.getElem?_map, List.getElem?_range h]; rfl
theorem tabV_getD (tab values : List Int) (m : Int) (n : Nat) {k : Nat} (h : k < n) : (tabV tab values m n).getD k 0 = tabI tab values m k := by
  simp only [List.getD]; unfold tabV; rw [List.getElem?_map, List.getElem?_range h]; rfl
theorem tab_bds {tab values : List Int} {m : Int} (i : Nat) (hm : 0 < m) (hl : m ≤ tab.length) (h : ∀ z ∈ tab, 1 ≤ z ∧ z ≤ 8) : 1 ≤ tabI tab values m i ∧ tabI tab values m i ≤ 8 := by
  have h0 := Int.emod_nonneg (values.getD i 0) (show m ≠ 0 by omega)
  have h1 := Int.emod_lt_of_pos (values.getD i 0) hm
  have hj : (values.getD i 0 % m).toNat < tab.length := by omega
  unfold tabI
  generalize (values.getD i 0 % m).toNat = j at *
  have e : tab.getD j 0 = tab[j] := by simp [List.getD, List.getElem?_eq_getElem hj]
  rw [e]; exact h _ (List.getElem_mem hj)
theorem tab_ask {P tab values : List Int} {m : Int} (hP : PaOk P) (h2 : 2 ≤ P.length) (hm : 0 < m) (hl : m ≤ tab.length) (h : ∀ z ∈ tab, 1 ≤ z ∧ z ≤ 8) : askE P (tabV tab values m P.length) = 0 := by
  have h8 := hP.len
  refine ask_ok ⟨h2, by omega⟩ (tabV_len _ _ _ _) (fun j hj => ?_)
  rw [tabV_getD _ _ _ _ hj]
  have a := hP.bds j hj
  have b := tab_bds (values := values) j hm hl h
  unfold okPV
  omega

/-- What values a ligature has. -/
theorem allow_ok {ps vs : List Int} (h2 : 2 ≤ ps.length) (h : 0 < (pAll ps vs ps.length []).length) {i : Nat} (hi : i < ps.length) :
    (vs.getD i 0 = 2 ∨ vs.getD i 0 = 3 ∨ vs.getD i 0 = 4) ∧ (vs.getD i 0 = 4 → i < 2 ∧ vs.getD 0 0 = 4 ∧ vs.getD 1 0 = 4) := by
  obtain ⟨L, hL⟩ := List.exists_mem_of_length_pos h
  obtain ⟨c, hc, ho, hLe, hall⟩ := (mem_all ps vs L).1 hL
  have hv : ∀ j, j < ps.length → vs.getD j 0 = valP L j ∧ frmP L j = true := fun j hj => by
    have := hall j hj
    unfold hopR at this
    rw [Bool.and_eq_true, beq_iff_eq] at this
    exact ⟨this.2.symm, this.1⟩
  have h3 : ∀ j, valP L j = 2 ∨ valP L j = 3 ∨ valP L j = 4 := fun j => by
    unfold valP fstV lstV
    repeat' split
    all_goals omega
  have h4 : valP L i = 4 → i < 2 ∧ (L.getD 0 zS).stem = 1 := by
    intro e
    unfold valP fstV lstV at e
    by_cases a1 : ((L.getD i zS).stem == 3) = true
    · rw [if_pos a1] at e; omega
    · rw [if_neg a1] at e
      by_cases a2 : (decide (i < 2) && (L.getD 0 zS).stem == 1) = true
      · simp at a2; exact a2
      · rw [if_neg a2] at e
        exfalso
        revert e
        repeat' split
        all_goals omega
  refine ⟨by rw [(hv i hi).1]; exact h3 i, fun e => ?_⟩
  rw [(hv i hi).1] at e
  obtain ⟨g1, g2⟩ := h4 e
  refine ⟨g1, ?_, ?_⟩
  · rw [(hv 0 (by omega)).1]
    unfold valP
    rw [if_neg (by rw [g2]; decide), if_pos (by rw [g2]; rfl)]
  · rw [(hv 1 (by omega)).1]
    have hf := (hv 1 (by omega)).2
    unfold frmP rtP at hf
    have hs : ((L.getD 1 zS).stem == 3) = false := by
      cases hh : ((L.getD 1 zS).stem == 3) with
      | false => rfl
      | true =>
        have n1 : ((L.getD 1 zS).stem != 3) = false := by unfold bne; rw [hh]; rfl
        have n2 : ((L.getD 0 zS).stem != 1) = false := by rw [g2]; rfl
        rw [n1, n2] at hf
        simp at hf
    unfold valP
    rw [if_neg (by rw [hs]; decide), if_pos (by rw [g2]; rfl)]

abbrev tabA : List Int := [3, 2, 4, 3, 5, 1, 3]
theorem tab_cell {W : World} {b : Nat} {tab : List Int} (h : HoldsB W b 3 (ints tab).toArray) {j : Nat} (hj : j < tab.length) : W.cell? ⟨b, j, none⟩ = some (.int .i64 (tab.getD j 0)) := by
  refine h.cell ?_
  rw [List.getElem?_toArray, List.getElem?_map, List.getElem?_eq_getElem hj]
  simp [List.getD, List.getElem?_eq_getElem hj]

set_option maxRecDepth 100000 in
set_option maxHeartbeats 4000000 in
theorem lallows_any (nums values : List Int) (hz : ∀ z ∈ nums, -9223372036854775808 ≤ z ∧ z ≤ 9223372036854775807) (hzv : ∀ z ∈ values, -9223372036854775808 ≤ z ∧ z ≤ 9223372036854775807) (p q : Option Addr) (cp cq : Nat) (w : World) (hp : SlP w 1 p nums.length cp (ints nums)) (hq : SlP w 1 q values.length cq (ints values)) :
    Calls Try.prog 7 #[.slice p nums.length cp, .slice q values.length cq] w fun e w' => e = .returned (.bool true) ∧ Below w.heap.size w w' := by
  obtain ⟨i0, hi0, hz0, hz1, hz2⟩ := info_parts info_int
  have f1 := hp.fit
  have f2 := hp.max
  have PA := Lib.hid (path_any nums hz p cp w hp)
  have hPO := pathG_ok nums
  have AW := Lib.hid (fun W => lawake_any W)
  have hlz : (0 : Int) ≤ (nums.length : Int) := by omega
  generalize pathG nums = P at *
  by_cases h2 : 2 ≤ P.length
  · have h2' : ¬ (P.length : Int) < 2 := by omega
    have h8 := hPO.len
    obtain ⟨m3, hm3⟩ : ∃ m : Int, (nums.length : Int) % 3 = m := ⟨_, rfl⟩
    have hm0 : 0 ≤ m3 := by omega
    have hm2 : m3 ≤ 2 := by omega
    have M3 := Lib.hid (fun W => mod_any (nums.length : Int) 3 W (by omega) (by omega) (by decide) (by decide))
    rw [hm3] at M3
    obtain ⟨mv, hmv⟩ : ∃ m : Int, 5 + m3 = m := ⟨_, rfl⟩
    have hmv1 : 5 ≤ mv := by omega
    have hmv2 : mv ≤ 7 := by omega
    have xmv : IntKind.i64.wrap (5 + m3) = mv := by rw [IntWalk.i64_in _ (by omega), hmv]
    have hask : askE P (tabV tabA values mv P.length) = 0 := tab_ask hPO h2 (by omega) (by show mv ≤ 7; omega) (by decide)
    have AT := Lib.hid (fun i (hi : i ≤ 1000000) W (b : Below w.heap.size w W) => ats_any q cq values i W (hq.later b) hi)
    have MV := Lib.hid (fun i W => mod_any (values.getD i 0) mv W (getD_bdsL hzv i).1 (getD_bdsL hzv i).2 (by omega) (by omega))
    have HI := Lib.hid (show ∀ i, ∃ j : Nat, values.getD i 0 % mv = (j : Int) ∧ j < 7 ∧ tabI tabA values mv i = tabA.getD j 0 from fun i => by
      have a := Int.emod_nonneg (values.getD i 0) (show mv ≠ 0 by omega)
      have b := Int.emod_lt_of_pos (values.getD i 0) (show 0 < mv by omega)
      exact ⟨(values.getD i 0 % mv).toNat, by omega, by omega, rfl⟩)
    have HT := Lib.hid (fun k hk => tabV_take tabA values mv P.length (k := k) hk)
    have hvl := tabV_len tabA values mv P.length
    have HVA := Lib.hid (show 0 < cntP P (tabV tabA values mv P.length) → ∀ i, i < P.length → _ from fun hpos i hi => allow_ok (ps := P) (vs := tabV tabA values mv P.length) h2 (by
      rw [show cntP P (tabV tabA values mv P.length) = ((pAll P (tabV tabA values mv P.length) P.length []).length : Int) from if_pos hask] at hpos
      omega) hi)
    generalize tabI tabA values mv = vf at *
    generalize tabV tabA values mv P.length = VS at *
    have hb0 : VS.take 0 = [] := rfl
    have HBn := Lib.hid (show VS.take P.length = VS from List.take_of_length_le (by omega))
    have CA := Lib.hid (show ∀ c1 c2 b d W, SlP W 1 b P.length c1 (ints P) → SlP W 1 d P.length c2 (ints VS) → Calls Try.prog 26 #[.slice b P.length c1, .slice d P.length c2] W fun e w' => e = .returned (.tuple #[.bool (decide (0 < cntP P VS)), .int .i64 0]) ∧ Below W.heap.size W w' from fun c1 c2 b d W h1 h2 => by
      have := pcan_any P VS b d c1 c2 W h1 (by rw [hvl]; exact h2)
      rw [hvl, hask] at this
      exact this)
    have CN := Lib.hid (show ∀ c1 c2 b d W, SlP W 1 b P.length c1 (ints P) → SlP W 1 d P.length c2 (ints VS) → Calls Try.prog 28 #[.slice b P.length c1, .slice d P.length c2] W fun e w' => e = .returned (.tuple #[.int .i64 (cntP P VS), .int .i64 0]) ∧ Below W.heap.size W w' from fun c1 c2 b d W h1 h2 => by
      have := pcount_any P VS b d c1 c2 W h1 (by rw [hvl]; exact h2)
      rw [hvl, hask] at this
      exact this)
    have HVL := Lib.hid hvl
    clear hPO hz hzv hp hq hask hvl hm3 hmv
    generalize cntP P VS = C at *
    obtain ⟨n, hn⟩ : ∃ n, P.length = n := ⟨_, rfl⟩
    rw [hn] at h2 h8 h2' HT HVA HBn CA CN HVL PA
    go_enter Try.func7, Try.ntmps7
    go_wp2_with fail
    refine PA.out.mono ?_
    rintro e w1 ⟨v, rfl, ho⟩
    obtain ⟨qp, cpp, rfl⟩ := ho.val
    obtain ⟨_, _, e9, hsl⟩ := SlP.of_own ho.row (by rw [← hn]; exact ints_len P) (ints_one P)
    injection e9 with e9 _ e10
    subst e9 e10
    have HP1 := Lib.hid hsl
    have B1 := Lib.hid ho.bel
    clear ho hsl PA hn
    go_wp2_with fail
    go_loopw [6, 7] (fun v i wr => ∃ k : Nat, k ≤ n ∧ i = .int .i64 k ∧ (∃ q c, v = .slice q k c) ∧ Hid (OwnL w1 wr 3 1 v k (ints (VS.take k)))) (fun _ i _ => n - (intOf i).toNat)
    case atStart => exact ⟨0, by omega, rfl, ⟨none, 0, rfl⟩, Lib.hid (by rw [hb0]; exact OwnL.start _ _ _)⟩
    case round =>
      rename World => wr
      clear hb0
      obtain ⟨k, hk, rfl, ⟨x, c, rfl⟩, ho⟩ := hrel
      by_cases hlt : k < n
      · have hlt' : (k : Int) < n := by omega
        obtain ⟨j, hj1, hj2, hj3⟩ := HI.out k
        have AT1 := Lib.hid (fun W b => AT.out k (by omega) W b)
        have MV1 := Lib.hid (fun W => MV.out k W)
        rw [hj1] at MV1
        have hE := Lib.hid (show ints (VS.take (k + 1)) = ints (VS.take k) ++ ints [vf k] by rw [HT.out k hlt]; exact List.map_append ..)
        rw [hj3] at hE
        have hj7 : (j : Int) < 7 := by omega
        have hjz : (0 : Int) ≤ j := by omega
        have hBr := Lib.hid (w_alloc (w_below B1.out ho.out.bel) (.cells #[.int .i64 3, .int .i64 2, .int .i64 4, .int .i64 3, .int .i64 5, .int .i64 1, .int .i64 3] 3))
        have ct := tab_cell (W := wr.alloc (.cells #[.int .i64 3, .int .i64 2, .int .i64 4, .int .i64 3, .int .i64 5, .int .i64 1, .int .i64 3] 3)) (HoldsB.new wr 3 (ints tabA).toArray) (show j < tabA.length from hj2)
        have hb1 := Lib.hid (w_alloc (w_refl wr) (.cells #[.int .i64 3, .int .i64 2, .int .i64 4, .int .i64 3, .int .i64 5, .int .i64 1, .int .i64 3] 3))
        generalize tabA.getD j 0 = xv at *
        clear HT HVA HBn CA CN AT MV HI hj1 hj3
        go_wp2_with fail
        generalize hwl : wr.alloc (.cells #[.int .i64 3, .int .i64 2, .int .i64 4, .int .i64 3, .int .i64 5, .int .i64 1, .int .i64 3] 3) = wl at *
        clear hwl
        have HO := Lib.hid (ho.out.later (w_alloc hb1.out (.cells #[.int .i64 xv] 3)))
        refine (AT1.out _ hBr.out).mono ?_
        rintro e w2 ⟨rfl, rfl⟩
        go_wp2_with fail
        refine (M3.out _).mono ?_
        rintro e w2 ⟨rfl, rfl⟩
        go_wp2_with fail
        refine (MV1.out _).mono ?_
        rintro e w2 ⟨rfl, rfl⟩
        clear AT1 MV1
        go_wp2_with (at_builtin; refine wpList_append_own_at _ rfl _ _ 22 rfl w1.heap.size 3 i0 (.int .i64 0) 1 8 Try.underlying22 hi0 hz0 hz1 hz2 rfl (by decide) _ k (ints (VS.take k)) rfl HO.out.row ⟨w2.heap.size, 0, none⟩ 1 1 (ints [xv]) rfl rfl (lit_new _ _ _) (ints_one _) (by unfold maxLen; omega) (by omega) HO.out.bel.size ?_)
        intro v' w3 hown hgrow _ _
        have HN := Lib.hid (show OwnL w1 w3 3 1 v' (k + 1) (ints (VS.take (k + 1))) by
          rw [hE.out]
          exact ho.out.app (w_alloc hb1.out _) (by rw [show ints (VS.take k) = (VS.map (Value.int .i64)).take k from List.map_take ..]; exact hown) hgrow)
        obtain ⟨x2, c2, hv⟩ := HN.out.val
        subst hv
        clear hown hgrow HO ct
        go_wp2_with fail
        go_roundw
        case rel => exact ⟨k + 1, by omega, by go_num, ⟨x2, c2, rfl⟩, HN⟩
        case measure => simp [intOf]; omega
      · obtain rfl : k = n := by omega
        have hlt' : ¬ ((k : Int) < k) := by omega
        obtain ⟨_, _, e9, hsv⟩ := SlP.of_own ho.out.row (by rw [HBn.out, ← HVL.out]; exact ints_len VS) (ints_one _)
        injection e9 with e9 _ e10
        subst e9 e10
        rw [HBn.out] at hsv
        have HV := Lib.hid hsv
        have HPr := Lib.hid (HP1.out.later ho.out.bel)
        have B2 := Lib.hid (w_below B1.out ho.out.bel)
        clear ho hsv HT HBn AT MV HI HP1 B1 M3
        go_wp2_with fail
        refine (CA.out _ _ _ _ _ HPr.out HV.out).mono ?_
        rintro e w4 ⟨rfl, hb⟩
        replace HPr := Lib.hid (HPr.out.later hb)
        replace HV := Lib.hid (HV.out.later hb)
        replace B2 := Lib.hid (w_below B2.out hb)
        clear hb CA
        go_wp2_with fail
        refine (CN.out _ _ _ _ _ HPr.out HV.out).mono ?_
        rintro e w5 ⟨rfl, hb⟩
        replace HV := Lib.hid (HV.out.later hb)
        replace B2 := Lib.hid (w_below B2.out hb)
        clear hb CN HPr
        by_cases hC : 0 < C
        · have hCd : decide (0 < C) = true := decide_eq_true hC
          have HVB := Lib.hid (HVA.out hC)
          clear HVA
          go_wp2_with fail
          go_loopw [12] (fun s12 wr => ∃ i : Nat, i ≤ k ∧ s12 = .int .i64 (i : Int) ∧ wr = w5) (fun s12 _ => k - (intOf s12).toNat)
          case atStart => exact ⟨0, by omega, rfl, rfl⟩
          case round =>
            rename World => wz
            obtain ⟨i, hi, rfl, rfl⟩ := hrel
            by_cases hik : i < k
            · have hik' : (i : Int) < k := by omega
              have hi0' : (0 : Int) ≤ i := by omega
              obtain ⟨g1, g2⟩ := HVB.out i hik
              obtain ⟨bv, ov, rfl, -, -⟩ := HV.out.at_ (by omega)
              have c0 := int_at HV.out hik
              have d0 := int_at HV.out (show 0 < k by omega)
              have d1 := int_at HV.out (show 1 < k by omega)
              rw [Nat.add_zero] at d0
              have hk1 : (1 : Int) < k := by omega
              have hk0 : (0 : Int) < k := by omega
              clear HVB HV
              obtain ⟨y, hy⟩ : ∃ y, VS.getD i 0 = y := ⟨_, rfl⟩
              rw [hy] at c0 g1 g2
              by_cases h4 : y = 4
              · obtain ⟨u1, u2, u3⟩ := g2 h4
                rw [u2] at d0
                rw [u3] at d1
                have u1' : ¬ (1 : Int) < i := by omega
                subst h4
                clear g1 g2 hy u2 u3 u1
                go_wp2_with fail
                go_roundw
                case rel => exact ⟨i + 1, by omega, by go_num, trivial⟩
                case measure => simp [intOf]; omega
              · have y1 : (y == 1) = false := by simp; omega
                have y4 : (y == 4) = false := by simp; omega
                have y5 : ¬ 4 < y := by omega
                clear g1 g2 hy h4 d0 d1
                go_wp2_with fail
                go_roundw
                case rel => exact ⟨i + 1, by omega, by go_num, trivial⟩
                case measure => simp [intOf]; omega
            · obtain rfl : i = k := by omega
              have hik' : ¬ ((i : Int) < i) := by omega
              clear HVB
              go_wp2_with fail
              refine (AW.out _).mono ?_
              rintro e w6 ⟨rfl, hb⟩
              replace B2 := Lib.hid (w_below B2.out hb)
              clear hb AW
              go_wp2_with fail
              go_ret
              exact ⟨rfl, B2.out⟩
        · have hCd : decide (0 < C) = false := decide_eq_false hC
          clear HVA
          go_wp2_with fail
          go_loopw [12] (fun s12 wr => s12 = .int .i64 0 ∧ wr = w5) (fun _ _ => 0)
          case atStart => exact ⟨rfl, rfl⟩
          case round =>
            rename World => wz
            obtain ⟨rfl, rfl⟩ := hrel
            go_wp2_with fail
            refine (AW.out _).mono ?_
            rintro e w6 ⟨rfl, hb⟩
            replace B2 := Lib.hid (w_below B2.out hb)
            clear hb AW
            go_wp2_with fail
            go_ret
            exact ⟨rfl, B2.out⟩
  · have h2' : (P.length : Int) < 2 := by omega
    clear hPO hz hzv hp hq h2
    go_enter Try.func7, Try.ntmps7
    go_wp2_with fail
    refine PA.out.mono ?_
    rintro e w1 ⟨v, rfl, ho⟩
    obtain ⟨qp, cpp, rfl⟩ := ho.val
    have B := Lib.hid ho.bel
    clear ho PA
    go_wp2_with fail
    refine (AW.out _).mono ?_
    rintro e w2 ⟨rfl, hb⟩
    replace B := Lib.hid (w_below B.out hb)
    clear hb AW
    go_wp2_with fail
    go_ret
    exact ⟨rfl, B.out⟩

end Go.Proofs.Ytedkcnphplpacaa
