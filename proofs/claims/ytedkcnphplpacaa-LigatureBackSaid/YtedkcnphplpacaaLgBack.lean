/- LigatureBack returns true: the values of a shape have a shape, and this one has these values. -/
import Derived.Test.YtedkcnphplpacaaLgProgM
import Derived.Test.YtedkcnphplpacaaLgMoved
namespace Go.Proofs.Ytedkcnphplpacaa
open Go.RowKit

def plsG (l : List Sg) : List Int := l.map (·.place)
theorem plsG_len (l : List Sg) : (plsG l).length = l.length := by unfold plsG; simp
theorem plsG_take {l : List Sg} {k : Nat} (h : k < l.length) : (plsG l).take (k + 1) = (plsG l).take k ++ [(l.getD k zS).place] := by
  rw [List.take_add_one]
  unfold plsG
  rw [List.getElem?_map, sg_some h]; rfl

set_option maxRecDepth 100000 in
set_option maxHeartbeats 2000000 in
theorem pof_any (l : List Sg) (hm : l.length ≤ 1000) (p : Option Addr) (cap : Nat) (w : World) (h : SlP w 17 p l.length cap (flatG l)) :
    Calls Try.prog 33 #[.slice p l.length cap] w fun e w' => ∃ v, e = .returned v ∧ OwnL w w' 3 1 v l.length (ints (plsG l)) := by
  obtain ⟨i0, hi0, hz0, hz1, hz2⟩ := info_parts info_int
  have f1 := h.fit
  have f2 := h.max
  have HS := Lib.hid h
  have HT := Lib.hid (fun k hk => plsG_take (l := l) (k := k) hk)
  have hb0 : (plsG l).take 0 = [] := rfl
  have HBn := Lib.hid (show (plsG l).take l.length = plsG l from List.take_of_length_le (by rw [plsG_len]; exact Nat.le_refl _))
  clear h
  generalize plsG l = PL at *
  go_enter Try.func33, Try.ntmps33
  go_wp2_with fail
  go_loopw [3, 4] (fun v i wr => ∃ k : Nat, k ≤ l.length ∧ i = .int .i64 k ∧ (∃ q c, v = .slice q k c) ∧ Hid (OwnL w wr 3 1 v k (ints (PL.take k)))) (fun _ i _ => l.length - (intOf i).toNat)
  case atStart => exact ⟨0, by omega, rfl, ⟨none, 0, rfl⟩, Lib.hid (by rw [hb0]; exact OwnL.start _ _ _)⟩
  case round =>
    rename World => wr
    clear hb0
    obtain ⟨k, hk, rfl, ⟨x, c, rfl⟩, ho⟩ := hrel
    by_cases hlt : k < l.length
    · have hlt' : (k : Int) < l.length := by omega
      have hk0 : (0 : Int) ≤ k := by omega
      obtain ⟨b, off, rfl, _, hs⟩ := (HS.out.later ho.out.bel).sg (sg_some hlt)
      have c2 := hs.e2
      have hE := Lib.hid (show ints (PL.take (k + 1)) = ints (PL.take k) ++ ints [(l.getD k zS).place] by rw [HT.out k hlt]; exact List.map_append ..)
      generalize (l.getD k zS).place = xv at *
      have HO := Lib.hid (ho.out.later (w_alloc (w_refl wr) (.cells #[.int .i64 xv] 3)))
      clear hs HT HBn
      go_wp2_with (at_builtin; refine wpList_append_own_at _ rfl _ _ 22 rfl w.heap.size 3 i0 (.int .i64 0) 1 8 Try.underlying22 hi0 hz0 hz1 hz2 rfl (by decide) _ k (ints (PL.take k)) rfl HO.out.row ⟨wr.heap.size, 0, none⟩ 1 1 (ints [xv]) rfl rfl (lit_new _ _ _) (ints_one _) (by unfold maxLen; omega) (by omega) HO.out.bel.size ?_)
      intro v' w3 hown hgrow _ _
      have HN := Lib.hid (show OwnL w w3 3 1 v' (k + 1) (ints (PL.take (k + 1))) by
        rw [hE.out]
        exact ho.out.app (w_alloc (w_refl wr) _) (by rw [show ints (PL.take k) = (PL.map (Value.int .i64)).take k from List.map_take ..]; exact hown) hgrow)
      obtain ⟨x2, c2', hv⟩ := HN.out.val
      subst hv
      clear hown hgrow HO c2
      go_wp2_with fail
      go_roundw
      case rel => exact ⟨k + 1, by omega, by go_num, ⟨x2, c2', rfl⟩, HN⟩
      case measure => simp [intOf]; omega
    · obtain rfl : k = l.length := by omega
      have hlt' : ¬ ((l.length : Int) < l.length) := by omega
      rw [HBn.out] at ho
      clear HT HBn
      go_wp2_with fail
      go_ret
      exact ⟨_, rfl, ho.out⟩

theorem stepB_some (o : Option (List Sg)) (x : List Sg) : ∃ b, stepB o x = some b := by
  unfold stepB
  split
  · exact ⟨_, rfl⟩
  · split <;> exact ⟨_, rfl⟩
theorem fold_mem : ∀ (xs : List (List Sg)) (o : Option (List Sg)) (b : List Sg), xs.foldl stepB o = some b → o = some b ∨ b ∈ xs
  | [], _, _, h => .inl h
  | x :: t, o, b, h => by
    rcases fold_mem t (stepB o x) b h with h1 | h1
    · unfold stepB at h1
      split at h1
      · injection h1 with h1; exact .inr (by rw [← h1]; simp)
      · split at h1
        · injection h1 with h1; exact .inr (by rw [← h1]; simp)
        · exact .inl h1
    · exact .inr (by simp [h1])
theorem fold_some : ∀ (xs : List (List Sg)) (o : Option (List Sg)), (o ≠ none ∨ xs ≠ []) → ∃ b, xs.foldl stepB o = some b
  | [], o, h => by
    rcases h with h | h
    · cases o with
      | none => exact absurd rfl h
      | some b => exact ⟨b, rfl⟩
    · exact absurd rfl h
  | x :: t, o, _ => by
    obtain ⟨b, hb⟩ := stepB_some o x
    exact fold_some t (stepB o x) (.inl (by rw [hb]; exact fun h => by cases h))
theorem valsG_getD (l : List Sg) {i : Nat} (h : i < l.length) : (valsG l).getD i 0 = valG l i := by
  simp only [List.getD]; unfold valsG; rw [List.getElem?_map, List.getElem?_range h]; rfl
theorem valsG_len (l : List Sg) : (valsG l).length = l.length := by unfold valsG; simp
theorem valG_bds (l : List Sg) (i : Nat) : 2 ≤ valG l i ∧ valG l i ≤ 4 := by
  unfold valG
  repeat' split
  all_goals omega
theorem mk_bld (P : List Int) (st : Nat → Int) (ob : Nat → Bool) : mkL P.length (fun i => P.getD i 0) st ob = bldP P ((List.range P.length).map fun i => (ob i, st i)) := by
  apply List.ext_getElem?
  intro i
  by_cases h : i < P.length
  · rw [mkL_at _ _ _ _ h, bldP_at P _ (by simpa using h)]
    have : ((List.range P.length).map fun i => (ob i, st i)).getD i (false, 0) = (ob i, st i) := by
      simp only [List.getD]; rw [List.getElem?_map, List.getElem?_range h]; rfl
    rw [this]; rfl
  · rw [List.getElem?_eq_none (by rw [mkL_len]; omega), List.getElem?_eq_none (by rw [bldP_len]; simp; omega)]
theorem bld_pls (P : List Int) (c : List (Bool × Int)) (hc : c.length = P.length) : plsG (bldP P c) = P := by
  apply List.ext_getElem?
  intro i
  unfold plsG
  rw [List.getElem?_map]
  by_cases h : i < P.length
  · rw [bldP_at P c (by omega), List.getElem?_eq_getElem h]
    show some (P.getD i 0) = _
    simp [List.getD, List.getElem?_eq_getElem h]
  · rw [List.getElem?_eq_none (by rw [bldP_len]; omega), List.getElem?_eq_none (by omega)]; rfl

/-- A valid ligature of these places: its values have a shape, and this one has these values and places. -/
theorem back_math {P : List Int} (hP : PaOk P) {st : Nat → Int} {ob : Nat → Bool} (hk : MkOk P.length (fun i => P.getD i 0) st ob) :
    askE P (valsG (mkL P.length (fun i => P.getD i 0) st ob)) = 0 ∧ 1 ≤ (pAll P (valsG (mkL P.length (fun i => P.getD i 0) st ob)) P.length []).length ∧
    ∃ S, shpR P (valsG (mkL P.length (fun i => P.getD i 0) st ob)) = some S ∧ S.length = P.length ∧ (chkG S).1 = 0 ∧ valsG S = valsG (mkL P.length (fun i => P.getD i 0) st ob) ∧ plsG S = P := by
  have hlen := mkL_len P.length (fun i => P.getD i 0) st ob
  have hp : ∀ i, i < P.length → -4 ≤ P.getD i 0 ∧ P.getD i 0 ≤ 12 := fun i hi => by have := hP.bds i hi; omega
  have hask : askE P (valsG (mkL P.length (fun i => P.getD i 0) st ob)) = 0 := ask_ok ⟨hk.lo, hk.hi⟩ (by rw [valsG_len, hlen]) (fun j hj => by
    rw [valsG_getD _ (by rw [hlen]; exact hj)]
    have a := hp j hj
    have b := valG_bds (mkL P.length (fun i => P.getD i 0) st ob) j
    unfold okPV
    omega)
  have hc : ((List.range P.length).map fun i => (ob i, st i)).length = P.length := by simp
  have ho : ∀ o ∈ ((List.range P.length).map fun i => (ob i, st i)), o ∈ optP := fun o hm => by
    obtain ⟨i, hi, rfl⟩ := List.mem_map.1 hm
    have := hk.sts i (List.mem_range.1 hi)
    exact opt_mem this.1 this.2
  have hmem : mkL P.length (fun i => P.getD i 0) st ob ∈ pAll P (valsG (mkL P.length (fun i => P.getD i 0) st ob)) P.length [] := by
    have := valid_all (vs := valsG (mkL P.length (fun i => P.getD i 0) st ob)) hp hc ho (fun i hi => by
      rw [← mk_bld]
      exact ⟨hk.err hi, (valsG_getD _ (by rw [hlen]; exact hi)).symm⟩)
    rwa [← mk_bld] at this
  refine ⟨hask, List.length_pos_of_mem hmem, ?_⟩
  obtain ⟨S, hS⟩ := fold_some (pAll P (valsG (mkL P.length (fun i => P.getD i 0) st ob)) P.length []) none (.inr (List.ne_nil_of_mem hmem))
  have hSm : S ∈ pAll P (valsG (mkL P.length (fun i => P.getD i 0) st ob)) P.length [] := (fold_mem _ none S hS).resolve_left (fun h => by cases h)
  obtain ⟨hl, hall⟩ := all_valid hp hSm
  obtain ⟨c, hc2, _, hL, _⟩ := (mem_all P _ S).1 hSm
  refine ⟨S, hS, hl, ?_, ?_, by rw [hL]; exact bld_pls P c hc2⟩
  · rw [chk_ok (by rw [hl]; exact ⟨hk.lo, hk.hi⟩) (fun k hk2 => (hall k (by omega)).1)]
  · apply List.ext_getElem?
    intro i
    by_cases h : i < P.length
    · have e1 := (hall i h).2
      rw [valsG_getD _ (by rw [hlen]; exact h)] at e1
      unfold valsG
      rw [List.getElem?_map, List.getElem?_map, List.getElem?_range (by omega), List.getElem?_range (by omega)]
      exact congrArg some e1
    · rw [List.getElem?_eq_none (by rw [valsG_len]; omega), List.getElem?_eq_none (by rw [valsG_len, hlen]; omega)]

set_option maxRecDepth 100000 in
set_option maxHeartbeats 4000000 in
theorem lback_any (nums : List Int) (hz : ∀ z ∈ nums, -9223372036854775808 ≤ z ∧ z ≤ 9223372036854775807) (m : Int) (hm : -9223372036854775808 ≤ m) (hm1 : m ≤ 9223372036854775807) (p : Option Addr) (cp : Nat) (w : World) (hp : SlP w 1 p nums.length cp (ints nums)) :
    Calls Try.prog 6 #[.slice p nums.length cp, .int .i64 m] w fun e w' => e = .returned (.bool true) ∧ Below w.heap.size w w' := by
  have MA := Lib.hid (made_any nums hz m hm hm1 p cp w hp)
  have hPO := pathG_ok nums
  have hD := show madeG nums m = if 2 ≤ (pathG nums).length then lsM (pathG nums) (kdM m) (pathG nums).length else [] from rfl
  generalize madeG nums m = MG at *
  generalize pathG nums = P at *
  have AW := Lib.hid (fun W => lawake_any W)
  by_cases h2 : 2 ≤ P.length
  · rw [if_pos h2, lsM_mk] at hD
    rw [decide_eq_true h2] at MA
    have h8 := hPO.len
    have OK0 : MkOk P.length (fun i => P.getD i 0) (stMd (kdM m)) (obM P (kdM m)) := by
      have := made_mk hPO h2 (kdM m) 0 (by omega)
      simpa using this
    have hpls : plsG MG = P := by rw [hD, mk_bld]; exact bld_pls P _ (by simp)
    obtain ⟨hask, hcnt, S, hS, hSl, hSc, hSv, hSp⟩ := back_math hPO OK0
    have hchk := OK0.chk
    rw [← hD] at hask hcnt hS hSv hchk
    have hlen : MG.length = P.length := by rw [hD, mkL_len]
    clear hD OK0 hPO hz hp hm hm1
    obtain ⟨n, hn⟩ : ∃ n, P.length = n := ⟨_, rfl⟩
    have hvl := valsG_len MG
    obtain ⟨V, hV⟩ : ∃ V, valsG MG = V := ⟨_, rfl⟩
    rw [hV] at hask hcnt hS hSv hvl
    have hVn : V.length = n := by rw [hvl, hlen, hn]
    rw [hlen, hn] at MA
    have PO := Lib.hid (show ∀ q c W, SlP W 17 q n c (flatG MG) → Calls Try.prog 33 #[.slice q n c] W fun e w' => ∃ v, e = .returned v ∧ OwnL W w' 3 1 v n (ints P) from fun q c W h => by
      have := pof_any MG (by omega) q c W (by rw [hlen, hn]; exact h)
      rw [hpls, hlen, hn] at this
      exact this)
    have POS := Lib.hid (show ∀ q c W, SlP W 17 q n c (flatG S) → Calls Try.prog 33 #[.slice q n c] W fun e w' => ∃ v, e = .returned v ∧ OwnL W w' 3 1 v n (ints P) from fun q c W h => by
      have := pof_any S (by omega) q c W (by rw [hSl, hn]; exact h)
      rw [hSp, hSl, hn] at this
      exact this)
    have PV := Lib.hid (show ∀ q c W, SlP W 17 q n c (flatG MG) → Calls Try.prog 19 #[.slice q n c] W fun e w' => ∃ v, e = .returned (.tuple #[v, .int .i64 0]) ∧ IntV w' v V ∧ Below W.heap.size W w' from fun q c W h => by
      have := plvals_any MG (by omega) q c W (by rw [hlen, hn]; exact h)
      unfold ValPost at this
      rw [if_pos hchk, hchk, hlen, hn, hV] at this
      exact this)
    have PS := Lib.hid (show ∀ q c W, SlP W 17 q n c (flatG S) → Calls Try.prog 19 #[.slice q n c] W fun e w' => ∃ v, e = .returned (.tuple #[v, .int .i64 0]) ∧ IntV w' v V ∧ Below W.heap.size W w' from fun q c W h => by
      have := plvals_any S (by omega) q c W (by rw [hSl, hn]; exact h)
      unfold ValPost at this
      rw [if_pos hSc, hSc, hSl, hn, hSv] at this
      exact this)
    have SH := Lib.hid (show ∀ b d c1 c2 W, SlP W 1 b n c1 (ints P) → SlP W 1 d n c2 (ints V) → Calls Try.prog 24 #[.slice b n c1, .slice d n c2] W fun e w' => ∃ v, e = .returned (.tuple #[v, .int .i64 0]) ∧ OwnL W w' 30 17 v n (flatG S) from fun b d c1 c2 W h1 h2 => by
      have := pshape_any P V b d c1 c2 W (by rw [hn]; exact h1) (by rw [hVn]; exact h2)
      unfold ShpP shpE shpS at this
      rw [if_pos hask, if_pos hask, hS, hn, hVn] at this
      have hSS : ((some S).getD []).length = n := by show S.length = n; omega
      rw [hSS] at this
      exact this)
    have CN := Lib.hid (show ∃ C : Int, 1 ≤ C ∧ ∀ b d c1 c2 W, SlP W 1 b n c1 (ints P) → SlP W 1 d n c2 (ints V) → Calls Try.prog 28 #[.slice b n c1, .slice d n c2] W fun e w' => e = .returned (.tuple #[.int .i64 C, .int .i64 0]) ∧ Below W.heap.size W w' from ⟨cntP P V, by
      rw [show cntP P V = ((pAll P V P.length []).length : Int) from if_pos hask]; omega, fun b d c1 c2 W h1 h2 => by
      have := pcount_any P V b d c1 c2 W (by rw [hn]; exact h1) (by rw [hVn]; exact h2)
      rw [hn, hVn, hask] at this
      exact this⟩)
    obtain ⟨C, hC1, hCN⟩ := CN.out
    have CN2 := Lib.hid hCN
    have SI := Lib.hid (show ∀ b d c1 c2 W, SlP W 1 b n c1 (ints V) → SlP W 1 d n c2 (ints V) → Calls Try.prog 21 #[.slice b n c1, .slice d n c2] W fun e w' => e = .returned (.bool true) ∧ Below W.heap.size W w' from fun b d c1 c2 W h1 h2 => by
      have := samei_any b d c1 c2 V W (by rw [hVn]; exact h1) (by rw [hVn]; exact h2)
      rw [hVn] at this; exact this)
    have SP := Lib.hid (show ∀ b d c1 c2 W, SlP W 1 b n c1 (ints P) → SlP W 1 d n c2 (ints P) → Calls Try.prog 21 #[.slice b n c1, .slice d n c2] W fun e w' => e = .returned (.bool true) ∧ Below W.heap.size W w' from fun b d c1 c2 W h1 h2 => by
      have := samei_any b d c1 c2 P W (by rw [hn]; exact h1) (by rw [hn]; exact h2)
      rw [hn] at this; exact this)
    have HFG := Lib.hid (show (flatG MG).length = n * 17 ∧ (flatG S).length = n * 17 ∧ (ints P).length = n * 1 from ⟨by rw [flatG_len]; omega, by rw [flatG_len]; omega, by rw [ints_len]; omega⟩)
    have HVN := Lib.hid hVn
    clear CN hCN hask hcnt hS hSl hSc hSv hSp hpls hchk hlen hvl hV hVn hn h8
    go_enter Try.func6, Try.ntmps6
    go_wp2_with fail
    refine MA.out.mono ?_
    rintro e w1 ⟨v, rfl, ho⟩
    obtain ⟨ql, cl, rfl, hs⟩ := SlP.of_own ho.row HFG.out.1 (flatG_one _)
    have B := Lib.hid ho.bel
    have HL := Lib.hid hs
    clear ho hs MA
    go_wp2_with fail
    refine (PO.out _ _ _ HL.out).mono ?_
    rintro e w2 ⟨v, rfl, ho⟩
    obtain ⟨qp, cpp, rfl, hs⟩ := SlP.of_own ho.row HFG.out.2.2 (ints_one _)
    replace B := Lib.hid (w_below B.out ho.bel)
    replace HL := Lib.hid (HL.out.later ho.bel)
    have HP := Lib.hid hs
    clear ho hs PO
    go_wp2_with fail
    refine (PV.out _ _ _ HL.out).mono ?_
    rintro e w3 ⟨v, rfl, hv, hb⟩
    obtain ⟨q1, c1, rfl, hs1⟩ := hv
    rw [HVN.out] at hs1
    replace B := Lib.hid (w_below B.out hb)
    replace HP := Lib.hid (HP.out.later hb)
    have H1 := Lib.hid hs1
    clear hb hs1 PV HL
    rw [HVN.out]
    go_wp2_with fail
    refine (SH.out _ _ _ _ _ HP.out H1.out).mono ?_
    rintro e w4 ⟨v, rfl, ho⟩
    obtain ⟨qs, cs, rfl, hs⟩ := SlP.of_own ho.row HFG.out.2.1 (flatG_one _)
    replace B := Lib.hid (w_below B.out ho.bel)
    replace HP := Lib.hid (HP.out.later ho.bel)
    replace H1 := Lib.hid (H1.out.later ho.bel)
    have HSS := Lib.hid hs
    clear ho hs SH
    go_wp2_with fail
    refine (PS.out _ _ _ HSS.out).mono ?_
    rintro e w5 ⟨v, rfl, hv, hb⟩
    obtain ⟨q2, c2, rfl, hs2⟩ := hv
    rw [HVN.out] at hs2
    replace B := Lib.hid (w_below B.out hb)
    replace HP := Lib.hid (HP.out.later hb)
    replace H1 := Lib.hid (H1.out.later hb)
    replace HSS := Lib.hid (HSS.out.later hb)
    have H2 := Lib.hid hs2
    clear hb hs2 PS
    rw [HVN.out]
    go_wp2_with fail
    refine (CN2.out _ _ _ _ _ HP.out H1.out).mono ?_
    rintro e w6 ⟨rfl, hb⟩
    replace B := Lib.hid (w_below B.out hb)
    replace HP := Lib.hid (HP.out.later hb)
    replace H1 := Lib.hid (H1.out.later hb)
    replace H2 := Lib.hid (H2.out.later hb)
    replace HSS := Lib.hid (HSS.out.later hb)
    clear hb CN2
    go_wp2_with fail
    refine (SI.out _ _ _ _ _ H1.out H2.out).mono ?_
    rintro e w7 ⟨rfl, hb⟩
    replace B := Lib.hid (w_below B.out hb)
    replace HP := Lib.hid (HP.out.later hb)
    replace HSS := Lib.hid (HSS.out.later hb)
    clear hb SI H1 H2
    go_wp2_with fail
    refine (POS.out _ _ _ HSS.out).mono ?_
    rintro e w8 ⟨v, rfl, ho⟩
    obtain ⟨qp2, cp2, rfl, hs⟩ := SlP.of_own ho.row HFG.out.2.2 (ints_one _)
    replace B := Lib.hid (w_below B.out ho.bel)
    replace HP := Lib.hid (HP.out.later ho.bel)
    have HP2 := Lib.hid hs
    clear ho hs POS HSS
    go_wp2_with fail
    refine (SP.out _ _ _ _ _ HP2.out HP.out).mono ?_
    rintro e w9 ⟨rfl, hb⟩
    replace B := Lib.hid (w_below B.out hb)
    clear hb SP HP HP2
    go_wp2_with fail
    refine (AW.out _).mono ?_
    rintro e w10 ⟨rfl, hb⟩
    replace B := Lib.hid (w_below B.out hb)
    clear hb AW
    go_wp2_with fail
    go_ret
    exact ⟨rfl, B.out⟩
  · rw [decide_eq_false h2] at MA
    clear hD hPO h2
    go_enter Try.func6, Try.ntmps6
    go_wp2_with fail
    refine MA.out.mono ?_
    rintro e w1 ⟨v, rfl, ho⟩
    have B := Lib.hid ho.bel
    clear ho MA
    go_wp2_with fail
    refine (AW.out _).mono ?_
    rintro e w2 ⟨rfl, hb⟩
    replace B := Lib.hid (w_below B.out hb)
    clear hb AW
    go_wp2_with fail
    go_ret
    exact ⟨rfl, B.out⟩

end Go.Proofs.Ytedkcnphplpacaa
