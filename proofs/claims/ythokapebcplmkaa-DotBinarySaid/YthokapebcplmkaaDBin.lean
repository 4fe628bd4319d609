/- DotBinary: without perfect values all dots after notes add. -/
import Derived.Test.YthokapebcplmkaaDMade
import Derived.Test.YthokapebcplmkaaDKnown
namespace Go.Proofs.Ythokapebcplmkaa
open Go.RowKit

/-- A guarded operation whose guard holds. -/
theorem wl_ungd {ops : Array Oper} {rest : List Oper} {dd : Option Tmp} {op : Op} {t : TypeId} {ps : String} {af : Array Edge} {g : Option (Nat × Bool)} {a : Act} {Q : Exit → Act → World → Prop} {w : World} (hw : Region.wanted { dst := dd, op := op, type := t, pos := ps, after := af, guard := g } (yielded ops a.tmps) = true)
    (h : wpList Try.prog ops Q ({ dst := dd, op := op, type := t, pos := ps, after := af, guard := none } :: rest) a w) : wpList Try.prog ops Q ({ dst := dd, op := op, type := t, pos := ps, after := af, guard := g } :: rest) a w := by
  unfold wpList at h ⊢
  rw [if_pos hw]
  exact h
theorem hf_ok : okM (2, 2, 2, 2) := by decide
theorem hf_abv : ∀ k, abvI (2, 2, 2, 2) k = 0
  | 0 => rfl
  | k + 1 => by
    rw [abv_no (by unfold pI; repeat' split
                   all_goals rfl)]
    exact hf_abv k
theorem hf_abo (v : Int) : aboV (2, 2, 2, 2) v = 0 := by
  unfold aboV
  split
  · exact hf_abv _
  · rfl
theorem hf_own (v : Int) : ownM (2, 2, 2, 2) v = 0 := by
  unfold ownM
  rw [if_neg]
  unfold parV
  split
  · unfold pI
    repeat' split
    all_goals decide
  · decide
theorem hf_mns (s : Sg) : mns (2, 2, 2, 2) s = if s.kind = 1 then [0] else [] := by
  unfold mns
  rw [hf_abo, hf_own]
  split
  · split <;> rfl
  · rfl
theorem hf_mnP {l : List Sg} (h : ∀ j, j < l.length → errD (2, 2, 2, 2) l j = 0) : ∀ k, k ≤ l.length → (∀ z ∈ mnP (2, 2, 2, 2) l k, z = [0]) ∧ ∀ z ∈ ruP (2, 2, 2, 2) l k, z = 0
  | 0, _ => ⟨fun z hz => (by cases hz), fun z hz => (by cases hz)⟩
  | k + 1, hk => by
    obtain ⟨i1, i2⟩ := hf_mnP h k (by omega)
    by_cases hd : (l.getD k zS).kind = 3
    · obtain ⟨j, _, _, _, hb, hm, _⟩ := dot_prev h (by omega) hd
      have hmb : mns (2, 2, 2, 2) (bef l k) = [0] := by
        rw [hb]
        rw [hf_mns] at hm ⊢
        split
        · rfl
        · rename_i e; rw [if_neg e] at hm; exact absurd rfl hm
      rw [mnP_dot hd, ruP_dot hd]
      refine ⟨fun z hz => ?_, fun z hz => ?_⟩
      · rcases List.mem_append.1 hz with hz | hz
        · exact i1 z hz
        · rw [List.mem_singleton.1 hz]; exact hmb
      · rcases List.mem_append.1 hz with hz | hz
        · exact i2 z hz
        · rw [List.mem_singleton.1 hz]
          unfold rul
          rw [hmb]; rfl
    · rw [mnP_not hd, ruP_not hd]; exact ⟨i1, i2⟩
theorem prod_one : ∀ L : List (List Int), (∀ z ∈ L, z = [0]) → prodL L = 1
  | [], _ => rfl
  | x :: t, h => by
    have h1 := h x (List.mem_cons_self ..)
    show x.length * prodL t = 1
    rw [prod_one t (fun z hz => h z (List.mem_cons_of_mem _ hz)), h1]; rfl
theorem hf_cnt (nums : List Int) : cntD (2, 2, 2, 2) (madeD nums) = (1, 0) := by
  have hc := made_ok hf_ok nums
  have hp := prod_one (mnD (2, 2, 2, 2) (madeD nums)) (by rw [mnD_ok hc]; exact (hf_mnP (chkD_zero hc).2 _ (Nat.le_refl _)).1)
  unfold cntD
  rw [if_pos hc, hp, if_pos (by decide)]; rfl
theorem hf_rule (nums : List Int) : ∀ z ∈ ruD (2, 2, 2, 2) (madeD nums), z = 0 := by
  have hc := made_ok hf_ok nums
  rw [ruD_ok hc]
  exact (hf_mnP (chkD_zero hc).2 _ (Nat.le_refl _)).2
theorem hf_bad (nums : List Int) : chkD (2, 2, 2, 2) (madeD nums ++ [rS 5, pS]) = 13 := by
  have hv := mdP_ok (2, 2, 2, 2) nums (min nums.length 20)
  have h1 : VR (2, 2, 2, 2) (madeD nums ++ [rS 5]) := VR.app hv (by unfold sgnE; rw [if_pos (.inr rfl), if_pos (by decide)])
  have e : madeD nums ++ [rS 5, pS] = (madeD nums ++ [rS 5]) ++ [pS] := by simp
  rw [e]
  generalize hM : madeD nums ++ [rS 5] = M at *
  have hbl : bef (M ++ [pS]) M.length = rS 5 := by
    rw [bef_app M [pS] _ (Nat.le_refl _), ← hM, bef_last]; rfl
  have hgd : (M ++ [pS]).getD M.length zS = pS := gd_r _ _ _
  have he : errD (2, 2, 2, 2) (M ++ [pS]) M.length = 13 := by
    unfold errD
    rw [hbl, hgd]
    unfold sgnE
    rw [if_neg (by decide), if_pos (show pS.kind = 3 from rfl), if_pos (by rw [hf_mns]; rfl)]
  have := chkD_hit (q := (2, 2, 2, 2)) (l := M ++ [pS]) hf_ok (j := M.length) (by simp) (by rw [he]; decide) (fun k hk => by
    unfold errD
    rw [bef_app M [pS] k (by omega), gd_l M [pS] zS hk]
    exact h1 k hk)
  rw [this, he]

set_option maxRecDepth 100000 in
set_option maxHeartbeats 8000000 in
theorem ldbin_any (nums : List Int) (hb : ∀ z ∈ nums, -9223372036854775808 ≤ z ∧ z ≤ 9223372036854775807) (p : Option Addr) (cap : Nat) (w : World) (h : SlP w 1 p nums.length cap (ints nums)) :
    Calls Try.prog 8 #[.slice p nums.length cap] w fun e w' => e = .returned (.bool true) ∧ Below w.heap.size w w' := by
  obtain ⟨i0, hi0, hz0, hz1, hz2⟩ := info_parts info_sign
  have HP := Lib.hid h
  have KN := Lib.hid (dknown_any w)
  have MA := Lib.hid (fun p cap W hh => made_any nums hb p cap W hh)
  have HF := Lib.hid (fun W => half_any W)
  have RT := Lib.hid (fun v W => lrest_any v W)
  have PT := Lib.hid (fun W => lpoint_any W)
  have hml := made_len nums
  have RU := Lib.hid (fun p cap W hh => prul_any (2, 2, 2, 2) (madeD nums) (by omega) p cap W hh)
  have CN := Lib.hid (fun p cap W hh => pcnt_any (2, 2, 2, 2) (madeD nums) (by omega) p cap W hh)
  have OW := Lib.hid (fun p cap W hh => lown_any p cap (madeD nums) (by omega) W hh)
  have CK := Lib.hid (fun p cap W hh => pchk_any (2, 2, 2, 2) (madeD nums ++ [rS 5, pS]) (by simp; omega) p cap W hh)
  unfold RuPost at RU
  rw [made_ok hf_ok nums] at RU
  rw [hf_cnt nums] at CN
  rw [hf_bad nums] at CK
  have HZ := Lib.hid (hf_rule nums)
  clear h hb
  generalize ruD (2, 2, 2, 2) (madeD nums) = R at *
  generalize madeD nums = M at *
  go_enter Try.func8, Try.ntmps8
  go_wp2_with fail
  refine KN.out.mono ?_
  rintro e w1 ⟨rfl, hb⟩
  have B := Lib.hid hb
  clear hb KN
  go_wp2_with fail
  refine (MA.out _ _ _ (HP.out.later B.out)).mono ?_
  rintro e w2 ⟨v, rfl, ho⟩
  obtain ⟨pm, cm, rfl⟩ := ho.val
  have HM := Lib.hid (show SlP w2 17 pm M.length cm (flatG M) from own_sl ho.row rfl)
  replace B := Lib.hid (w_below B.out ho.bel)
  clear ho MA
  go_wp2_with fail
  refine (HF.out _).mono ?_
  rintro e w3 ⟨rfl, hb⟩
  replace B := Lib.hid (w_below B.out hb)
  replace HM := Lib.hid (HM.out.later hb)
  clear hb
  go_wp2_with fail
  refine (RU.out _ _ _ HM.out).mono ?_
  rintro e w4 ⟨v, rfl, ⟨pr, cr, rfl, hR⟩, hb⟩
  replace B := Lib.hid (w_below B.out hb)
  replace HM := Lib.hid (HM.out.later hb)
  have HR := Lib.hid hR
  clear hb hR RU
  go_wp2_with fail
  refine (HF.out _).mono ?_
  rintro e w5 ⟨rfl, hb⟩
  replace B := Lib.hid (w_below B.out hb)
  replace HM := Lib.hid (HM.out.later hb)
  replace HR := Lib.hid (HR.out.later hb)
  clear hb
  go_wp2_with fail
  refine (CN.out _ _ _ HM.out).mono ?_
  rintro e w6 ⟨rfl, hb⟩
  replace B := Lib.hid (w_below B.out hb)
  replace HM := Lib.hid (HM.out.later hb)
  replace HR := Lib.hid (HR.out.later hb)
  clear hb CN
  have g1 := HR.out.fit
  have g2 := HR.out.max
  go_wp2_with fail
  go_loopw [9] (fun s9 wr => ∃ k : Nat, k ≤ R.length ∧ s9 = .int .i64 k ∧ w6 = wr) (fun s9 _ => R.length - (intOf s9).toNat)
  case atStart => exact ⟨0, by omega, rfl, rfl⟩
  case round =>
    obtain ⟨k, hk, rfl, rfl⟩ := hrel
    by_cases hlt : k < R.length
    · have hlt' : (k : Int) < R.length := by omega
      have hk0 : (0 : Int) ≤ k := by omega
      obtain ⟨b, off, rfl, -, -⟩ := HR.out.at_ (by omega)
      have c0 := int_at HR.out hlt
      have hz : R.getD k 0 = 0 := by
        rw [List.getD_eq_getElem?_getD, List.getElem?_eq_getElem hlt]
        exact HZ.out _ (List.getElem_mem hlt)
      rw [hz] at c0
      clear hz
      go_wp2_with fail
      exact ⟨⟨k + 1, by omega, by go_num, trivial⟩, by simp [intOf]; omega⟩
    · obtain rfl : k = R.length := by omega
      clear HR HZ
      go_wp2_with fail
      refine (HF.out _).mono ?_
      rintro e w7 ⟨rfl, hb⟩
      replace B := Lib.hid (w_below B.out hb)
      replace HM := Lib.hid (HM.out.later hb)
      have B7 := Lib.hid B.out.size
      clear hb HF
      go_wp2_with fail
      refine (OW.out _ _ _ HM.out).mono ?_
      rintro e w8 ⟨v, rfl, ho⟩
      obtain ⟨po, co, rfl⟩ := ho.val
      have HO := Lib.hid ho
      replace B := Lib.hid (w_below B.out ho.bel)
      clear ho OW HM
      go_wp2_with fail
      refine (RT.out 5 _).mono ?_
      rintro e w9 ⟨rfl, hb⟩
      replace B := Lib.hid (w_below B.out hb)
      replace HO := Lib.hid (HO.out.later hb)
      clear hb
      go_wp2_with fail
      refine (PT.out _).mono ?_
      rintro e wa ⟨rfl, hb⟩
      replace B := Lib.hid (w_alloc (w_below B.out hb) (litO [rS 5, pS]))
      replace HO := Lib.hid ((HO.out.later hb).later (w_alloc (w_refl wa) (litO [rS 5, pS])))
      clear hb
      go_wp2_with (first | (refine wl_lit 2 _ [rS 5, pS] #[(0, sgv (rS 5)), (1, sgv pS)] (by kernel_rfl) (run_lit2 _ _ _) (by kernel_rfl) ?_) | (at_builtin; refine wl_ungd (by kernel_rfl) ?_; refine wpList_append_own_at _ rfl _ _ 24 rfl w7.heap.size 51 i0 (sgv zS) 17 128 Try.underlying24 hi0 hz0 hz1 hz2 rfl (by decide) _ M.length (flatG M) rfl HO.out.row ⟨wa.heap.size, 0, none⟩ 2 2 (flatG [rS 5, pS]) rfl rfl (lit_new _ _ _) (flatG_one _) (by unfold maxLen; omega) (by omega) HO.out.bel.size ?_) | fail)
      intro v5 wb hown hgrow _ _
      have HN := Lib.hid (show OwnL w7 wb 51 17 v5 (M.length + 2) (flatG (M ++ [rS 5, pS])) from by rw [flatG_app]; exact HO.out.app (w_refl _) hown hgrow)
      have B2 := Lib.hid (show Below w.heap.size w wb from B.out.grown hgrow B.out.size (fun j e => by have := (HO.out.row.lt j e).1; have := B7.out; omega))
      obtain ⟨pn, cn, rfl⟩ := HN.out.val
      have hs := own_sl (l := M ++ [rS 5, pS]) HN.out.row (by simp)
      have hl2 : (M ++ [rS 5, pS]).length = M.length + 2 := by simp
      have CK1 := CK.out pn cn wb (by rw [hl2]; exact hs)
      rw [hl2] at CK1
      have CK2 := Lib.hid CK1
      clear hown hgrow HO HN hs hl2 CK1 CK
      go_wp2_with fail
      refine CK2.out.mono ?_
      rintro e wc ⟨rfl, hb⟩
      replace B2 := Lib.hid (w_below B2.out hb)
      clear hb CK2
      go_wp2_with fail
      go_ret
      exact ⟨rfl, B2.out⟩

end Go.Proofs.Ythokapebcplmkaa
