/- The reference's Split. -/
import Derived.Test.YtedkcnphplpacaaLgPieM
import Derived.Test.YtedkcnphplpacaaKApp
import Derived.Laws.MakeOwn
import Derived.Deep.OwnRows
namespace Go.Proofs.Ytedkcnphplpacaa
open Go.RowKit

def setT (T : Nat → List Int) (i : Nat) (l : List Int) : Nat → List Int := fun j => if j = i then l else T j
theorem setT_at (T : Nat → List Int) (i : Nat) (l : List Int) : setT T i l i = l := if_pos rfl
theorem setT_ne (T : Nat → List Int) {i j : Nat} (l : List Int) (h : j ≠ i) : setT T i l j = T j := if_neg h
theorem setT_set (T : Nat → List Int) (i : Nat) (l m : List Int) : setT (setT T i l) i m = setT T i m := by funext j; unfold setT; split <;> rfl
def stepT (C : Nat → Nat → Bool) (T : Nat → List Int) (i : Nat) (cur : List Int) (t : Nat) : List Int := if C i t = true ∧ (T t).length + 1 ≤ cur.length then ((t : Int) - i) :: T t else cur
def rowT (C : Nat → Nat → Bool) (T : Nat → List Int) (i m : Nat) : List Int := (List.range' (i + 2) m).foldl (stepT C T i) (1 :: T (i + 1))
theorem rowT_zero (C : Nat → Nat → Bool) (T : Nat → List Int) (i : Nat) : rowT C T i 0 = 1 :: T (i + 1) := rfl
theorem rowT_succ (C : Nat → Nat → Bool) (T : Nat → List Int) (i m : Nat) : rowT C T i (m + 1) = stepT C T i (rowT C T i m) (i + 2 + m) := by
  unfold rowT
  rw [List.range'_1_concat, List.foldl_append]; rfl
def tabT (C : Nat → Nat → Bool) (n : Nat) : Nat → Nat → List Int
  | 0 => fun _ => []
  | m + 1 => setT (tabT C n m) (n - 1 - m) (rowT C (tabT C n m) (n - 1 - m) m)
theorem row_rel (C : Nat → Nat → Bool) (T : Nat → List Int) (F : Nat → Int × Int) (i : Nat) (h : ∀ j, ((T j).length : Int) = (F j).2) : ∀ m, ((rowT C T i m).length : Int) = (rowD C F i m).2 ∧ rowT C T i m = (rowD C F i m).1 :: T (i + (rowD C F i m).1.toNat)
  | 0 => by
    rw [rowT_zero, rowD_zero]
    refine ⟨?_, rfl⟩
    have := h (i + 1)
    simp only [List.length_cons]; omega
  | m + 1 => by
    obtain ⟨e1, e2⟩ := row_rel C T F i h m
    rw [rowT_succ, rowD_succ]
    unfold stepT stepD
    have ht := h (i + 2 + m)
    by_cases k : C i (i + 2 + m) = true ∧ (T (i + 2 + m)).length + 1 ≤ (rowT C T i m).length
    · rw [if_pos k, if_pos ⟨by omega, k.1⟩]
      refine ⟨by simp only [List.length_cons]; omega, ?_⟩
      simp only
      rw [show i + (((i + 2 + m : Nat) : Int) - i).toNat = i + 2 + m by omega]
    · rw [if_neg k, if_neg (fun x => k ⟨x.2, by omega⟩)]
      exact ⟨e1, e2⟩
theorem tab_rel (C : Nat → Nat → Bool) (n : Nat) : ∀ m j, ((tabT C n m j).length : Int) = (tabD C n m j).2
  | 0, _ => rfl
  | m + 1, j => by
    show ((setT _ _ _ j).length : Int) = (setD _ _ _ j).2
    unfold setT setD
    split
    · exact (row_rel C _ _ _ (fun j => tab_rel C n m j) m).1
    · exact tab_rel C n m j
theorem lenD_fuel (F : Nat → Int × Int) (n : Nat) (h : ∀ j, j < n → 1 ≤ (F j).1) : ∀ f g i, n - i ≤ f → n - i ≤ g → lenD F n f i = lenD F n g i
  | 0, g, i, h1, _ => by rw [lenD_end _ _ (by omega), lenD_end _ _ (by omega)]
  | f + 1, 0, i, _, h2 => by rw [lenD_end _ _ (by omega), lenD_end _ _ (by omega)]
  | f + 1, g + 1, i, h1, h2 => by
    unfold lenD
    by_cases k : i < n
    · rw [if_pos k, if_pos k]
      have := h i k
      rw [lenD_fuel F n h f g (i + (F i).1.toNat) (by omega) (by omega)]
    · rw [if_neg k, if_neg k]
theorem tab_len (C : Nat → Nat → Bool) (n : Nat) : ∀ m, m ≤ n → ∀ j, n - m ≤ j → tabT C n m j = lenD (divD C n) n (n - j) j
  | 0, _, j, hj => by rw [lenD_end _ _ (by omega)]; rfl
  | m + 1, hm, j, hj => by
    have h1 : ∀ j, j < n → 1 ≤ (divD C n j).1 := fun j hj => by
      obtain ⟨t, a, b, c, _⟩ := div_made C n j hj
      rw [c]; simp only; omega
    by_cases e : j = n - 1 - m
    · have hjn : j < n := by omega
      have e1 : tabT C n (m + 1) j = rowT C (tabT C n m) j m := by rw [e]; exact setT_at _ _ _
      have e2 : divD C n j = rowD C (tabD C n m) j m := by
        show tabD C n n j = _
        rw [tabD_keep C n (n - (m + 1)) (m + 1) j (by omega) (by omega), e]; exact setD_at _ _ _
      rw [e1, (row_rel C _ _ j (fun j => tab_rel C n m j) m).2, ← e2]
      have h2 := h1 j hjn
      rw [tab_len C n m (by omega) _ (by omega), show n - j = (n - 1 - j) + 1 by omega]
      show _ = if j < n then _ else _
      rw [if_pos hjn, lenD_fuel (divD C n) n h1 _ (n - 1 - j) _ (Nat.le_refl _) (by omega)]
    · rw [show tabT C n (m + 1) j = tabT C n m j from setT_ne _ _ e]
      exact tab_len C n m (by omega) j (by omega)

theorem info_is : (Try.prog.info? 22).map (fun i => (i.zero, i.size, i.bytes)) = some (some (.slice none 0 0), 1, 24) := by kernel_rfl
/-! ### The table in memory: a list of lists -/
def TbL (N : Nat) (T : Nat → List Int) (k : Nat) (W : World) : Prop := ∃ cur, HoldsB W k 22 cur ∧ cur.size = N ∧ ∀ j, j < N → ∃ q c, cur[j]? = some (.slice q (T j).length c) ∧ SlP W 1 q (T j).length c (ints (T j))
theorem TbL.later {N k : Nat} {T : Nat → List Int} {W W' : World} (h : TbL N T k W) (b : Below W.heap.size W W') : TbL N T k W' := by
  obtain ⟨cur, h1, h2, h3⟩ := h
  exact ⟨cur, h1.later b, h2, fun j hj => by obtain ⟨q, c, e, s⟩ := h3 j hj; exact ⟨q, c, e, s.later b⟩⟩
theorem TbL.at_ {N k : Nat} {T : Nat → List Int} {W : World} (h : TbL N T k W) {j : Nat} (hj : j < N) : ∃ q c, W.cell? ⟨k, j, none⟩ = some (.slice q (T j).length c) ∧ SlP W 1 q (T j).length c (ints (T j)) := by
  obtain ⟨cur, h1, h2, h3⟩ := h
  obtain ⟨q, c, e, s⟩ := h3 j hj
  exact ⟨q, c, h1.cell e, s⟩
theorem TbL.fr {N k : Nat} {T : Nat → List Int} {W : World} (h : TbL N T k W) (j : Nat) : W.frozen? ⟨k, j, none⟩ = false := by
  obtain ⟨cur, h1, _⟩ := h; exact h1.frozen j
theorem sl_set {W : World} {k i n c : Nat} {q : Option Addr} {l : List Int} {cur : Array Value} {u : Value} (h : SlP W 1 q n c (ints l)) (hk : HoldsB W k 22 cur) (hc : ∀ (j : Nat) (v : Value), cur[j]? = some v → ∃ a b d, v = Value.slice a b d) : SlP (W.setCell ⟨k, i, none⟩ u) 1 q n c (ints l) := by
  refine ⟨h.len, h.fit, h.max, h.nil, h.one, fun h0 => ?_⟩
  obtain ⟨b, off, e, hb, hu⟩ := h.at_ h0
  have hne : b ≠ k := by
    intro e; subst e
    have hl := h.len
    have h1 := hu 0 _ (List.getElem?_eq_getElem (show 0 < (ints l).length by omega))
    rw [List.getElem_map] at h1
    have h2 : W.cell? ⟨b, off + 0, none⟩ = cur[off + 0]? := by simp [World.cell?, show W.heap[b]? = _ from hk]
    rw [h1] at h2
    obtain ⟨a, b, d, h3⟩ := hc _ _ h2.symm
    cases h3
  exact ⟨b, off, e, by rw [World.size_setCell]; exact hb, fun j v hj => gkept (hu j v hj) (.inl hne)⟩
theorem TbL.put {N k : Nat} {T : Nat → List Int} {W : World} (h : TbL N T k W) {i : Nat} (hi : i < N) {l : List Int} {q : Option Addr} {c : Nat} (hs : SlP W 1 q l.length c (ints l)) : TbL N (setT T i l) k (W.setCell ⟨k, i, none⟩ (.slice q l.length c)) := by
  obtain ⟨cur, h1, h2, h3⟩ := h
  have hc : ∀ (j : Nat) (v : Value), cur[j]? = some v → ∃ a b d, v = Value.slice a b d := fun j v hv => by
    have hj : j < N := by rw [← h2]; exact (Array.getElem?_eq_some_iff.1 hv).1
    obtain ⟨q, c, e, _⟩ := h3 j hj
    rw [e] at hv
    exact ⟨_, _, _, (Option.some.inj hv).symm⟩
  refine ⟨_, h1.set i _, by simp [h2], fun j hj => ?_⟩
  rw [Array.getElem?_setIfInBounds]
  by_cases e : j = i
  · subst e
    rw [if_pos rfl, if_pos (by omega), setT_at]
    exact ⟨q, c, rfl, sl_set hs h1 hc⟩
  · rw [if_neg (fun x => e x.symm), setT_ne _ _ e]
    obtain ⟨q, c, e, s⟩ := h3 j hj
    exact ⟨q, c, e, sl_set s h1 hc⟩

def rspL (ps vs : List Int) : List Int := tabT (CGP ps vs) ps.length ps.length 0
theorem rsp_spl (ps vs : List Int) : tabT (CNP ps vs) ps.length ps.length 0 = splL ps vs := by
  have := tab_len (CNP ps vs) ps.length ps.length (Nat.le_refl _) 0 (by omega)
  rw [Nat.sub_zero] at this
  exact this
set_option maxRecDepth 100000 in
set_option maxHeartbeats 4000000 in
theorem rsplit0_any (ps vs : List Int) (n : Nat) (hn : ps.length = n) (hn2 : 2 ≤ n) (hn12 : n ≤ 12) (hask : askE ps vs = 0) (p q : Option Addr) (cp cq : Nat) (w : World) (hp : SlP w 1 p n cp (ints ps)) (hq : SlP w 1 q n cq (ints vs)) (hv : vs.length = n) :
    Calls Try.prog 31 #[.slice p n cp, .slice q n cq] w fun e w' => ∃ x c, e = .returned (.tuple #[.slice x (splL ps vs).length c, .int .i64 0]) ∧ SlP w' 1 x (splL ps vs).length c (ints (splL ps vs)) ∧ Below w.heap.size w w' := by
  obtain ⟨i0, hi0, hz0, hz1, hz2⟩ := info_parts info_int
  have f1 := hp.fit
  have f2 := hp.max
  have g1 := hq.fit
  have g2 := hq.max
  have AK := Lib.hid (rask_any ps vs p q cp cq w (hn ▸ hp) (hv ▸ hq))
  rw [hask, hn, hv] at AK
  obtain ⟨pb, po, rfl, -, -⟩ := hp.at_ (by omega)
  obtain ⟨qb, qo, rfl, -, -⟩ := hq.at_ (by omega)
  have RC := Lib.hid (show ∀ i t, i + 2 ≤ t → t ≤ n → ∀ W, Below w.heap.size w W → Calls Try.prog 27 #[.slice (some ⟨pb, po + i, none⟩) (t - i : Nat) (cp - i), .slice (some ⟨qb, qo + i, none⟩) (t - i : Nat) (cq - i)] W fun e w' => (∃ x, e = .returned (.tuple #[.bool (CNP ps vs i t), .int .i64 x])) ∧ Below W.heap.size W w' from fun i t h1 h2 W b => by
    have e1 := segI_len ps (i := i) (show t ≤ ps.length by omega)
    have e2 := segI_len vs (i := i) (show t ≤ vs.length by omega)
    have := rcan_any (segI ps i t) (segI vs i t) (some ⟨pb, po + i, none⟩) (some ⟨qb, qo + i, none⟩) (cp - i) (cq - i) W (by rw [e1]; exact (hp.later b).seg (by omega) h2) (by rw [e2]; exact (hq.later b).seg (by omega) h2)
    rw [e1, e2] at this
    rw [← cg_eq hask h1 (by omega)]
    exact this.mono (fun e w' h => ⟨⟨_, h.1⟩, h.2⟩))
  have HR := Lib.hid (rsp_spl ps vs)
  rw [hn] at HR
  have HBd := Lib.hid (show ∀ m j, m ≤ n → (tabT (CNP ps vs) n m j).length ≤ 12 from fun m j hm => by
    have a := tab_rel (CNP ps vs) n m j
    have b := tab_bdsD (CNP ps vs) n m j
    omega)
  have HRb := Lib.hid (show ∀ m i r, m ≤ n → (rowT (CNP ps vs) (tabT (CNP ps vs) n m) i r).length ≤ 13 from fun m i r hm => by
    have a := (row_rel (CNP ps vs) (tabT (CNP ps vs) n m) (tabD (CNP ps vs) n m) i (fun j => tab_rel _ n m j) r).1
    have b := row_bds (CNP ps vs) (tabD (CNP ps vs) n m) i m (fun j => tab_bdsD _ n m j) r
    omega)
  obtain ⟨L, hL⟩ : ∃ L, splL ps vs = L := ⟨_, rfl⟩
  rw [hL] at HR ⊢
  clear hp hq hn hv hask hL
  generalize CNP ps vs = C at *
  obtain ⟨N, hN⟩ : ∃ N, n + 1 = N := ⟨_, rfl⟩
  have xN : IntKind.i64.wrap ((n : Int) + 1) = (N : Int) := by rw [IntWalk.i64_in _ (by omega)]; omega
  have x0 : IntKind.i64.wrap ((n : Int) - 1) = (n : Int) - 1 := IntWalk.i64_in _ (by omega)
  have mk : ∀ W, (Instr.makeSlice 80 (.int .i64 (N : Int)) (.int .i64 (N : Int))).run Try.prog W = .ok (.slice (some ⟨W.heap.size, 0, none⟩) N N) (W.alloc (.cells (madeCells #[.slice none 0 0] N) 22)) := fun W => by
    obtain ⟨j0, hj0, hy0, hy1, hy2⟩ := info_parts info_is
    exact run_make_row 80 22 j0 _ Try.underlying80 hj0 hy0 hy1 rfl .i64 .i64 N (by rw [hy2]; omega) (by omega) W
  obtain ⟨zc, hzc⟩ : ∃ z, madeCells #[Value.slice none 0 0] N = z := ⟨_, rfl⟩
  rw [hzc] at mk
  go_enter Try.func31, Try.ntmps31
  go_wp2_with fail
  refine AK.out.mono ?_
  rintro e w0 ⟨rfl, rfl⟩
  clear AK
  have T0 := Lib.hid (show TbL N (tabT C n 0) w.heap.size (w.alloc (.cells zc 22)) from ⟨zc, HoldsB.new w _ _, by rw [← hzc]; exact size_madeCells _ _, fun j hj => ⟨none, 0, by rw [← hzc]; simp [madeCells, hj, Nat.mod_one]; rfl, ⟨rfl, by simp [tabT], by omega, fun _ => rfl, by simp [tabT], fun h => by simp [tabT] at h⟩⟩⟩)
  have B0 := Lib.hid (w_alloc (w_refl w) (.cells zc 22))
  obtain ⟨k, hk⟩ : ∃ k, w.heap.size = k := ⟨_, rfl⟩
  have hkk := Lib.hid (Nat.le_of_eq hk)
  go_wp2_with fail
  clear mk xN x0 hzc
  rw [hk] at T0
  try rw [hk]
  go_loopw [8] (fun s8 wr => ∃ m : Nat, m ≤ n ∧ s8 = .int .i64 ((n : Int) - 1 - m) ∧ Hid (TbL N (tabT C n m) k wr ∧ Below w.heap.size w wr)) (fun s8 _ => (intOf s8 + 1).toNat)
  case atStart => exact ⟨0, by omega, by simp, Lib.hid ⟨T0.out, B0.out⟩⟩
  case round =>
    clear T0 B0 hk
    rename World => wr
    obtain ⟨m, hm, rfl, hG⟩ := hrel
    by_cases hlt : m < n
    · obtain ⟨i, hi⟩ : ∃ i, n - 1 - m = i := ⟨_, rfl⟩
      obtain ⟨i1, hi1⟩ : ∃ i1, i + 1 = i1 := ⟨_, rfl⟩
      have ei : (n : Int) - 1 - m = (i : Int) := by omega
      have ei2 : IntKind.i64.wrap ((i : Int) - 1) = (n : Int) - 1 - ((m + 1 : Nat) : Int) := by rw [IntWalk.i64_in _ (by omega)]; omega
      rw [ei]
      have hi0' : (0 : Int) ≤ i := by omega
      have hin : (i : Int) < N := by omega
      have xi1 : IntKind.i64.wrap ((i : Int) + 1) = (i1 : Int) := by rw [IntWalk.i64_in _ (by omega)]; omega
      have hi10 : (0 : Int) ≤ i1 := by omega
      have hi1n : (i1 : Int) < N := by omega
      have hiN : i < N := by omega
      have hFt := Lib.hid (show tabT C n (m + 1) = setT (tabT C n m) i (rowT C (tabT C n m) i m) by rw [← hi]; rfl)
      have hFb := Lib.hid (fun j => HBd.out m j (by omega))
      have hRb := Lib.hid (fun i r => HRb.out m i r (by omega))
      have hrm := Lib.hid (show i + 1 + m = n by omega)
      generalize tabT C n m = TT at *
      have hb1 := hFb.out i1
      obtain ⟨q1, c1, k1, s1⟩ := hG.out.1.at_ (show i1 < N by omega)
      have SL1 := Lib.hid (s1.later (w_alloc (w_refl wr) (.cells #[.int .i64 1] 3)))
      have HO := Lib.hid (show OwnL wr (wr.alloc (.cells #[.int .i64 1] 3)) 3 1 (.slice (some ⟨wr.heap.size, 0, none⟩) 1 1) 1 (ints [1]) from ⟨w_alloc (w_refl wr) _, World.ownsRow_lit wr #[.int .i64 1] 1 (Nat.le_refl _) (by unfold maxLen; omega) rfl⟩)
      replace k1 := cell_later (w_alloc (w_refl wr) (.cells #[.int .i64 1] 3)) k1
      clear s1
      go_wp2_with (at_builtin; refine wpList_append_sl rfl _ _ 22 rfl wr.heap.size 3 i0 (.int .i64 0) 1 8 Try.underlying22 hi0 hz0 hz1 hz2 rfl (by decide) _ 1 (ints [1]) rfl HO.out.row q1 (TT i1).length c1 (ints (TT i1)) rfl SL1.out (by unfold maxLen; omega) (by omega) (by simp) ?_)
      intro v' w3 hown hgrow
      have HN := Lib.hid (HO.out.app (w_refl _) hown hgrow)
      obtain ⟨x2, c2, hv⟩ := HN.out.val
      subst hv
      obtain ⟨_, _, e9, hs2⟩ := SlP.of_own HN.out.row (show (ints [1] ++ ints (TT i1)).length = (1 + (TT i1).length) * 1 by simp; omega) (by rw [← List.map_append]; exact ints_one _)
      injection e9 with e9 _ e10
      subst e9 e10
      have HW3 := Lib.hid (hG.out.1.later HN.out.bel)
      obtain ⟨q3, c3, d0, -⟩ := HW3.out.at_ hiN
      have fr := HW3.out.fr i
      have HP := Lib.hid (show TbL N (setT TT i (rowT C TT i 0)) k (w3.setCell ⟨k, i, none⟩ (.slice x2 (1 + (TT i1).length) c2)) from by
        have e5 : (rowT C TT i 0).length = 1 + (TT i1).length := by rw [rowT_zero, hi1, List.length_cons]; omega
        have := HW3.out.put hiN (l := rowT C TT i 0) (q := x2) (c := c2) (by rw [e5, rowT_zero, hi1]; exact hs2)
        rwa [e5] at this)
      have HB := Lib.hid (w_put (w_below hG.out.2 HN.out.bel) hkk.out i (.slice x2 (1 + (TT i1).length) c2))
      clear hown hgrow HO HN hG hs2 HW3 SL1 k1
      go_wp2_with fail
      clear d0 fr
      generalize w3.setCell ⟨k, i, none⟩ (.slice x2 (1 + (TT i1).length) c2) = w4 at *
      go_loopw [9] (fun s9 wx => ∃ r : Nat, r ≤ m ∧ s9 = .int .i64 ((r : Int) + 2) ∧ Hid (TbL N (setT TT i (rowT C TT i r)) k wx ∧ Below w.heap.size w wx)) (fun s9 _ => n + 1 - (intOf s9).toNat)
      case atStart => exact ⟨0, by omega, rfl, Lib.hid ⟨HP.out, HB.out⟩⟩
      case round =>
        clear HP HB
        rename World => wx
        obtain ⟨r, hr, rfl, hH⟩ := hrel
        obtain ⟨t, ht⟩ : ∃ t, i + 2 + r = t := ⟨_, rfl⟩
        have xt : IntKind.i64.wrap ((i : Int) + ((r : Int) + 2)) = (t : Int) := by rw [IntWalk.i64_in _ (by omega)]; omega
        have xr : IntKind.i64.wrap ((r : Int) + 2 + 1) = ((r + 1 : Nat) : Int) + 2 := by rw [IntWalk.i64_in _ (by omega)]; omega
        by_cases hrt : r < m
        · have htn : t ≤ n := by have := hrm.out; omega
          have htn' : (t : Int) ≤ n := by omega
          have ht0 : (0 : Int) ≤ t := by omega
          have htN : (t : Int) < N := by omega
          have hit : i + 2 ≤ t := by omega
          have hit' : (i : Int) ≤ t := by omega
          have hRs := Lib.hid (show rowT C TT i (r + 1) = stepT C TT i (rowT C TT i r) t by rw [rowT_succ, ht])
          go_wp2_with fail
          refine wp_region_held (S := (fun _ => True)) (by kernel_rfl) ?_
          change wpAnyH _ _ _ _ _ _ _ _ (World.drew _)
          have FX := Lib.hid (show TbL N (setT TT i (rowT C TT i r)) k (World.drew wx) ∧ Below w.heap.size w (World.drew wx) from ⟨hH.out.1.later (w_refl _).drew, w_below hH.out.2 (w_refl _).drew⟩)
          clear hH
          generalize World.drew wx = y at *
          refine wpAnyH_take (i := 0) (v := .slice (some ⟨pb, po, none⟩) n cp) rfl (by kernel_rfl) (by kernel_rfl) (by kernel_rfl) (fun _ _ _ h => h) (Or.inl ⟨by kernel_rfl, fun _ _ => by go_simp⟩) trivial ?_
          refine wpAnyH_take (i := 1) (v := .int .i64 (i : Int)) rfl (by kernel_rfl) (by kernel_rfl) (by kernel_rfl) (fun _ _ _ h => h) (Or.inl ⟨by kernel_rfl, fun _ _ => by go_simp⟩) trivial ?_
          refine wpAnyH_take (i := 2) (v := .int .i64 (i : Int)) rfl (by kernel_rfl) (by kernel_rfl) (by kernel_rfl) (fun _ _ _ h => h) (Or.inl ⟨by kernel_rfl, fun _ _ => by go_simp⟩) trivial ?_
          refine wpAnyH_take (i := 3) (v := .int .i64 ((r : Int) + 2)) rfl (by kernel_rfl) (by kernel_rfl) (by kernel_rfl) (fun _ _ _ h => h) (Or.inl ⟨by kernel_rfl, fun _ _ => by go_simp⟩) trivial ?_
          refine wpAnyH_take (i := 4) (v := .int .i64 (t : Int)) rfl (by kernel_rfl) (by kernel_rfl) (by kernel_rfl) (fun _ _ _ h => h) (Or.inl ⟨by kernel_rfl, fun _ _ => by go_simp⟩) trivial ?_
          refine wpAnyH_take (i := 5) (v := .slice (some ⟨pb, po + i, none⟩) (t - i) (cp - i)) rfl (by kernel_rfl) (by kernel_rfl) (by kernel_rfl) (fun _ _ _ h => h) (Or.inl ⟨by kernel_rfl, fun W _ => by go_simp; rw [if_pos (by omega), if_pos (by omega), if_neg (by omega)]⟩) trivial ?_
          refine wpAnyH_take (i := 6) (v := .slice (some ⟨qb, qo, none⟩) n cq) rfl (by kernel_rfl) (by kernel_rfl) (by kernel_rfl) (fun _ _ _ h => h) (Or.inl ⟨by kernel_rfl, fun _ _ => by go_simp⟩) trivial ?_
          refine wpAnyH_take (i := 7) (v := .int .i64 (i : Int)) rfl (by kernel_rfl) (by kernel_rfl) (by kernel_rfl) (fun _ _ _ h => h) (Or.inl ⟨by kernel_rfl, fun _ _ => by go_simp⟩) trivial ?_
          refine wpAnyH_take (i := 8) (v := .int .i64 (i : Int)) rfl (by kernel_rfl) (by kernel_rfl) (by kernel_rfl) (fun _ _ _ h => h) (Or.inl ⟨by kernel_rfl, fun _ _ => by go_simp⟩) trivial ?_
          refine wpAnyH_take (i := 9) (v := .int .i64 ((r : Int) + 2)) rfl (by kernel_rfl) (by kernel_rfl) (by kernel_rfl) (fun _ _ _ h => h) (Or.inl ⟨by kernel_rfl, fun _ _ => by go_simp⟩) trivial ?_
          refine wpAnyH_take (i := 10) (v := .int .i64 (t : Int)) rfl (by kernel_rfl) (by kernel_rfl) (by kernel_rfl) (fun _ _ _ h => h) (Or.inl ⟨by kernel_rfl, fun _ _ => by go_simp⟩) trivial ?_
          refine wpAnyH_take (i := 11) (v := .slice (some ⟨qb, qo + i, none⟩) (t - i) (cq - i)) rfl (by kernel_rfl) (by kernel_rfl) (by kernel_rfl) (fun _ _ _ h => h) (Or.inl ⟨by kernel_rfl, fun W _ => by go_simp; rw [if_pos (by omega), if_pos (by omega), if_neg (by omega)]⟩) trivial ?_
          refine wpAnyH_ready (rs := [12]) (by kernel_rfl) (by simp) ?_
          refine AllReadyH.cons rfl (fun K hK => ?_) AllReadyH.nil
          rw [if_pos (by kernel_rfl)]
          go_simp
          go_at_call 27
          refine (RC.out i t hit htn _ FX.out.2).mono ?_
          rintro e y2 ⟨⟨ex, rfl⟩, hb⟩
          replace FX := Lib.hid (show TbL N (setT TT i (rowT C TT i r)) k y2 ∧ Below w.heap.size w y2 from ⟨FX.out.1.later hb, w_below FX.out.2 hb⟩)
          clear hb
          go_simp
          refine hK.out _ _ trivial (fun _ => ?_)
          clear hK K
          refine wpAnyH_take (i := 13) (v := .tuple #[.bool (C i t), .int .i64 ex]) rfl (by kernel_rfl) (by kernel_rfl) (by kernel_rfl) (fun _ _ _ h => h) (Or.inl ⟨by kernel_rfl, fun _ _ => by go_simp⟩) trivial ?_
          refine wpAnyH_take (i := 14) (v := .bool (C i t)) rfl (by kernel_rfl) (by kernel_rfl) (by kernel_rfl) (fun _ _ _ h => h) (Or.inl ⟨by kernel_rfl, fun _ _ => by go_simp⟩) trivial ?_
          refine wpAnyH_take (i := 15) (v := .int .i64 ex) rfl (by kernel_rfl) (by kernel_rfl) (by kernel_rfl) (fun _ _ _ h => h) (Or.inl ⟨by kernel_rfl, fun _ _ => by go_simp⟩) trivial ?_
          refine wpAnyH_take (i := 16) (v := .bool (C i t)) rfl (by kernel_rfl) (by kernel_rfl) (by kernel_rfl) (fun _ _ _ h => h) (Or.inl ⟨by kernel_rfl, fun _ _ => by go_simp⟩) trivial ?_
          refine wpAnyH_take (i := 17) (v := .int .i64 ex) rfl (by kernel_rfl) (by kernel_rfl) (by kernel_rfl) (fun _ _ _ h => h) (Or.inl ⟨by kernel_rfl, fun _ _ => by go_simp⟩) trivial ?_
          refine wpAnyH_done (by kernel_rfl) ?_ _
          go_wp2_with fail
          try simp only [Act.put, List.getElem_toArray, List.getElem_cons_succ, List.getElem_cons_zero, List.setIfInBounds_toArray, List.set_cons_succ, List.set_cons_zero]
          have hS : stepT C TT i (rowT C TT i r) t = if C i t = true ∧ (TT t).length + 1 ≤ (rowT C TT i r).length then ((t : Int) - i) :: TT t else rowT C TT i r := rfl
          rw [hS] at hRs
          clear hS
          generalize C i t = bo at *
          obtain ⟨BO, hBO⟩ : ∃ x, (bo && decide ((TT t).length + 1 ≤ (rowT C TT i r).length)) = x := ⟨_, rfl⟩
          have HBO := Lib.hid hBO
          clear hBO
          have hlt1 := hFb.out t
          have hlt2 := hRb.out i r
          have hxi : t ≠ i := by omega
          go_cut [79] (fun s79 wy => s79 = .bool BO ∧ Hid (TbL N (setT TT i (rowT C TT i r)) k wy ∧ Below w.heap.size w wy))
          case first =>
            clear hRs xr
            obtain ⟨qt, ct, kt, -⟩ := FX.out.1.at_ (show t < N by omega)
            obtain ⟨qi, ci, ki, -⟩ := FX.out.1.at_ hiN
            rw [setT_ne _ _ hxi] at kt
            rw [setT_at] at ki
            have FX2 := Lib.hid (show ∀ nq, TbL N (setT TT i (rowT C TT i r)) k (World.drewN y2 nq) ∧ Below w.heap.size w (World.drewN y2 nq) from fun nq => ⟨FX.out.1.later ⟨rfl, rfl, rfl, Nat.le_refl _, fun _ _ => rfl⟩, w_below FX.out.2 ⟨rfl, rfl, rfl, Nat.le_refl _, fun _ _ => rfl⟩⟩)
            generalize (TT t).length = l1 at *
            generalize (rowT C TT i r).length = l2 at *
            have xw : IntKind.i64.wrap (1 + (l1 : Int)) = 1 + (l1 : Int) := IntWalk.i64_in _ (by omega)
            cases bo with
            | false =>
              go_quiet (fail)
              go_wp2_with fail
              go_meet
              exact ⟨by rw [← HBO.out, Bool.false_and], Lib.hid (FX2.out _)⟩
            | true =>
              by_cases hle : l1 + 1 ≤ l2
              · have hle' : 1 + (l1 : Int) ≤ (l2 : Int) := by omega
                go_quiet (fail)
                go_wp2_with fail
                go_meet
                exact ⟨by rw [← HBO.out, decide_eq_true hle, Bool.true_and], Lib.hid (FX2.out _)⟩
              · have hle' : ¬ 1 + (l1 : Int) ≤ (l2 : Int) := by omega
                go_quiet (fail)
                go_wp2_with fail
                go_meet
                exact ⟨by rw [← HBO.out, decide_eq_false hle, Bool.true_and], Lib.hid (FX2.out _)⟩
          case rest =>
            rename World => wy
            obtain ⟨rfl, hZ⟩ := hcut
            cases BO with
            | false =>
              have hno : ¬ (bo = true ∧ (TT t).length + 1 ≤ (rowT C TT i r).length) := fun h => by have := HBO.out; rw [h.1, decide_eq_true h.2] at this; cases this
              rw [if_neg hno] at hRs
              rw [← hRs.out] at hZ
              clear FX HBO hno hlt1 hlt2
              go_wp2_with fail
              go_roundw
              case rel => exact ⟨r + 1, by omega, by go_num, hZ⟩
              case measure => simp [intOf]; omega
            | true =>
              have hyes : bo = true ∧ (TT t).length + 1 ≤ (rowT C TT i r).length := by
                have := HBO.out
                rw [Bool.and_eq_true, decide_eq_true_iff] at this; exact this
              rw [if_pos hyes] at hRs
              clear FX HBO hyes hlt2
              have hrv : (t : Int) - i = (r : Int) + 2 := by omega
              rw [hrv] at hRs
              obtain ⟨q1, c1, k1, s1⟩ := hZ.out.1.at_ (show t < N by omega)
              rw [setT_ne _ _ hxi] at k1 s1
              have SL1 := Lib.hid (s1.later (w_alloc (w_refl wy) (.cells #[.int .i64 ((r : Int) + 2)] 3)))
              have HO := Lib.hid (show OwnL wy (wy.alloc (.cells #[.int .i64 ((r : Int) + 2)] 3)) 3 1 (.slice (some ⟨wy.heap.size, 0, none⟩) 1 1) 1 (ints [(r : Int) + 2]) from ⟨w_alloc (w_refl wy) _, World.ownsRow_lit wy #[.int .i64 ((r : Int) + 2)] 1 (Nat.le_refl _) (by unfold maxLen; omega) rfl⟩)
              replace k1 := cell_later (w_alloc (w_refl wy) (.cells #[.int .i64 ((r : Int) + 2)] 3)) k1
              clear s1 hrv
              go_wp2_with (at_builtin; refine wpList_append_sl rfl _ _ 22 rfl wy.heap.size 3 i0 (.int .i64 0) 1 8 Try.underlying22 hi0 hz0 hz1 hz2 rfl (by decide) _ 1 (ints [(r : Int) + 2]) rfl HO.out.row q1 (TT t).length c1 (ints (TT t)) rfl SL1.out (by unfold maxLen; omega) (by omega) (by simp) ?_)
              intro v' w5 hown hgrow
              have HN := Lib.hid (HO.out.app (w_refl _) hown hgrow)
              obtain ⟨x2, c2, hv⟩ := HN.out.val
              subst hv
              obtain ⟨_, _, e9, hs2⟩ := SlP.of_own HN.out.row (show (ints [(r : Int) + 2] ++ ints (TT t)).length = (1 + (TT t).length) * 1 by simp; omega) (by rw [← List.map_append]; exact ints_one _)
              injection e9 with e9 _ e10
              subst e9 e10
              have HW3 := Lib.hid (hZ.out.1.later HN.out.bel)
              obtain ⟨q3, c3, d0, -⟩ := HW3.out.at_ hiN
              have fr := HW3.out.fr i
              have HP := Lib.hid (show TbL N (setT TT i (rowT C TT i (r + 1))) k (w5.setCell ⟨k, i, none⟩ (.slice x2 (1 + (TT t).length) c2)) from by
                have e5 : (rowT C TT i (r + 1)).length = 1 + (TT t).length := by rw [hRs.out, List.length_cons]; omega
                have := HW3.out.put hiN (l := rowT C TT i (r + 1)) (q := x2) (c := c2) (by rw [e5, hRs.out]; exact hs2)
                rw [setT_set] at this
                rwa [e5] at this)
              have HB := Lib.hid (w_put (w_below hZ.out.2 HN.out.bel) hkk.out i (.slice x2 (1 + (TT t).length) c2))
              clear hown hgrow HO HN hZ hs2 HW3 SL1 k1 hRs
              go_wp2_with fail
              clear d0 fr
              go_roundw
              case rel => exact ⟨r + 1, by omega, by go_num, Lib.hid ⟨HP.out, HB.out⟩⟩
              case measure => simp [intOf]; omega
        · obtain rfl : m = r := by omega
          have htn : ¬ (t : Int) ≤ n := by have := hrm.out; omega
          rw [← hFt.out] at hH
          clear hFt hFb hRb
          go_wp2_with fail
          go_roundw
          case rel => exact ⟨m + 1, by omega, by go_num, hH⟩
          case measure => simp [intOf]; omega
    · obtain rfl : n = m := by omega
      have hneg : ¬ (0 : Int) ≤ (n : Int) - 1 - n := by omega
      obtain ⟨q1, c1, k1, s1⟩ := hG.out.1.at_ (show 0 < N by omega)
      rw [HR.out] at k1 s1
      have S1 := Lib.hid s1
      have B1 := Lib.hid hG.out.2
      have hN0 : (0 : Int) < N := by omega
      clear RC HBd HRb hG s1
      go_wp2_with fail
      go_ret2
      exact ⟨q1, c1, rfl, S1.out, B1.out⟩

end Go.Proofs.Ytedkcnphplpacaa
