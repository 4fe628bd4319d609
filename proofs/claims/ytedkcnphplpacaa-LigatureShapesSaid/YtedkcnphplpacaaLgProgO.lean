/- The program's Split, and what its divisions are. -/
import Derived.Test.YtedkcnphplpacaaLgProgN
namespace Go.Proofs.Ytedkcnphplpacaa
open Go.RowKit

/-! ### The best divisions -/
theorem tabD_keep (C : Nat → Nat → Bool) (n : Nat) : ∀ d m j, m + d = n → n - m ≤ j → tabD C n n j = tabD C n m j
  | 0, m, j, h, _ => by rw [show m = n by omega]
  | d + 1, m, j, h, hj => by
    rw [tabD_keep C n d (m + 1) j (by omega) (by omega)]
    exact setD_ne _ _ (by omega)
theorem rowD_congr (C : Nat → Nat → Bool) (F G : Nat → Int × Int) (i : Nat) : ∀ m, (∀ j, i < j → j ≤ i + 1 + m → F j = G j) → rowD C F i m = rowD C G i m
  | 0, h => by rw [rowD_zero, rowD_zero, h (i + 1) (by omega) (by omega)]
  | m + 1, h => by
    rw [rowD_succ, rowD_succ, rowD_congr C F G i m (fun j h1 h2 => h j h1 (by omega))]
    unfold stepD
    rw [h (i + 2 + m) (by omega) (by omega)]
abbrev divD (C : Nat → Nat → Bool) (n : Nat) : Nat → Int × Int := tabD C n n
theorem divD_end (C : Nat → Nat → Bool) (n : Nat) : divD C n n = (0, 0) := tabD_keep C n n 0 n (by omega) (by omega)
theorem divD_row (C : Nat → Nat → Bool) (n i : Nat) (h : i < n) : divD C n i = rowD C (divD C n) i (n - 1 - i) := by
  have e : tabD C n n i = tabD C n (n - 1 - i + 1) i := tabD_keep C n i (n - 1 - i + 1) i (by omega) (by omega)
  show tabD C n n i = _
  rw [e]
  show setD _ _ _ i = _
  rw [show n - 1 - (n - 1 - i) = i by omega, setD_at]
  exact rowD_congr C _ _ i _ (fun j h1 h2 => (tabD_keep C n (i + 1) (n - 1 - i) j (by omega) (by omega)).symm)
theorem row_made (C : Nat → Nat → Bool) (F : Nat → Int × Int) (i : Nat) : ∀ m, rowD C F i m = (1, (F (i + 1)).2 + 1) ∨ ∃ t, i + 2 ≤ t ∧ t < i + 2 + m ∧ C i t = true ∧ rowD C F i m = ((t : Int) - i, (F t).2 + 1)
  | 0 => .inl rfl
  | m + 1 => by
    rw [rowD_succ]
    unfold stepD
    split
    · rename_i h; exact .inr ⟨i + 2 + m, by omega, by omega, h.2, rfl⟩
    · rcases row_made C F i m with h | ⟨t, h1, h2, h3, h4⟩
      · exact .inl h
      · exact .inr ⟨t, h1, by omega, h3, h4⟩
theorem row_least (C : Nat → Nat → Bool) (F : Nat → Int × Int) (i : Nat) : ∀ m, (rowD C F i m).2 ≤ (F (i + 1)).2 + 1 ∧ ∀ t, i + 2 ≤ t → t < i + 2 + m → C i t = true → (rowD C F i m).2 ≤ (F t).2 + 1
  | 0 => by rw [rowD_zero]; exact ⟨Int.le_refl _, fun t h1 h2 => by omega⟩
  | m + 1 => by
    obtain ⟨h1, h2⟩ := row_least C F i m
    rw [rowD_succ]
    unfold stepD
    split
    · rename_i h
      refine ⟨by simp only; omega, fun t a b c => ?_⟩
      by_cases e : t = i + 2 + m
      · subst e; exact Int.le_refl _
      · have := h2 t a (by omega) c; simp only; omega
    · rename_i h
      refine ⟨h1, fun t a b c => ?_⟩
      by_cases e : t = i + 2 + m
      · subst e
        have : ¬ (F (i + 2 + m)).2 + 1 ≤ (rowD C F i m).2 := fun k => h ⟨k, c⟩
        omega
      · exact h2 t a (by omega) c
/-- What a division is: a first piece, and the best division of the rest. -/
theorem div_made (C : Nat → Nat → Bool) (n i : Nat) (h : i < n) : ∃ t, i < t ∧ t ≤ n ∧ (divD C n i) = ((t : Int) - i, (divD C n t).2 + 1) ∧ (t ≠ i + 1 → C i t = true) := by
  have e := divD_row C n i h
  rcases row_made C (divD C n) i (n - 1 - i) with h1 | ⟨t, h1, h2, h3, h4⟩
  · exact ⟨i + 1, by omega, by omega, by rw [e, h1]; congr 1; omega, fun k => absurd rfl k⟩
  · exact ⟨t, by omega, by omega, by rw [e, h4], fun _ => h3⟩
theorem div_least (C : Nat → Nat → Bool) (n i t : Nat) (h1 : i + 2 ≤ t) (h2 : t ≤ n) (h : C i t = true) : (divD C n i).2 ≤ (divD C n t).2 + 1 := by
  rw [divD_row C n i (by omega)]
  exact (row_least C (divD C n) i (n - 1 - i)).2 t h1 (by omega) h
/-- The lengths of the pieces. -/
def lenD (F : Nat → Int × Int) (n : Nat) : Nat → Nat → List Int
  | 0, _ => []
  | f + 1, i => if i < n then (F i).1 :: lenD F n f (i + (F i).1.toNat) else []
theorem lenD_end (F : Nat → Int × Int) (n : Nat) {f i : Nat} (h : n ≤ i) : lenD F n f i = [] := by
  cases f with
  | zero => rfl
  | succ f => exact if_neg (by omega)
def splL (ps vs : List Int) : List Int := lenD (divD (CNP ps vs) ps.length) ps.length ps.length 0
def splP (ps vs : List Int) : List Int := if askE ps vs = 0 then splL ps vs else []

theorem TbD.kept {N k : Nat} {F : Nat → Int × Int} {W W' : World} {base : Nat} {e : TypeId} {sz : Nat} {v : Value} {n : Nat} {cs : List Value} (h : TbD N F k W) (ho : W.ownsRow base e sz v n cs) (hg : W.grownBy W' v.ownBlock) (hte : 79 ≠ e) : TbD N F k W' := by
  obtain ⟨cur, h1, h2⟩ := h; exact ⟨cur, h1.kept hg (own_ne ho h1 hte), h2⟩

set_option maxRecDepth 100000 in
set_option maxHeartbeats 4000000 in
theorem psplit0_any (ps vs : List Int) (n : Nat) (hn : ps.length = n) (hn2 : 2 ≤ n) (hn12 : n ≤ 12) (hask : askE ps vs = 0) (p q : Option Addr) (cp cq : Nat) (w : World) (hp : SlP w 1 p n cp (ints ps)) (hq : SlP w 1 q n cq (ints vs)) (hv : vs.length = n) :
    Calls Try.prog 30 #[.slice p n cp, .slice q n cq] w fun e w' => ∃ v, e = .returned (.tuple #[v, .int .i64 0]) ∧ OwnL w w' 3 1 v (splL ps vs).length (ints (splL ps vs)) := by
  obtain ⟨i0, hi0, hz0, hz1, hz2⟩ := info_parts info_int
  have f1 := hp.fit
  have f2 := hp.max
  have CK := Lib.hid (pask_any ps vs p q cp cq w (hn ▸ hp) (hv ▸ hq))
  rw [hask, hn, hv] at CK
  have DV := Lib.hid (pdiv_any ps vs n hn hn2 hn12 p q cp cq w hp hq)
  have HM := Lib.hid (div_made (CNP ps vs) n)
  obtain ⟨L, hL⟩ : ∃ L, splL ps vs = L := ⟨_, rfl⟩
  have HL := Lib.hid (show L = lenD (tabD (CNP ps vs) n n) n n 0 by rw [← hL]; unfold splL; rw [hn])
  rw [hL]
  have hBd := Lib.hid (show ∀ j, j < n → 1 ≤ (tabD (CNP ps vs) n n j).1 ∧ (tabD (CNP ps vs) n n j).1 ≤ n - j from fun j hj => by
    obtain ⟨t, a, b, c, _⟩ := HM.out j hj
    rw [show tabD (CNP ps vs) n n j = _ from c]; simp only; omega)
  clear hp hq hn hv hask hL HM
  generalize tabD (CNP ps vs) n n = FF at *
  go_enter Try.func30, Try.ntmps30
  go_wp2_with fail
  refine CK.out.mono ?_
  rintro e w0 ⟨rfl, rfl⟩
  clear CK
  go_wp2_with fail
  refine DV.out.mono ?_
  rintro e w1 ⟨k, rfl, ht, hb⟩
  have G0 := Lib.hid (show ∃ f, n - 0 ≤ f ∧ L = [] ++ lenD FF n f 0 from ⟨n, by omega, HL.out⟩)
  have T0 := Lib.hid (⟨ht, OwnL.start w1 3 1⟩ : TbD (n + 1) FF k w1 ∧ OwnL w1 w1 3 1 (.slice none 0 0) 0 [])
  have B1 := Lib.hid hb
  clear ht hb DV HL
  obtain ⟨N, hN⟩ : ∃ N, n + 1 = N := ⟨_, rfl⟩
  rw [hN] at T0 ⊢
  go_wp2_with fail
  go_loopw [8, 9] (fun v s9 wr => ∃ (i m : Nat) (done : List Int), i ≤ n ∧ done.length = m ∧ m ≤ i ∧ s9 = .int .i64 (i : Int) ∧ (∃ x c, v = .slice x m c) ∧ Hid (∃ f, n - i ≤ f ∧ L = done ++ lenD FF n f i) ∧ Hid (TbD N FF k wr ∧ OwnL w1 wr 3 1 v m (ints done))) (fun _ s9 _ => n - (intOf s9).toNat)
  case atStart => exact ⟨0, 0, [], by omega, rfl, by omega, rfl, ⟨none, 0, rfl⟩, G0, T0⟩
  case round =>
    clear T0 G0
    rename World => wr
    obtain ⟨i, m, done, hi, hm, hmi, rfl, ⟨x, c, rfl⟩, hG, hT⟩ := hrel
    have HMD := Lib.hid hm
    clear hm
    by_cases hlt : i < n
    · have hlt' : (i : Int) < n := by omega
      have hk0 : (0 : Int) ≤ i := by omega
      have hiN : (i : Int) < N := by omega
      have c0 := hT.out.1.c0 (show i < N by omega)
      have hb := hBd.out i hlt
      obtain ⟨s, hs⟩ : ∃ s : Nat, (FF i).1 = (s : Int) := ⟨(FF i).1.toNat, by omega⟩
      rw [hs] at c0 hb
      obtain ⟨i2, hi2⟩ : ∃ i2, i + s = i2 := ⟨_, rfl⟩
      have xi : IntKind.i64.wrap ((i : Int) + s) = (i2 : Int) := by rw [IntWalk.i64_in _ (by omega)]; omega
      have HG2 := Lib.hid (show ∃ f, n - i2 ≤ f ∧ L = (done ++ [(s : Int)]) ++ lenD FF n f i2 from by
        obtain ⟨f, hf, e⟩ := hG.out
        cases f with
        | zero => omega
        | succ f =>
          refine ⟨f, by omega, ?_⟩
          have : lenD FF n (f + 1) i = (FF i).1 :: lenD FF n f (i + (FF i).1.toNat) := if_pos hlt
          rw [e, this, hs, show i + (s : Int).toNat = i2 by omega]; simp)
      have HO := Lib.hid (hT.out.2.later (w_alloc (w_refl wr) (.cells #[.int .i64 s] 3)))
      have HTB := Lib.hid (hT.out.1.later (w_alloc (w_refl wr) (.cells #[.int .i64 s] 3)))
      have hE := Lib.hid (show ints (done ++ [(s : Int)]) = ints done ++ ints [(s : Int)] from List.map_append ..)
      have hb' := Lib.hid (show m + 1 ≤ i2 ∧ i2 ≤ n ∧ i < i2 by omega)
      have HSs := Lib.hid hs
      clear hG hb hs
      go_wp2_with (at_builtin; refine wpList_append_own_at _ rfl _ _ 22 rfl w1.heap.size 3 i0 (.int .i64 0) 1 8 Try.underlying22 hi0 hz0 hz1 hz2 rfl (by decide) _ m (ints done) rfl HO.out.row ⟨wr.heap.size, 0, none⟩ 1 1 (ints [(s : Int)]) rfl rfl (lit_new _ _ _) (ints_one _) (by unfold maxLen; omega) (by omega) HO.out.bel.size ?_)
      intro v' w3 hown hgrow _ _
      have HN := Lib.hid (show OwnL w1 w3 3 1 v' (m + 1) (ints (done ++ [(s : Int)])) by
        rw [hE.out]
        exact hT.out.2.app (w_alloc (w_refl wr) _) hown hgrow)
      have HTN := Lib.hid (HTB.out.kept HO.out.row hgrow (by decide))
      have d0 := HTN.out.c0 (show i < N by omega)
      rw [HSs.out] at d0
      obtain ⟨x2, c2', hv⟩ := HN.out.val
      subst hv
      clear hown hgrow HO HTB hT c0
      go_wp2_with fail
      go_roundw
      case rel => exact ⟨i2, m + 1, done ++ [(s : Int)], hb'.out.2.1, by simp [HMD.out], hb'.out.1, by go_num, ⟨x2, c2', rfl⟩, HG2, Lib.hid ⟨HTN.out, HN.out⟩⟩
      case measure => have := hb'.out; simp [intOf]; omega
    · obtain rfl : i = n := by omega
      have hlt' : ¬ ((i : Int) < i) := by omega
      have hLd : L = done := by
        obtain ⟨f, _, e⟩ := hG.out
        rw [lenD_end _ _ (Nat.le_refl _), List.append_nil] at e; exact e
      have HR := Lib.hid (show OwnL w0 wr 3 1 (.slice x m c) L.length (ints L) from by
        rw [hLd, HMD.out]
        exact ⟨w_below B1.out hT.out.2.bel, own_base hT.out.2.row B1.out.size⟩)
      clear hG hT hLd hBd
      go_wp2_with fail
      go_ret2
      exact ⟨_, rfl, HR.out⟩

end Go.Proofs.Ytedkcnphplpacaa
