/- A word is the text of the sign that is read from it; what texts of signs are. Pieces that a cursor takes: marks. Pieces that a cursor takes: one of five marks. -/
import Derived.Test.YtdmedealdhadcaaGreatDoorG06
import Derived.Test.YtdmedealdhadcaaGreatDoorG07
import Derived.Test.YtdmedealdhadcaaGreatDoorG05

namespace Go.Proofs.YtdmedealdhadcaaGreatDoor
open Go.RowKit
theorem whole_some {o : Option Cu} {s : Sg} (h : whole o = some s) : o = some ([], s) := by
  unfold whole at h
  rw [Option.bind_eq_some_iff] at h
  obtain ⟨⟨l, t⟩, rfl, h2⟩ := h
  split at h2
  · rename_i e
    simp only [Option.some.injEq] at h2
    obtain rfl : l = [] := e
    obtain rfl : t = s := h2
    rfl
  · cases h2
theorem rdTk_some {m : UInt8} {x y : Cu} (h : rdTk m x = some y) : x.1 = m :: y.1 ∧ y.2 = x.2 := by
  simp only [rdTk, Option.map_eq_some_iff] at h
  obtain ⟨t, ht, rfl⟩ := h
  exact ⟨tk_some ht, rfl⟩
theorem rdVal_some {x y : Cu} (h : rdVal x = some y) : ∃ c, x.1 = c :: y.1 ∧ valC c ≠ 0 ∧ y.2 = { x.2 with val := valC c } := by
  unfold rdVal at h
  split at h
  · rename_i c t e
    split at h
    · cases h
    · rename_i h0
      simp only [Option.some.injEq] at h
      subst h
      exact ⟨c, e, h0, rfl⟩
  · cases h
theorem rdPlc_some {x y : Cu} (h : rdPlc x = some y) : ∃ n, signO (plcT x.1) = (n, true) ∧ x.1 = plcT x.1 ++ y.1 ∧ y.2 = { x.2 with place := n } := by
  unfold rdPlc at h
  split at h
  · rename_i e
    simp only [Option.some.injEq] at h
    subst h
    exact ⟨(signO (plcT x.1)).1, Prod.ext rfl e, plc_split _, rfl⟩
  · cases h
theorem rdAcc_some {x y : Cu} (h : rdAcc x = some y) : ∃ v, x.1 = accL v ++ y.1 ∧ y.2 = { x.2 with acc := v } := by
  unfold rdAcc at h
  simp only [Option.some.injEq] at h
  subst h
  exact ⟨_, acc_split _, rfl⟩
theorem rdCol_some {x y : Cu} (h : rdCol x = some y) : ∃ v, x.1 = mkL v 42 ++ y.1 ∧ y.2 = { x.2 with col := v } := by
  unfold rdCol at h
  simp only [Option.some.injEq] at h
  subst h
  exact ⟨_, opt_split _ _, rfl⟩
theorem rdStem_some {x y : Cu} (h : rdStem x = some y) : ∃ v, x.1 = stemL v ++ y.1 ∧ y.2 = { x.2 with stem := v } := by
  unfold rdStem at h
  simp only [Option.some.injEq] at h
  subst h
  exact ⟨_, stem_split _, rfl⟩
theorem rdObl_some {x y : Cu} (h : rdObl x = some y) : ∃ v, x.1 = mkL v 126 ++ y.1 ∧ y.2 = { x.2 with obl := v } := by
  unfold rdObl at h
  simp only [Option.some.injEq] at h
  subst h
  exact ⟨_, opt_split _ _, rfl⟩
theorem rdLast_some {x y : Cu} (h : rdLast x = some y) : ∃ v, x.1 = mkL v 33 ++ y.1 ∧ y.2 = { x.2 with last := v } := by
  unfold rdLast at h
  simp only [Option.some.injEq] at h
  subst h
  exact ⟨_, opt_split _ _, rfl⟩
theorem rdStk_some {x y : Cu} (h : rdStk x = some y) : ∃ v, x.1 = mkL v 124 ++ y.1 ∧ y.2 = { x.2 with stk := v } := by
  unfold rdStk at h
  simp only [Option.some.injEq] at h
  subst h
  exact ⟨_, opt_split _ _, rfl⟩
theorem rdN_some {x y : Cu} (h : rdN x = some y) : ∃ n ds, numberV ds = some n ∧ x.1 = ds ++ y.1 ∧ y.2 = { x.2 with n := n } := by
  simp only [rdN, Option.map_eq_some_iff] at h
  obtain ⟨n, hn, rfl⟩ := h
  exact ⟨n, _, hn, num_split _, rfl⟩
theorem rdD_some {x y : Cu} (h : rdD x = some y) : ∃ n ds, numberV ds = some n ∧ x.1 = ds ++ y.1 ∧ y.2 = { x.2 with d := n } := by
  simp only [rdD, Option.map_eq_some_iff] at h
  obtain ⟨n, hn, rfl⟩ := h
  exact ⟨n, _, hn, num_split _, rfl⟩
theorem rdLine_some {x y : Cu} (h : rdLine x = some y) : ∃ n ds, numberV ds = some n ∧ x.1 = ds ++ y.1 ∧ y.2 = { x.2 with c1 := n } := by
  simp only [rdLine, Option.map_eq_some_iff] at h
  obtain ⟨n, hn, rfl⟩ := h
  exact ⟨n, _, hn, num_split _, rfl⟩
theorem rdStep_some {x y : Cu} (h : rdStep x = some y) : ∃ v, x.1 = clfL v ++ y.1 ∧ y.2 = { x.2 with c0 := v } := by
  unfold rdStep at h
  split at h
  · rename_i t ht
    simp only [Option.some.injEq] at h
    subst h
    exact ⟨0, tk_some ht, rfl⟩
  · split at h
    · rename_i t ht
      simp only [Option.some.injEq] at h
      subst h
      exact ⟨3, tk_some ht, rfl⟩
    · split at h
      · rename_i t ht
        simp only [Option.some.injEq] at h
        subst h
        exact ⟨4, tk_some ht, rfl⟩
      · cases h
theorem rdMens_some {x y : Cu} (h : rdMens x = some y) : ∃ t, parE (bytes t) = 0 ∧ x.1 = 40 :: (t ++ 41 :: y.1) ∧ y.2 = putM (parQ (bytes t)) x.2 := by
  simp only [rdMens, Option.bind_eq_some_iff] at h
  obtain ⟨t, ht, r, hr, h⟩ := h
  split at h
  · rename_i he
    simp only [Option.some.injEq] at h
    subst h
    exact ⟨_, he, (tk_some ht).trans (congrArg (40 :: ·) (upto_split 41 t hr)), rfl⟩
  · cases h
theorem rdLit_some : ∀ {ms : List UInt8} {x y : Cu}, rdLit ms x = some y → x.1 = ms ++ y.1 ∧ y.2 = x.2
  | [], x, y, h => by simp only [rdLit, Option.some.injEq] at h; subst h; exact ⟨rfl, rfl⟩
  | m :: ms, x, y, h => by
    simp only [rdLit, Option.bind_eq_some_iff] at h
    obtain ⟨z, hz, h⟩ := h
    obtain ⟨a, b⟩ := rdTk_some hz
    obtain ⟨c, d⟩ := rdLit_some h
    exact ⟨by rw [a, c]; rfl, d.trans b⟩
theorem word_kind {s : Sg} {k : Nat} (h : s.kind = (k : Int)) : wordT s = wordK k s := by unfold wordT; rw [h]; simp
set_option maxHeartbeats 2000000 in
/-- What is read as a valid sign is the sign's text. -/
theorem read_word {l : List UInt8} {s : Sg} (h : readS l = some s) (hs : oneE s = 0) : wordT s = l := by
  obtain ⟨_, _, hm, hr, _⟩ := one_zero hs
  unfold readS at h
  obtain ⟨k, hk⟩ : ∃ k, kindOf l = k := ⟨_, rfl⟩
  rw [hk] at h
  have h := whole_some h
  clear hk
  match k, h with
  | 0, h => cases h
  | 1, h =>
    simp only [rdC, Option.bind_eq_some_iff] at h
    obtain ⟨⟨c1, c2⟩, ⟨⟨b1, b2⟩, ⟨⟨a1, a2⟩, h1, h2⟩, h3⟩, h4⟩ := h
    obtain ⟨x, e1, v0, f1⟩ := rdVal_some h1
    obtain ⟨n, sn, e2, f2⟩ := rdPlc_some h2
    obtain ⟨a, e3, f3⟩ := rdAcc_some h3
    obtain ⟨q, e4, f4⟩ := rdCol_some h4
    simp only at e1 f1 sn e2 f2 e3 f3 e4 f4
    clear h1 h2 h3 h4
    subst f1 f2 f3 f4
    obtain ⟨_, hp, _⟩ := rng1 rfl hr
    have ep := plc_some sn hp.1 hp.2
    rw [word_kind (k := 1) rfl, e1, e2, ← ep, e3, e4]
    show letV (valC x) ++ (Lib.itoa n ++ accL a ++ mkL q 42) = _
    rw [let_val v0]
    simp
  | 2, h =>
    simp only [rdC, Option.bind_eq_some_iff] at h
    obtain ⟨⟨a1, a2⟩, h1, h2⟩ := h
    obtain ⟨e1, f1⟩ := rdTk_some h1
    obtain ⟨x, e2, v0, f2⟩ := rdVal_some h2
    simp only at e1 f1 e2 f2
    clear h1 h2
    subst f1 f2
    rw [word_kind (k := 2) rfl, e1, e2]
    show 114 :: letV (valC x) = _
    rw [let_val v0]
  | 3, h =>
    obtain ⟨e1, f1⟩ := rdLit_some h
    simp only [List.append_nil] at e1 f1
    subst e1 f1
    rfl
  | 4, h =>
    simp only [rdC, Option.bind_eq_some_iff] at h
    obtain ⟨⟨g1, g2⟩, ⟨⟨d1, d2⟩, ⟨⟨c1, c2⟩, ⟨⟨b1, b2⟩, ⟨⟨m1, m2⟩, ⟨⟨a1, a2⟩, h1, h2⟩, h3⟩, h4⟩, h5⟩, h6⟩, h7⟩ := h
    obtain ⟨e1, f1⟩ := rdTk_some h1
    obtain ⟨n, sn, e2, f2⟩ := rdPlc_some h2
    obtain ⟨a, e3, f3⟩ := rdAcc_some h3
    obtain ⟨q, e4, f4⟩ := rdCol_some h4
    obtain ⟨u, e5, f5⟩ := rdStem_some h5
    obtain ⟨o, e6, f6⟩ := rdObl_some h6
    obtain ⟨z, e7, f7⟩ := rdLast_some h7
    simp only at e1 f1 sn e2 f2 e3 f3 e4 f4 e5 f5 e6 f6 e7 f7
    clear h1 h2 h3 h4 h5 h6 h7
    subst f1 f2 f3 f4 f5 f6 f7
    obtain ⟨⟨hp, _⟩, _⟩ := rng4 rfl hr
    have ep := plc_some sn hp.1 hp.2
    rw [word_kind (k := 4) rfl, e1, e2, ← ep, e3, e4, e5, e6, e7]
    show 116 :: (Lib.itoa n ++ accL a ++ mkL q 42 ++ stemL u ++ mkL o 126 ++ mkL z 33) = _
    simp
  | 5, h =>
    simp only [rdC, Option.bind_eq_some_iff] at h
    obtain ⟨⟨a1, a2⟩, h1, h2⟩ := h
    obtain ⟨t, pe, e1, f1⟩ := rdMens_some h1
    obtain ⟨q, e2, f2⟩ := rdStk_some h2
    simp only at e1 f1 e2 f2
    clear h1 h2
    subst f1 f2
    rw [word_kind (k := 5) rfl, e1, e2]
    show 40 :: (texL (parQ (bytes t)) ++ [41] ++ mkL q 124) = _
    rw [par_inv pe]
    simp
  | 6, h =>
    simp only [rdC, Option.bind_eq_some_iff] at h
    obtain ⟨⟨b1, b2⟩, ⟨⟨a1, a2⟩, h1, h2⟩, h3⟩ := h
    obtain ⟨n, ds, sn, e1, f1⟩ := rdN_some h1
    obtain ⟨e2, f2⟩ := rdTk_some h2
    obtain ⟨m, dt, sm, e3, f3⟩ := rdD_some h3
    simp only at e1 f1 e2 f2 e3 f3
    clear h1 h2 h3
    subst f1 f2 f3
    obtain ⟨hn, hd⟩ := rng6 rfl hr
    have ep := num_back sn hn.2
    have eq := num_back sm hd.2
    rw [word_kind (k := 6) rfl, e1, e2, e3, ← ep, ← eq]
    show Lib.itoa n ++ [47] ++ Lib.itoa m = _
    simp
  | 7, h =>
    simp only [rdC, Option.bind_eq_some_iff] at h
    obtain ⟨⟨b1, b2⟩, ⟨⟨a1, a2⟩, h1, h2⟩, h3⟩ := h
    obtain ⟨e1, f1⟩ := rdTk_some h1
    obtain ⟨v, e2, f2⟩ := rdStep_some h2
    obtain ⟨m, dt, sm, e3, f3⟩ := rdLine_some h3
    simp only at e1 f1 e2 f2 e3 f3
    clear h1 h2 h3
    subst f1 f2 f3
    obtain ⟨_, hl⟩ := rng7 rfl hr
    have hl2 : m ≤ 5 := hl.2
    have eq := num_back sm (by omega)
    rw [word_kind (k := 7) rfl, e1, e2, e3, ← eq]
    show 64 :: (clfL v ++ Lib.itoa m) = _
    simp
  | 8, h =>
    simp only [rdC, Option.bind_eq_some_iff] at h
    obtain ⟨⟨a1, a2⟩, h1, h2⟩ := h
    obtain ⟨e1, f1⟩ := rdTk_some h1
    obtain ⟨n, ds, sn, e2, f2⟩ := rdN_some h2
    simp only at e1 f1 e2 f2
    clear h1 h2
    subst f1 f2
    have hn := rng8 rfl hr
    have hn2 : n ≤ 2 := hn.2
    have ep := num_back sn (by omega)
    rw [word_kind (k := 8) rfl, e1, e2, ← ep]
    show 38 :: Lib.itoa n = _
    simp
  | 9, h =>
    obtain ⟨e1, f1⟩ := rdLit_some h
    simp only [List.append_nil] at e1 f1
    subst e1 f1
    rfl
  | 10, h =>
    simp only [rdC, Option.bind_eq_some_iff] at h
    obtain ⟨⟨a1, a2⟩, h1, h2⟩ := h
    obtain ⟨e1, f1⟩ := rdTk_some h1
    obtain ⟨n, ds, sn, e2, f2⟩ := rdN_some h2
    simp only at e1 f1 e2 f2
    clear h1 h2
    subst f1 f2
    have hn := rng10 rfl hr
    have hn2 : n ≤ 4 := hn.2
    have ep := num_back sn (by omega)
    rw [word_kind (k := 10) rfl, e1, e2, ← ep]
    show 93 :: Lib.itoa n = _
    simp
  | 11, h =>
    obtain ⟨e1, f1⟩ := rdLit_some h
    simp only [List.append_nil] at e1 f1
    subst e1 f1
    rfl
  | 12, h =>
    obtain ⟨e1, f1⟩ := rdLit_some h
    simp only [List.append_nil] at e1 f1
    subst e1 f1
    rfl
  | k + 13, h => cases h
/-! ### What texts of signs are -/
def plainB (c : UInt8) : Bool := plainI c.toNat
theorem itoa_plain : ∀ n ∈ List.range 101, (Lib.itoa ((n : Nat) : Int)).all plainB = true ∧ Lib.itoa ((n : Nat) : Int) ≠ [] ∧ (Lib.itoa ((n : Nat) : Int)).length ≤ 3 := by decide +kernel
theorem itoa_pl {n : Int} (h0 : 0 ≤ n) (h1 : n ≤ 100) : (Lib.itoa n).all plainB = true ∧ Lib.itoa n ≠ [] ∧ (Lib.itoa n).length ≤ 3 := by
  obtain ⟨m, rfl⟩ : ∃ m : Nat, n = m := ⟨n.toNat, by omega⟩
  exact itoa_plain m (List.mem_range.2 (by omega))
theorem plc_plain {n : Int} (h0 : -4 ≤ n) (h1 : n ≤ 12) : (Lib.itoa n).all plainB = true ∧ Lib.itoa n ≠ [] ∧ (Lib.itoa n).length ≤ 2 := by
  have c : n = -4 ∨ n = -3 ∨ n = -2 ∨ n = -1 ∨ n = 0 ∨ n = 1 ∨ n = 2 ∨ n = 3 ∨ n = 4 ∨ n = 5 ∨ n = 6 ∨ n = 7 ∨ n = 8 ∨ n = 9 ∨ n = 10 ∨ n = 11 ∨ n = 12 := by omega
  rcases c with rfl | rfl | rfl | rfl | rfl | rfl | rfl | rfl | rfl | rfl | rfl | rfl | rfl | rfl | rfl | rfl | rfl <;> decide +kernel
theorem let_plain {v : Int} (h : 1 ≤ v ∧ v ≤ 8) : (letV v).all plainB = true ∧ letV v ≠ [] ∧ (letV v).length ≤ 1 := by
  obtain ⟨h1, h2⟩ := h
  have c : v = 1 ∨ v = 2 ∨ v = 3 ∨ v = 4 ∨ v = 5 ∨ v = 6 ∨ v = 7 ∨ v = 8 := by omega
  rcases c with rfl | rfl | rfl | rfl | rfl | rfl | rfl | rfl <;> decide
theorem acc_plain (a : Int) : (accL a).all plainB = true ∧ (accL a).length ≤ 1 := by
  unfold accL; split
  · decide
  · split
    · decide
    · split <;> decide
theorem stem_plain (a : Int) : (stemL a).all plainB = true ∧ (stemL a).length ≤ 1 := by
  unfold stemL; split
  · decide
  · split
    · decide
    · split <;> decide
theorem clf_plain (a : Int) : (clfL a).all plainB = true ∧ (clfL a).length ≤ 1 := by
  unfold clfL; split
  · decide
  · split
    · decide
    · split <;> decide
theorem mk_plain (b : Bool) (c : UInt8) (h : plainB c = true) : (mkL b c).all plainB = true ∧ (mkL b c).length ≤ 1 := by
  cases b
  · exact ⟨rfl, Nat.zero_le _⟩
  · exact ⟨by simp [mkL, h], by simp [mkL]⟩
theorem tex_plain : ∀ n ∈ List.range 16, (texL (ofN ((n : Nat) : Int))).all plainB = true ∧ (texL (ofN ((n : Nat) : Int))).length ≤ 4 := by decide +kernel
/-- The text of a valid sign is one plain word, of at most nine bytes. -/
theorem word_plain {s : Sg} (h : oneE s = 0) : (wordT s).all plainB = true ∧ wordT s ≠ [] ∧ (wordT s).length ≤ 9 := by
  obtain ⟨hk, _, hm, hr, _⟩ := one_zero h
  obtain ⟨k, k1, k2, ek⟩ := kind_nat hk
  rw [word_kind ek]
  have c : k = 1 ∨ k = 2 ∨ k = 3 ∨ k = 4 ∨ k = 5 ∨ k = 6 ∨ k = 7 ∨ k = 8 ∨ k = 9 ∨ k = 10 ∨ k = 11 ∨ k = 12 := by omega
  rcases c with rfl | rfl | rfl | rfl | rfl | rfl | rfl | rfl | rfl | rfl | rfl | rfl
  · obtain ⟨hv, hp, _⟩ := rng1 ek hr
    have a1 := let_plain hv
    have a2 := plc_plain hp.1 hp.2
    have a3 := acc_plain s.acc
    have a4 := mk_plain s.col 42 (by decide)
    refine ⟨by simp [wordK, headL, a1.1, a2.1, a3.1, a4.1], by simp [wordK, a1.2.1], ?_⟩
    simp only [wordK, headL, List.length_append]; omega
  · have a1 := let_plain (rng2 ek hr)
    refine ⟨by simp only [wordK, List.all_cons, a1.1]; decide, by simp [wordK], ?_⟩
    simp only [wordK, List.length_cons]; omega
  · show ([46] : List UInt8).all plainB = true ∧ ([46] : List UInt8) ≠ [] ∧ ([46] : List UInt8).length ≤ 9
    decide +kernel
  · obtain ⟨⟨hp, _⟩, _⟩ := rng4 ek hr
    have a2 := plc_plain hp.1 hp.2
    have a3 := acc_plain s.acc
    have a4 := mk_plain s.col 42 (by decide)
    have a5 := stem_plain s.stem
    have a6 := mk_plain s.obl 126 (by decide)
    have a7 := mk_plain s.last 33 (by decide)
    refine ⟨by simp only [wordK, headL, List.all_cons, List.all_append, a2.1, a3.1, a4.1, a5.1, a6.1, a7.1]; decide, by simp [wordK], ?_⟩
    simp only [wordK, headL, List.length_append, List.length_cons]; omega
  · obtain ⟨n, hn, e⟩ := okM_of (hm ek)
    have a1 := tex_plain n (List.mem_range.2 hn)
    rw [← e] at a1
    have a2 := mk_plain s.stk 124 (by decide)
    refine ⟨by simp only [wordK, List.all_cons, List.all_append, a1.1, a2.1]; decide, by simp [wordK], ?_⟩
    simp only [wordK, List.length_append, List.length_cons, List.length_nil]; omega
  · obtain ⟨hn, hd⟩ := rng6 ek hr
    have a1 := itoa_pl (n := s.n) (by omega) hn.2
    have a2 := itoa_pl (n := s.d) (by omega) hd.2
    refine ⟨by simp only [wordK, List.all_append, a1.1, a2.1]; decide, by simp [wordK], ?_⟩
    simp only [wordK, List.length_append, List.length_cons, List.length_nil]; omega
  · obtain ⟨_, hl⟩ := rng7 ek hr
    have a1 := clf_plain s.c0
    have a2 := itoa_pl (n := s.c1) (by omega) (by omega)
    refine ⟨by simp only [wordK, List.all_cons, List.all_append, a1.1, a2.1]; decide, by simp [wordK], ?_⟩
    simp only [wordK, List.length_append, List.length_cons]; omega
  · have hn := rng8 ek hr
    have a1 := itoa_pl (n := s.n) (by omega) (by omega)
    refine ⟨by simp only [wordK, List.all_cons, a1.1]; decide, by simp [wordK], ?_⟩
    simp only [wordK, List.length_cons]; omega
  · show ([91] : List UInt8).all plainB = true ∧ ([91] : List UInt8) ≠ [] ∧ ([91] : List UInt8).length ≤ 9
    decide +kernel
  · have hn := rng10 ek hr
    have a1 := itoa_pl (n := s.n) (by omega) (by omega)
    refine ⟨by simp only [wordK, List.all_cons, a1.1]; decide, by simp [wordK], ?_⟩
    simp only [wordK, List.length_cons]; omega
  · show (turnL : List UInt8).all plainB = true ∧ (turnL : List UInt8) ≠ [] ∧ (turnL : List UInt8).length ≤ 9
    decide +kernel
  · show (sigL : List UInt8).all plainB = true ∧ (sigL : List UInt8) ≠ [] ∧ (sigL : List UInt8).length ≤ 9
    decide +kernel
theorem word_wd {s : Sg} (h : oneE s = 0) (a : Int) : okW ⟨a, bytes (wordT s), false⟩ = true := by
  obtain ⟨h1, h2, _⟩ := word_plain h
  show ((bytes (wordT s)).data.toList.all (fun c => plainI c.toNat) && decide (0 < (bytes (wordT s)).size)) = true
  have e : (bytes (wordT s)).data.toList = wordT s := by simp [bytes]
  have z : (bytes (wordT s)).size = (wordT s).length := by show (wordT s).toArray.size = _; simp
  rw [e, z, Bool.and_eq_true]
  exact ⟨h1, decide_eq_true (List.length_pos_iff.2 h2)⟩
/-- No text of a sign is 'end'. -/
theorem word_end {s : Sg} (h : oneE s = 0) : wordT s ≠ [101, 110, 100] := by
  intro e
  have := word_read h
  rw [e] at this
  revert this
  rw [show readS [101, 110, 100] = none from rfl]
  simp
end Go.Proofs.YtdmedealdhadcaaGreatDoor

namespace Go.Proofs.YtdmedealdhadcaaGreatDoor
open Go.RowKit
/-- A method of a cursor takes a piece. -/
def Pc (f : FuncId) (F : Cu → Option Cu) : Prop := ∀ (W : World) (b : Nat) (x : Cu), x.1.length ≤ 1000000 → CuX W b x → Calls Tryz.prog f #[.pointer (some ⟨b, 0, none⟩)] W
  fun e W' => Mv b W W' ∧ (∀ y, F x = some y → e = .returned (.bool true) ∧ CuX W' b y) ∧ (F x = none → e = .returned (.bool false))
theorem opt_yes {m : UInt8} {l t : List UInt8} (h : tk m l = some t) : opt m l = (true, t) := by unfold opt; rw [h]
theorem opt_no {m : UInt8} {l : List UInt8} (h : tk m l = none) : opt m l = (false, l) := by unfold opt; rw [h]
set_option maxRecDepth 100000 in
set_option maxHeartbeats 2000000 in
theorem pcol_any : Pc 123 rdCol := by
  intro W b x _ h
  obtain ⟨l, s⟩ := x
  have HX := Lib.hid h
  clear h
  cases e : tk 42 l with
  | some t =>
    have T := Lib.hid (take_yes (x := (l, s)) e b W HX.out)
    have fin := Lib.hid (show rdCol (l, s) = some (t, { s with col := true }) by unfold rdCol; rw [opt_yes e])
    clear e HX
    go_enter Tryz.func123, Tryz.ntmps123
    go_wp2_with fail
    refine T.out.mono ?_
    rintro e w1 ⟨rfl, hc, hm⟩
    have HX := Lib.hid hc
    have HM := Lib.hid hm
    unfold CuX at HX
    clear hc hm T
    go_wp2_with (first | (refine wl_cell 4 b 5 123 _ (.bool true) (by kernel_rfl) (by kernel_rfl) HX.out (show 5 < 18 by decide) sz_bool rfl rfl ?_) | fail)
    intro W2 h2 h3
    have H2 := Lib.hid h2
    have H3 := Lib.hid (HM.out.trans h3)
    clear h2 h3 HX HM
    go_wp2_with fail
    go_ret
    refine ⟨H3.out, fun y hy => ?_, fun hn => ?_⟩
    · obtain rfl := Option.some.inj (hy.symm.trans fin.out)
      exact ⟨rfl, H2.out⟩
    · rw [fin.out] at hn; cases hn
  | none =>
    have T := Lib.hid (take_no (x := (l, s)) e b W HX.out)
    have fin := Lib.hid (show rdCol (l, s) = some (l, { s with col := false }) by unfold rdCol; rw [opt_no e])
    clear e HX
    go_enter Tryz.func123, Tryz.ntmps123
    go_wp2_with fail
    refine T.out.mono ?_
    rintro e w1 ⟨rfl, hc, hm⟩
    have HX := Lib.hid hc
    have HM := Lib.hid hm
    unfold CuX at HX
    clear hc hm T
    go_wp2_with (first | (refine wl_cell 4 b 5 123 _ (.bool false) (by kernel_rfl) (by kernel_rfl) HX.out (show 5 < 18 by decide) sz_bool rfl rfl ?_) | fail)
    intro W2 h2 h3
    have H2 := Lib.hid h2
    have H3 := Lib.hid (HM.out.trans h3)
    clear h2 h3 HX HM
    go_wp2_with fail
    go_ret
    refine ⟨H3.out, fun y hy => ?_, fun hn => ?_⟩
    · obtain rfl := Option.some.inj (hy.symm.trans fin.out)
      exact ⟨rfl, H2.out⟩
    · rw [fin.out] at hn; cases hn
set_option maxRecDepth 100000 in
set_option maxHeartbeats 2000000 in
theorem pobl_any : Pc 130 rdObl := by
  intro W b x _ h
  obtain ⟨l, s⟩ := x
  have HX := Lib.hid h
  clear h
  cases e : tk 126 l with
  | some t =>
    have T := Lib.hid (take_yes (x := (l, s)) e b W HX.out)
    have fin := Lib.hid (show rdObl (l, s) = some (t, { s with obl := true }) by unfold rdObl; rw [opt_yes e])
    clear e HX
    go_enter Tryz.func130, Tryz.ntmps130
    go_wp2_with fail
    refine T.out.mono ?_
    rintro e w1 ⟨rfl, hc, hm⟩
    have HX := Lib.hid hc
    have HM := Lib.hid hm
    unfold CuX at HX
    clear hc hm T
    go_wp2_with (first | (refine wl_cell 4 b 7 123 _ (.bool true) (by kernel_rfl) (by kernel_rfl) HX.out (show 7 < 18 by decide) sz_bool rfl rfl ?_) | fail)
    intro W2 h2 h3
    have H2 := Lib.hid h2
    have H3 := Lib.hid (HM.out.trans h3)
    clear h2 h3 HX HM
    go_wp2_with fail
    go_ret
    refine ⟨H3.out, fun y hy => ?_, fun hn => ?_⟩
    · obtain rfl := Option.some.inj (hy.symm.trans fin.out)
      exact ⟨rfl, H2.out⟩
    · rw [fin.out] at hn; cases hn
  | none =>
    have T := Lib.hid (take_no (x := (l, s)) e b W HX.out)
    have fin := Lib.hid (show rdObl (l, s) = some (l, { s with obl := false }) by unfold rdObl; rw [opt_no e])
    clear e HX
    go_enter Tryz.func130, Tryz.ntmps130
    go_wp2_with fail
    refine T.out.mono ?_
    rintro e w1 ⟨rfl, hc, hm⟩
    have HX := Lib.hid hc
    have HM := Lib.hid hm
    unfold CuX at HX
    clear hc hm T
    go_wp2_with (first | (refine wl_cell 4 b 7 123 _ (.bool false) (by kernel_rfl) (by kernel_rfl) HX.out (show 7 < 18 by decide) sz_bool rfl rfl ?_) | fail)
    intro W2 h2 h3
    have H2 := Lib.hid h2
    have H3 := Lib.hid (HM.out.trans h3)
    clear h2 h3 HX HM
    go_wp2_with fail
    go_ret
    refine ⟨H3.out, fun y hy => ?_, fun hn => ?_⟩
    · obtain rfl := Option.some.inj (hy.symm.trans fin.out)
      exact ⟨rfl, H2.out⟩
    · rw [fin.out] at hn; cases hn
set_option maxRecDepth 100000 in
set_option maxHeartbeats 2000000 in
theorem plast_any : Pc 131 rdLast := by
  intro W b x _ h
  obtain ⟨l, s⟩ := x
  have HX := Lib.hid h
  clear h
  cases e : tk 33 l with
  | some t =>
    have T := Lib.hid (take_yes (x := (l, s)) e b W HX.out)
    have fin := Lib.hid (show rdLast (l, s) = some (t, { s with last := true }) by unfold rdLast; rw [opt_yes e])
    clear e HX
    go_enter Tryz.func131, Tryz.ntmps131
    go_wp2_with fail
    refine T.out.mono ?_
    rintro e w1 ⟨rfl, hc, hm⟩
    have HX := Lib.hid hc
    have HM := Lib.hid hm
    unfold CuX at HX
    clear hc hm T
    go_wp2_with (first | (refine wl_cell 4 b 8 123 _ (.bool true) (by kernel_rfl) (by kernel_rfl) HX.out (show 8 < 18 by decide) sz_bool rfl rfl ?_) | fail)
    intro W2 h2 h3
    have H2 := Lib.hid h2
    have H3 := Lib.hid (HM.out.trans h3)
    clear h2 h3 HX HM
    go_wp2_with fail
    go_ret
    refine ⟨H3.out, fun y hy => ?_, fun hn => ?_⟩
    · obtain rfl := Option.some.inj (hy.symm.trans fin.out)
      exact ⟨rfl, H2.out⟩
    · rw [fin.out] at hn; cases hn
  | none =>
    have T := Lib.hid (take_no (x := (l, s)) e b W HX.out)
    have fin := Lib.hid (show rdLast (l, s) = some (l, { s with last := false }) by unfold rdLast; rw [opt_no e])
    clear e HX
    go_enter Tryz.func131, Tryz.ntmps131
    go_wp2_with fail
    refine T.out.mono ?_
    rintro e w1 ⟨rfl, hc, hm⟩
    have HX := Lib.hid hc
    have HM := Lib.hid hm
    unfold CuX at HX
    clear hc hm T
    go_wp2_with (first | (refine wl_cell 4 b 8 123 _ (.bool false) (by kernel_rfl) (by kernel_rfl) HX.out (show 8 < 18 by decide) sz_bool rfl rfl ?_) | fail)
    intro W2 h2 h3
    have H2 := Lib.hid h2
    have H3 := Lib.hid (HM.out.trans h3)
    clear h2 h3 HX HM
    go_wp2_with fail
    go_ret
    refine ⟨H3.out, fun y hy => ?_, fun hn => ?_⟩
    · obtain rfl := Option.some.inj (hy.symm.trans fin.out)
      exact ⟨rfl, H2.out⟩
    · rw [fin.out] at hn; cases hn
set_option maxRecDepth 100000 in
set_option maxHeartbeats 2000000 in
theorem pstk_any : Pc 134 rdStk := by
  intro W b x _ h
  obtain ⟨l, s⟩ := x
  have HX := Lib.hid h
  clear h
  cases e : tk 124 l with
  | some t =>
    have T := Lib.hid (take_yes (x := (l, s)) e b W HX.out)
    have fin := Lib.hid (show rdStk (l, s) = some (t, { s with stk := true }) by unfold rdStk; rw [opt_yes e])
    clear e HX
    go_enter Tryz.func134, Tryz.ntmps134
    go_wp2_with fail
    refine T.out.mono ?_
    rintro e w1 ⟨rfl, hc, hm⟩
    have HX := Lib.hid hc
    have HM := Lib.hid hm
    unfold CuX at HX
    clear hc hm T
    go_wp2_with (first | (refine wl_cell 4 b 13 123 _ (.bool true) (by kernel_rfl) (by kernel_rfl) HX.out (show 13 < 18 by decide) sz_bool rfl rfl ?_) | fail)
    intro W2 h2 h3
    have H2 := Lib.hid h2
    have H3 := Lib.hid (HM.out.trans h3)
    clear h2 h3 HX HM
    go_wp2_with fail
    go_ret
    refine ⟨H3.out, fun y hy => ?_, fun hn => ?_⟩
    · obtain rfl := Option.some.inj (hy.symm.trans fin.out)
      exact ⟨rfl, H2.out⟩
    · rw [fin.out] at hn; cases hn
  | none =>
    have T := Lib.hid (take_no (x := (l, s)) e b W HX.out)
    have fin := Lib.hid (show rdStk (l, s) = some (l, { s with stk := false }) by unfold rdStk; rw [opt_no e])
    clear e HX
    go_enter Tryz.func134, Tryz.ntmps134
    go_wp2_with fail
    refine T.out.mono ?_
    rintro e w1 ⟨rfl, hc, hm⟩
    have HX := Lib.hid hc
    have HM := Lib.hid hm
    unfold CuX at HX
    clear hc hm T
    go_wp2_with (first | (refine wl_cell 4 b 13 123 _ (.bool false) (by kernel_rfl) (by kernel_rfl) HX.out (show 13 < 18 by decide) sz_bool rfl rfl ?_) | fail)
    intro W2 h2 h3
    have H2 := Lib.hid h2
    have H3 := Lib.hid (HM.out.trans h3)
    clear h2 h3 HX HM
    go_wp2_with fail
    go_ret
    refine ⟨H3.out, fun y hy => ?_, fun hn => ?_⟩
    · obtain rfl := Option.some.inj (hy.symm.trans fin.out)
      exact ⟨rfl, H2.out⟩
    · rw [fin.out] at hn; cases hn
end Go.Proofs.YtdmedealdhadcaaGreatDoor

namespace Go.Proofs.YtdmedealdhadcaaGreatDoor
open Go.RowKit
/-- The first of the marks that comes next. -/
def oneF : List ByteArray → Nat → List UInt8 → Option (Nat × List UInt8)
  | [], _, _ => none
  | m :: ms, k, l => if m.toList.isEmpty = false ∧ Lib.hasPrefix l m.data.toList = true then some (k, Lib.trimPrefix l m.data.toList) else oneF ms (k + 1) l
theorem one_hit {m : ByteArray} {ms : List ByteArray} {k : Nat} {l : List UInt8} (h1 : m.toList.isEmpty = false) (h2 : Lib.hasPrefix l m.data.toList = true) : oneF (m :: ms) k l = some (k, Lib.trimPrefix l m.data.toList) := if_pos ⟨h1, h2⟩
theorem one_skip {m : ByteArray} {ms : List ByteArray} {k : Nat} {l : List UInt8} (h : m.toList.isEmpty = true) : oneF (m :: ms) k l = oneF ms (k + 1) l := if_neg (fun x => by rw [h] at x; cases x.1)
theorem one_miss {m : ByteArray} {ms : List ByteArray} {k : Nat} {l : List UInt8} (h : Lib.hasPrefix l m.data.toList = false) : oneF (m :: ms) k l = oneF ms (k + 1) l := if_neg (fun x => by rw [h] at x; cases x.2)
def marksV (a b c d e : ByteArray) : Value := .agg #[.string a, .string b, .string c, .string d, .string e]
def OnePost (R : Option (Nat × List UInt8)) (b : Nat) (x : Cu) (W : World) (e : Ending) (W' : World) : Prop :=
  Mv b W W' ∧ (∀ k t, R = some (k, t) → e = .returned (.tuple #[.int .i64 k, .bool true]) ∧ CuX W' b (t, x.2)) ∧ (R = none → e = .returned (.tuple #[.int .i64 0, .bool false]) ∧ CuX W' b x)
theorem ix_m0 (m0 m1 m2 m3 m4 : ByteArray) (V : World) : (Instr.index 162 (.agg #[.string m0, .string m1, .string m2, .string m3, .string m4]) (.int .i64 0)).run Tryz.prog V = .ok (.string m0) V := by kernel_rfl
theorem ix_m1 (m0 m1 m2 m3 m4 : ByteArray) (V : World) : (Instr.index 162 (.agg #[.string m0, .string m1, .string m2, .string m3, .string m4]) (.int .i64 1)).run Tryz.prog V = .ok (.string m1) V := by kernel_rfl
theorem ix_m2 (m0 m1 m2 m3 m4 : ByteArray) (V : World) : (Instr.index 162 (.agg #[.string m0, .string m1, .string m2, .string m3, .string m4]) (.int .i64 2)).run Tryz.prog V = .ok (.string m2) V := by kernel_rfl
theorem ix_m3 (m0 m1 m2 m3 m4 : ByteArray) (V : World) : (Instr.index 162 (.agg #[.string m0, .string m1, .string m2, .string m3, .string m4]) (.int .i64 3)).run Tryz.prog V = .ok (.string m3) V := by kernel_rfl
theorem ix_m4 (m0 m1 m2 m3 m4 : ByteArray) (V : World) : (Instr.index 162 (.agg #[.string m0, .string m1, .string m2, .string m3, .string m4]) (.int .i64 4)).run Tryz.prog V = .ok (.string m4) V := by kernel_rfl
set_option maxRecDepth 100000 in
set_option maxHeartbeats 8000000 in
theorem pone_of (m0 m1 m2 m3 m4 : ByteArray) (b : Nat) (x : Cu) (W : World) (h : CuX W b x) :
    Calls Tryz.prog 167 #[.pointer (some ⟨b, 0, none⟩), marksV m0 m1 m2 m3 m4] W (OnePost (oneF [m0, m1, m2, m3, m4] 0 x.1) b x W) := by
  obtain ⟨R, hR0⟩ : ∃ R, oneF [m0, m1, m2, m3, m4] 0 x.1 = R := ⟨_, rfl⟩
  rw [hR0]
  have HR := Lib.hid hR0
  have HX := Lib.hid h
  have T := Lib.hid (fun m V (hV : CuX V b x) => take_raw m b x V hV)
  have hlt := h.lt
  clear hR0 h
  unfold OnePost marksV
  go_enter Tryz.func167, Tryz.ntmps167
  go_wp2_with fail
  go_loopw [9] (fun s9 W2 => ∃ k : Nat, k ≤ 5 ∧ s9 = .int .i64 k ∧ Hid (oneF ([m0, m1, m2, m3, m4].drop k) k x.1 = R) ∧ Hid (CuX W2 b x) ∧ Hid (Mv b W W2)) (fun s9 _ => 5 - (intOf s9).toNat)
  case atStart => exact ⟨0, by omega, rfl, HR, Lib.hid (HX.out.later (w_alloc (w_refl W) _)), Lib.hid (Mv.of (w_alloc (w_refl W) _))⟩
  case round =>
    clear HX HR
    obtain ⟨k, hk5, rfl, hk, HX, HM⟩ := hrel
    rename World => W2
    by_cases hk6 : k < 5
    · have c : k = 0 ∨ k = 1 ∨ k = 2 ∨ k = 3 ∨ k = 4 := by omega
      clear hk5 hk6
      rcases c with rfl | rfl | rfl | rfl | rfl
      · have hix := fun V => ix_m0 m0 m1 m2 m3 m4 V
        have hR := Lib.hid (show oneF (m0 :: [m1, m2, m3, m4]) 0 x.1 = R from hk.out)
        clear hk
        by_cases he : m0.toList.isEmpty = true
        · have hn := Lib.hid (show oneF [m1, m2, m3, m4] 1 x.1 = R by rw [← hR.out, one_skip he])
          clear hR T
          go_wp2_with fail
          go_roundw
          case rel => exact ⟨1, by decide, rfl, hn, HX, HM⟩
          case measure => decide
        · have he : m0.toList.isEmpty = false := by simpa using he
          have TK := Lib.hid (T.out m0 W2 HX.out)
          cases hp : Lib.hasPrefix x.1 m0.data.toList with
          | true =>
            have hf := Lib.hid (show some (0, Lib.trimPrefix x.1 m0.data.toList) = R by rw [← hR.out, one_hit he hp])
            rw [hp] at TK
            clear hR T hp HX
            go_wp2_with fail
            refine TK.out.mono ?_
            rintro e w3 ⟨rfl, hc, hm⟩
            have HX := Lib.hid hc
            have H3 := Lib.hid (HM.out.trans hm)
            clear hc hm TK HM
            go_wp2_with fail
            go_ret2
            refine ⟨H3.out, fun k t hk => ?_, fun hn => ?_⟩
            · rw [← hf.out] at hk
              obtain ⟨rfl, rfl⟩ := Prod.mk.inj (Option.some.inj hk)
              exact ⟨rfl, HX.out⟩
            · rw [← hf.out] at hn; cases hn
          | false =>
            have hn := Lib.hid (show oneF [m1, m2, m3, m4] 1 x.1 = R by rw [← hR.out, one_miss hp])
            have htr := Lib.hid (show Lib.trimPrefix x.1 m0.data.toList = x.1 by unfold Lib.trimPrefix; rw [hp]; rfl)
            rw [hp, htr.out] at TK
            clear hR T hp HX htr
            go_wp2_with fail
            refine TK.out.mono ?_
            rintro e w3 ⟨rfl, hc, hm⟩
            have HX := Lib.hid hc
            have H3 := Lib.hid (HM.out.trans hm)
            clear hc hm TK HM
            go_wp2_with fail
            go_roundw
            case rel => exact ⟨1, by decide, rfl, hn, HX, H3⟩
            case measure => decide
      · have hix := fun V => ix_m1 m0 m1 m2 m3 m4 V
        have hR := Lib.hid (show oneF (m1 :: [m2, m3, m4]) 1 x.1 = R from hk.out)
        clear hk
        by_cases he : m1.toList.isEmpty = true
        · have hn := Lib.hid (show oneF [m2, m3, m4] 2 x.1 = R by rw [← hR.out, one_skip he])
          clear hR T
          go_wp2_with fail
          go_roundw
          case rel => exact ⟨2, by decide, rfl, hn, HX, HM⟩
          case measure => decide
        · have he : m1.toList.isEmpty = false := by simpa using he
          have TK := Lib.hid (T.out m1 W2 HX.out)
          cases hp : Lib.hasPrefix x.1 m1.data.toList with
          | true =>
            have hf := Lib.hid (show some (1, Lib.trimPrefix x.1 m1.data.toList) = R by rw [← hR.out, one_hit he hp])
            rw [hp] at TK
            clear hR T hp HX
            go_wp2_with fail
            refine TK.out.mono ?_
            rintro e w3 ⟨rfl, hc, hm⟩
            have HX := Lib.hid hc
            have H3 := Lib.hid (HM.out.trans hm)
            clear hc hm TK HM
            go_wp2_with fail
            go_ret2
            refine ⟨H3.out, fun k t hk => ?_, fun hn => ?_⟩
            · rw [← hf.out] at hk
              obtain ⟨rfl, rfl⟩ := Prod.mk.inj (Option.some.inj hk)
              exact ⟨rfl, HX.out⟩
            · rw [← hf.out] at hn; cases hn
          | false =>
            have hn := Lib.hid (show oneF [m2, m3, m4] 2 x.1 = R by rw [← hR.out, one_miss hp])
            have htr := Lib.hid (show Lib.trimPrefix x.1 m1.data.toList = x.1 by unfold Lib.trimPrefix; rw [hp]; rfl)
            rw [hp, htr.out] at TK
            clear hR T hp HX htr
            go_wp2_with fail
            refine TK.out.mono ?_
            rintro e w3 ⟨rfl, hc, hm⟩
            have HX := Lib.hid hc
            have H3 := Lib.hid (HM.out.trans hm)
            clear hc hm TK HM
            go_wp2_with fail
            go_roundw
            case rel => exact ⟨2, by decide, rfl, hn, HX, H3⟩
            case measure => decide
      · have hix := fun V => ix_m2 m0 m1 m2 m3 m4 V
        have hR := Lib.hid (show oneF (m2 :: [m3, m4]) 2 x.1 = R from hk.out)
        clear hk
        by_cases he : m2.toList.isEmpty = true
        · have hn := Lib.hid (show oneF [m3, m4] 3 x.1 = R by rw [← hR.out, one_skip he])
          clear hR T
          go_wp2_with fail
          go_roundw
          case rel => exact ⟨3, by decide, rfl, hn, HX, HM⟩
          case measure => decide
        · have he : m2.toList.isEmpty = false := by simpa using he
          have TK := Lib.hid (T.out m2 W2 HX.out)
          cases hp : Lib.hasPrefix x.1 m2.data.toList with
          | true =>
            have hf := Lib.hid (show some (2, Lib.trimPrefix x.1 m2.data.toList) = R by rw [← hR.out, one_hit he hp])
            rw [hp] at TK
            clear hR T hp HX
            go_wp2_with fail
            refine TK.out.mono ?_
            rintro e w3 ⟨rfl, hc, hm⟩
            have HX := Lib.hid hc
            have H3 := Lib.hid (HM.out.trans hm)
            clear hc hm TK HM
            go_wp2_with fail
            go_ret2
            refine ⟨H3.out, fun k t hk => ?_, fun hn => ?_⟩
            · rw [← hf.out] at hk
              obtain ⟨rfl, rfl⟩ := Prod.mk.inj (Option.some.inj hk)
              exact ⟨rfl, HX.out⟩
            · rw [← hf.out] at hn; cases hn
          | false =>
            have hn := Lib.hid (show oneF [m3, m4] 3 x.1 = R by rw [← hR.out, one_miss hp])
            have htr := Lib.hid (show Lib.trimPrefix x.1 m2.data.toList = x.1 by unfold Lib.trimPrefix; rw [hp]; rfl)
            rw [hp, htr.out] at TK
            clear hR T hp HX htr
            go_wp2_with fail
            refine TK.out.mono ?_
            rintro e w3 ⟨rfl, hc, hm⟩
            have HX := Lib.hid hc
            have H3 := Lib.hid (HM.out.trans hm)
            clear hc hm TK HM
            go_wp2_with fail
            go_roundw
            case rel => exact ⟨3, by decide, rfl, hn, HX, H3⟩
            case measure => decide
      · have hix := fun V => ix_m3 m0 m1 m2 m3 m4 V
        have hR := Lib.hid (show oneF (m3 :: [m4]) 3 x.1 = R from hk.out)
        clear hk
        by_cases he : m3.toList.isEmpty = true
        · have hn := Lib.hid (show oneF [m4] 4 x.1 = R by rw [← hR.out, one_skip he])
          clear hR T
          go_wp2_with fail
          go_roundw
          case rel => exact ⟨4, by decide, rfl, hn, HX, HM⟩
          case measure => decide
        · have he : m3.toList.isEmpty = false := by simpa using he
          have TK := Lib.hid (T.out m3 W2 HX.out)
          cases hp : Lib.hasPrefix x.1 m3.data.toList with
          | true =>
            have hf := Lib.hid (show some (3, Lib.trimPrefix x.1 m3.data.toList) = R by rw [← hR.out, one_hit he hp])
            rw [hp] at TK
            clear hR T hp HX
            go_wp2_with fail
            refine TK.out.mono ?_
            rintro e w3 ⟨rfl, hc, hm⟩
            have HX := Lib.hid hc
            have H3 := Lib.hid (HM.out.trans hm)
            clear hc hm TK HM
            go_wp2_with fail
            go_ret2
            refine ⟨H3.out, fun k t hk => ?_, fun hn => ?_⟩
            · rw [← hf.out] at hk
              obtain ⟨rfl, rfl⟩ := Prod.mk.inj (Option.some.inj hk)
              exact ⟨rfl, HX.out⟩
            · rw [← hf.out] at hn; cases hn
          | false =>
            have hn := Lib.hid (show oneF [m4] 4 x.1 = R by rw [← hR.out, one_miss hp])
            have htr := Lib.hid (show Lib.trimPrefix x.1 m3.data.toList = x.1 by unfold Lib.trimPrefix; rw [hp]; rfl)
            rw [hp, htr.out] at TK
            clear hR T hp HX htr
            go_wp2_with fail
            refine TK.out.mono ?_
            rintro e w3 ⟨rfl, hc, hm⟩
            have HX := Lib.hid hc
            have H3 := Lib.hid (HM.out.trans hm)
            clear hc hm TK HM
            go_wp2_with fail
            go_roundw
            case rel => exact ⟨4, by decide, rfl, hn, HX, H3⟩
            case measure => decide
      · have hix := fun V => ix_m4 m0 m1 m2 m3 m4 V
        have hR := Lib.hid (show oneF (m4 :: []) 4 x.1 = R from hk.out)
        clear hk
        by_cases he : m4.toList.isEmpty = true
        · have hn := Lib.hid (show oneF [] 5 x.1 = R by rw [← hR.out, one_skip he])
          clear hR T
          go_wp2_with fail
          go_roundw
          case rel => exact ⟨5, by decide, rfl, hn, HX, HM⟩
          case measure => decide
        · have he : m4.toList.isEmpty = false := by simpa using he
          have TK := Lib.hid (T.out m4 W2 HX.out)
          cases hp : Lib.hasPrefix x.1 m4.data.toList with
          | true =>
            have hf := Lib.hid (show some (4, Lib.trimPrefix x.1 m4.data.toList) = R by rw [← hR.out, one_hit he hp])
            rw [hp] at TK
            clear hR T hp HX
            go_wp2_with fail
            refine TK.out.mono ?_
            rintro e w3 ⟨rfl, hc, hm⟩
            have HX := Lib.hid hc
            have H3 := Lib.hid (HM.out.trans hm)
            clear hc hm TK HM
            go_wp2_with fail
            go_ret2
            refine ⟨H3.out, fun k t hk => ?_, fun hn => ?_⟩
            · rw [← hf.out] at hk
              obtain ⟨rfl, rfl⟩ := Prod.mk.inj (Option.some.inj hk)
              exact ⟨rfl, HX.out⟩
            · rw [← hf.out] at hn; cases hn
          | false =>
            have hn := Lib.hid (show oneF [] 5 x.1 = R by rw [← hR.out, one_miss hp])
            have htr := Lib.hid (show Lib.trimPrefix x.1 m4.data.toList = x.1 by unfold Lib.trimPrefix; rw [hp]; rfl)
            rw [hp, htr.out] at TK
            clear hR T hp HX htr
            go_wp2_with fail
            refine TK.out.mono ?_
            rintro e w3 ⟨rfl, hc, hm⟩
            have HX := Lib.hid hc
            have H3 := Lib.hid (HM.out.trans hm)
            clear hc hm TK HM
            go_wp2_with fail
            go_roundw
            case rel => exact ⟨5, by decide, rfl, hn, HX, H3⟩
            case measure => decide
    · obtain rfl : k = 5 := by omega
      have hf := Lib.hid (show none = R from hk.out)
      clear hk T
      go_wp2_with fail
      go_ret2
      refine ⟨HM.out, fun k t hk => ?_, fun _ => ⟨rfl, HX.out⟩⟩
      rw [← hf.out] at hk; cases hk
end Go.Proofs.YtdmedealdhadcaaGreatDoor
