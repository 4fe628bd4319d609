/- The program's quotedLength: how long the quoted word is that begins at a quote, for every line. -/
import Derived.Test.YtdjkgnganbeonaaDoorRun
import Derived.Test.YtdjkgnganbeonaaDoorWCuts
namespace Go.Proofs.YtdjkgnganbeonaaDoor
open Go.RowKit

theorem runN_spec (p : Int → Bool) : ∀ l : List UInt8, (∀ m, m < runN p l → ∃ b, l[m]? = some b ∧ p (clsI b.toNat) = true) ∧ (∀ b, l[runN p l]? = some b → p (clsI b.toNat) = false) ∧ runN p l ≤ l.length
  | [] => ⟨fun m h => by simp [runN] at h, fun b h => by simp at h, Nat.le_refl _⟩
  | c :: t => by
    obtain ⟨i1, i2, i3⟩ := runN_spec p t
    by_cases hp : p (clsI c.toNat) = true
    · have e : runN p (c :: t) = runN p t + 1 := if_pos hp
      rw [e]
      refine ⟨fun m h => ?_, fun b h => i2 b (by simpa using h), by simp; omega⟩
      cases m with
      | zero => exact ⟨c, rfl, hp⟩
      | succ m => obtain ⟨b, hb, hq⟩ := i1 m (by omega); exact ⟨b, by simpa using hb, hq⟩
    · have e : runN p (c :: t) = 0 := if_neg hp
      rw [e]
      refine ⟨fun m h => by omega, fun b h => ?_, Nat.zero_le _⟩
      simp at h; subst h; simpa using hp

theorem bt_drop {s : ByteArray} {k m : Nat} {b : UInt8} (h : (s.data.toList.drop k)[m]? = some b) : bt s (k + m) = b.toNat := by
  rw [List.getElem?_drop] at h
  have hlt : k + m < s.size := by have := (List.getElem?_eq_some_iff.1 h).1; simpa using this
  rw [bt_in hlt]
  have e : s.data.toList[k + m]? = some s[k + m] := by rw [List.getElem?_eq_getElem (by simpa using hlt)]; rfl
  rw [e] at h
  simp only [Option.some.injEq] at h
  rw [h]

/-- From a place on: the bytes of the class, and what ends them. -/
theorem run_from (p : Int → Bool) (s : ByteArray) (k : Nat) (hk : k ≤ s.size) : ∃ j, j = k + runN p (s.data.toList.drop k) ∧ j ≤ s.size ∧ (∀ m, k ≤ m → m < j → p (clsI (bt s m)) = true) ∧ (j < s.size → p (clsI (bt s j)) = false) := by
  obtain ⟨i1, i2, i3⟩ := runN_spec p (s.data.toList.drop k)
  refine ⟨_, rfl, by simp at i3; omega, fun m h1 h2 => ?_, fun h => ?_⟩
  · obtain ⟨b, hb, hq⟩ := i1 (m - k) (by omega)
    have := bt_drop hb
    rw [show k + (m - k) = m by omega] at this
    rw [this]; exact hq
  · have e : (s.data.toList.drop k)[runN p (s.data.toList.drop k)]? = some (s[k + runN p (s.data.toList.drop k)]) := by
      rw [List.getElem?_drop, List.getElem?_eq_getElem (by simpa using h)]; rfl
    rw [bt_drop e]; exact i2 _ e

def QLen (s : ByteArray) (i : Nat) (r : Int) : Prop := (∃ k : Nat, r = (k : Int) - i ∧ QuotedAt s i k) ∨ (r = 0 ∧ ∀ k, ¬ QuotedAt s i k)

theorem cls_ne32 (c : Int) : (clsI c != 32) = !decide (c = 32) := by have := cls_blank c; unfold blankC at this; rw [← this]; rfl
theorem cls_ne34 (c : Int) : (clsI c != 34) = !decide (c = 34) := by rw [← cls_quote c]; rfl
theorem cls_ne59 (c : Int) : (clsI c != 59) = !decide (c = 59) := by rw [← cls_semi c]; rfl

set_option maxRecDepth 100000 in
set_option maxHeartbeats 2000000 in
theorem wquoted_any (s : ByteArray) (i : Nat) (w : World) (hs : s.size ≤ maxLen) (hi : bt s i = 34) : Calls Tryd.prog 67 #[.string s, .int .i64 i] w fun e w' => (∃ r, e = .returned (.int .i64 r) ∧ QLen s i r) ∧ w = w' := by
  have hlt := bt_lt (show 0 ≤ bt s i by omega)
  have HI := Lib.hid hi
  clear hi
  have hs' : s.size ≤ maxLen := hs
  unfold maxLen at hs
  by_cases hb : 0 < i ∧ bt s (i - 1) ≠ 32
  · obtain ⟨h0, h1⟩ := hb
    have h2 := bt_in (s := s) (j := i - 1) (by omega)
    have h3 : (clsI (s[i - 1].toNat : Int) != 32) = true := by rw [cls_ne32, ← h2]; simpa using h1
    have hcl := cls_lit s[i - 1].toNat s[i - 1].toNat_lt s[i - 1].toNat_lt
    have h256 : (s[i - 1].toNat : Int) < 256 := by have := s[i - 1].toNat_lt; omega
    have hfin := Lib.hid (show QLen s i 0 from .inr ⟨rfl, fun k q => by rcases q.before with x | x; omega; exact h1 x⟩)
    have h0' : 0 < (i : Int) := by omega
    have hw : IntKind.i64.wrap ((i : Int) - 1) = ((i - 1 : Nat) : Int) := by rw [IntWalk.i64_in _ (by omega)]; omega
    have hlt2 : i - 1 < s.size := by omega
    clear h1 h2
    go_enter Tryd.func67, Tryd.ntmps67
    go_wp2_with fail
    go_ret
    exact ⟨⟨_, rfl, hfin.out⟩, rfl⟩
  · have hbef := Lib.hid (show i = 0 ∨ bt s (i - 1) = 32 by
      by_cases h0 : 0 < i
      · right; exact Classical.byContradiction fun h1 => hb ⟨h0, h1⟩
      · left; omega)
    have part : (¬ 0 < (i : Int)) ∨ (0 < (i : Int) ∧ IntKind.i64.wrap ((i : Int) - 1) = ((i - 1 : Nat) : Int) ∧ ∃ h : i - 1 < s.size, (clsI (s[i - 1].toNat : Int) != 32) = false ∧ (s[i - 1].toNat : Int) < 256) := by
      by_cases h0 : 0 < i
      · right
        have h1 : bt s (i - 1) = 32 := Classical.byContradiction fun h1 => hb ⟨h0, h1⟩
        have h2 := bt_in (s := s) (j := i - 1) (by omega)
        exact ⟨by omega, by rw [IntWalk.i64_in _ (by omega)]; omega, by omega, by rw [cls_ne32, ← h2, h1]; rfl, by have := s[i - 1].toNat_lt; omega⟩
      · left; omega
    clear hb
    obtain ⟨j, hj, hjs, hin, hout⟩ := run_from quotableC s (i + 1) (by omega)
    have R := Lib.hid (fun W => wrun_quotable (s.extract (i + 1) s.size) W (by rw [ByteArray.size_extract]; unfold maxLen; omega))
    have e2 : (s.extract (i + 1) s.size).data.toList = s.data.toList.drop (i + 1) := Go.Lib.extract_to_end s (i + 1)
    rw [e2] at R
    clear e2
    generalize runN quotableC (s.data.toList.drop (i + 1)) = r at *
    have hjr : (i : Int) + 1 + (r : Int) = (j : Int) := by omega
    have hij : i < j := by omega
    have hin' := Lib.hid (show ∀ m, i < m → m < j → insideI (bt s m) = true from fun m a b => by rw [← cls_quotable]; exact hin m (by omega) b)
    have hout' := Lib.hid (show insideI (bt s j) = false by
      by_cases h : j < s.size
      · rw [← cls_quotable]; exact hout h
      · rw [bt_out h]; rfl)
    have hlast := Lib.hid (fun k q => quoted_end hij hin'.out hout'.out k q)
    have hrj : (r : Int) ≤ s.size := by omega
    clear hin hout hj
    by_cases hjl : j < s.size
    · have hje : ((j : Int) == (s.size : Int)) = false := by rw [beq_eq_false_iff_ne]; omega
      have hcl := cls_lit s[j].toNat s[j].toNat_lt s[j].toNat_lt
      have h256 : (s[j].toNat : Int) < 256 := by have := s[j].toNat_lt; omega
      have hbj := Lib.hid (bt_in hjl)
      by_cases hq : bt s j = 34
      · have h34 : (clsI (s[j].toNat : Int) != 34) = false := by rw [cls_ne34, ← hbj.out, hq]; rfl
        have hqb := Lib.hid hq
        clear hq
        by_cases hne : j + 1 < s.size
        · have hcl2 := cls_lit s[j + 1].toNat s[j + 1].toNat_lt s[j + 1].toNat_lt
          have h2562 : (s[j + 1].toNat : Int) < 256 := by have := s[j + 1].toNat_lt; omega
          have hne' : (j : Int) + 1 < s.size := by omega
          have hb1 := Lib.hid (bt_in hne)
          by_cases hE : endsI (bt s (j + 1)) = true
          · have hfin := Lib.hid (show QLen s i ((j : Int) + 1 - i) from .inl ⟨j + 1, by omega, HI.out, hbef.out, by omega, by omega, fun m a b => hin'.out m a (by omega), by simpa using hqb.out, hE⟩)
            have two : (clsI (s[j + 1].toNat : Int) != 32) = false ∨ ((clsI (s[j + 1].toNat : Int) != 32) = true ∧ (clsI (s[j + 1].toNat : Int) != 59) = false) := by
              rw [cls_ne32, cls_ne59, ← hb1.out]
              have h0 : ¬ bt s (j + 1) = -1 := by rw [hb1.out]; omega
              unfold endsI at hE
              have := of_decide_eq_true hE
              rcases this with x | x | x
              · exact absurd x h0
              · left; rw [x]; rfl
              · right; rw [x]; exact ⟨rfl, rfl⟩
            clear hE hlast hqb hbj hb1 hin' hout'
            rcases two with t1 | ⟨t1, t2⟩
            all_goals
              rcases part with h0 | ⟨h0, hw, hlt2, h3, h2563⟩
              · go_enter Tryd.func67, Tryd.ntmps67
                go_wp2_with fail
                refine (R.out _).mono ?_
                rintro e w1 ⟨rfl, rfl⟩
                go_wp2_with fail
                go_ret
                exact ⟨⟨_, rfl, hfin.out⟩, rfl⟩
              · have hcl3 := cls_lit s[i - 1].toNat s[i - 1].toNat_lt s[i - 1].toNat_lt
                go_enter Tryd.func67, Tryd.ntmps67
                go_wp2_with fail
                refine (R.out _).mono ?_
                rintro e w1 ⟨rfl, rfl⟩
                go_wp2_with fail
                go_ret
                exact ⟨⟨_, rfl, hfin.out⟩, rfl⟩
          · have hE' : endsI (bt s (j + 1)) = false := by simpa using hE
            have hfin := Lib.hid (show QLen s i 0 from .inr ⟨rfl, fun k q => by
              obtain rfl := hlast.out k q
              have := q.ends
              rw [hE'] at this; cases this⟩)
            have t1 : (clsI (s[j + 1].toNat : Int) != 32) = true := by
              rw [cls_ne32, ← hb1.out]
              have : ¬ bt s (j + 1) = 32 := fun x => by rw [x] at hE'; exact absurd hE' (by decide)
              simpa using this
            have t2 : (clsI (s[j + 1].toNat : Int) != 59) = true := by
              rw [cls_ne59, ← hb1.out]
              have : ¬ bt s (j + 1) = 59 := fun x => by rw [x] at hE'; exact absurd hE' (by decide)
              simpa using this
            clear hE hE' hlast hqb hbj hb1 hin' hout'
            rcases part with h0 | ⟨h0, hw, hlt2, h3, h2563⟩
            · go_enter Tryd.func67, Tryd.ntmps67
              go_wp2_with fail
              refine (R.out _).mono ?_
              rintro e w1 ⟨rfl, rfl⟩
              go_wp2_with fail
              go_ret
              exact ⟨⟨_, rfl, hfin.out⟩, rfl⟩
            · have hcl3 := cls_lit s[i - 1].toNat s[i - 1].toNat_lt s[i - 1].toNat_lt
              go_enter Tryd.func67, Tryd.ntmps67
              go_wp2_with fail
              refine (R.out _).mono ?_
              rintro e w1 ⟨rfl, rfl⟩
              go_wp2_with fail
              go_ret
              exact ⟨⟨_, rfl, hfin.out⟩, rfl⟩
        · have hne' : ¬ (j : Int) + 1 < s.size := by omega
          have hfin := Lib.hid (show QLen s i ((j : Int) + 1 - i) from .inl ⟨j + 1, by omega, HI.out, hbef.out, by omega, by omega, fun m a b => hin'.out m a (by omega), by simpa using hqb.out, by rw [bt_out hne]; rfl⟩)
          clear hlast hqb hbj hin' hout'
          rcases part with h0 | ⟨h0, hw, hlt2, h3, h2563⟩
          · go_enter Tryd.func67, Tryd.ntmps67
            go_wp2_with fail
            refine (R.out _).mono ?_
            rintro e w1 ⟨rfl, rfl⟩
            go_wp2_with fail
            go_ret
            exact ⟨⟨_, rfl, hfin.out⟩, rfl⟩
          · have hcl3 := cls_lit s[i - 1].toNat s[i - 1].toNat_lt s[i - 1].toNat_lt
            go_enter Tryd.func67, Tryd.ntmps67
            go_wp2_with fail
            refine (R.out _).mono ?_
            rintro e w1 ⟨rfl, rfl⟩
            go_wp2_with fail
            go_ret
            exact ⟨⟨_, rfl, hfin.out⟩, rfl⟩
      · have h34 : (clsI (s[j].toNat : Int) != 34) = true := by rw [cls_ne34, ← hbj.out]; simpa using hq
        have hfin := Lib.hid (show QLen s i 0 from .inr ⟨rfl, fun k q => by
          obtain rfl := hlast.out k q
          have := q.last
          rw [Nat.add_sub_cancel] at this
          exact hq this⟩)
        clear hq hlast hbj hin' hout'
        rcases part with h0 | ⟨h0, hw, hlt2, h3, h2563⟩
        · go_enter Tryd.func67, Tryd.ntmps67
          go_wp2_with fail
          refine (R.out _).mono ?_
          rintro e w1 ⟨rfl, rfl⟩
          go_wp2_with fail
          go_ret
          exact ⟨⟨_, rfl, hfin.out⟩, rfl⟩
        · have hcl3 := cls_lit s[i - 1].toNat s[i - 1].toNat_lt s[i - 1].toNat_lt
          go_enter Tryd.func67, Tryd.ntmps67
          go_wp2_with fail
          refine (R.out _).mono ?_
          rintro e w1 ⟨rfl, rfl⟩
          go_wp2_with fail
          go_ret
          exact ⟨⟨_, rfl, hfin.out⟩, rfl⟩
    · have hje : ((j : Int) == (s.size : Int)) = true := by rw [beq_iff_eq]; omega
      have hfin := Lib.hid (show QLen s i 0 from .inr ⟨rfl, fun k q => by
        have := hlast.out k q
        have := q.fits
        omega⟩)
      clear hlast hin' hout'
      rcases part with h0 | ⟨h0, hw, hlt2, h3, h2563⟩
      · go_enter Tryd.func67, Tryd.ntmps67
        go_wp2_with fail
        refine (R.out _).mono ?_
        rintro e w1 ⟨rfl, rfl⟩
        go_wp2_with fail
        go_ret
        exact ⟨⟨_, rfl, hfin.out⟩, rfl⟩
      · have hcl3 := cls_lit s[i - 1].toNat s[i - 1].toNat_lt s[i - 1].toNat_lt
        go_enter Tryd.func67, Tryd.ntmps67
        go_wp2_with fail
        refine (R.out _).mono ?_
        rintro e w1 ⟨rfl, rfl⟩
        go_wp2_with fail
        go_ret
        exact ⟨⟨_, rfl, hfin.out⟩, rfl⟩

end Go.Proofs.YtdjkgnganbeonaaDoor
