/- The program's quotedLength: how long the quoted word is that begins at a quote, for every line. The rows of a text, reckoned: what a text's rows are, for texts that are written out. Reading what is written, as plain mathematics. What is read is of a bounded size, and can be written. -/
import Derived.Test.YtdmedealdhadcaaGreatDoorG05
import Derived.Test.YtdmedealdhadcaaGreatDoorG07
import Derived.Test.YtdmedealdhadcaaGreatDoorG18

namespace Go.Proofs.YtdmedealdhadcaaGreatDoor
open Go.RowKit
theorem runN_spec (p : Int → Bool) : ∀ l : List UInt8, (∀ m, m < runN p l → ∃ b, l[m]? = some b ∧ p (clsI b.toNat) = true) ∧ (∀ b, l[runN p l]? = some b → p (clsI b.toNat) = false) ∧ runN p l ≤ l.length
  | [] => ⟨fun m h => by simp [runN] at h, fun b h => by simp at h, Nat.le_refl _⟩
  | c :: t => by
    obtain ⟨i1, i2, i3⟩ := runN_spec p t
    by_cases hp : p (clsI c.toNat) = true
    · have e : runN p (c :: t) = runN p t + 1 := if_pos hp
      rw [e]
      refine ⟨fun m h => ?_, fun b h => i2 b (by simpa using h), by simp; omega⟩
      cases m with
      | zero => exact ⟨c, rfl, hp⟩
      | succ m => obtain ⟨b, hb, hq⟩ := i1 m (by omega); exact ⟨b, by simpa using hb, hq⟩
    · have e : runN p (c :: t) = 0 := if_neg hp
      rw [e]
      refine ⟨fun m h => by omega, fun b h => ?_, Nat.zero_le _⟩
      simp at h; subst h; simpa using hp
theorem bt_drop {s : ByteArray} {k m : Nat} {b : UInt8} (h : (s.data.toList.drop k)[m]? = some b) : bt s (k + m) = b.toNat := by
  rw [List.getElem?_drop] at h
  have hlt : k + m < s.size := by have := (List.getElem?_eq_some_iff.1 h).1; simpa using this
  rw [bt_in hlt]
  have e : s.data.toList[k + m]? = some s[k + m] := by rw [List.getElem?_eq_getElem (by simpa using hlt)]; rfl
  rw [e] at h
  simp only [Option.some.injEq] at h
  rw [h]
/-- From a place on: the bytes of the class, and what ends them. -/
theorem run_from (p : Int → Bool) (s : ByteArray) (k : Nat) (hk : k ≤ s.size) : ∃ j, j = k + runN p (s.data.toList.drop k) ∧ j ≤ s.size ∧ (∀ m, k ≤ m → m < j → p (clsI (bt s m)) = true) ∧ (j < s.size → p (clsI (bt s j)) = false) := by
  obtain ⟨i1, i2, i3⟩ := runN_spec p (s.data.toList.drop k)
  refine ⟨_, rfl, by simp at i3; omega, fun m h1 h2 => ?_, fun h => ?_⟩
  · obtain ⟨b, hb, hq⟩ := i1 (m - k) (by omega)
    have := bt_drop hb
    rw [show k + (m - k) = m by omega] at this
    rw [this]; exact hq
  · have e : (s.data.toList.drop k)[runN p (s.data.toList.drop k)]? = some (s[k + runN p (s.data.toList.drop k)]) := by
      rw [List.getElem?_drop, List.getElem?_eq_getElem (by simpa using h)]; rfl
    rw [bt_drop e]; exact i2 _ e
def QLen (s : ByteArray) (i : Nat) (r : Int) : Prop := (∃ k : Nat, r = (k : Int) - i ∧ QuotedAt s i k) ∨ (r = 0 ∧ ∀ k, ¬ QuotedAt s i k)
theorem cls_ne32 (c : Int) : (clsI c != 32) = !decide (c = 32) := by have := cls_blank c; unfold blankC at this; rw [← this]; rfl
theorem cls_ne34 (c : Int) : (clsI c != 34) = !decide (c = 34) := by rw [← cls_quote c]; rfl
theorem cls_ne59 (c : Int) : (clsI c != 59) = !decide (c = 59) := by rw [← cls_semi c]; rfl
set_option maxRecDepth 100000 in
set_option maxHeartbeats 2000000 in
theorem wquoted_any (s : ByteArray) (i : Nat) (w : World) (hs : s.size ≤ maxLen) (hi : bt s i = 34) : Calls Tryz.prog 161 #[.string s, .int .i64 i] w fun e w' => (∃ r, e = .returned (.int .i64 r) ∧ QLen s i r) ∧ w = w' := by
  have hlt := bt_lt (show 0 ≤ bt s i by omega)
  have HI := Lib.hid hi
  clear hi
  have hs' : s.size ≤ maxLen := hs
  unfold maxLen at hs
  by_cases hb : 0 < i ∧ bt s (i - 1) ≠ 32
  · obtain ⟨h0, h1⟩ := hb
    have h2 := bt_in (s := s) (j := i - 1) (by omega)
    have h3 : (clsI (s[i - 1].toNat : Int) != 32) = true := by rw [cls_ne32, ← h2]; simpa using h1
    have hcl := cls_lit s[i - 1].toNat s[i - 1].toNat_lt s[i - 1].toNat_lt
    have h256 : (s[i - 1].toNat : Int) < 256 := by have := s[i - 1].toNat_lt; omega
    have hfin := Lib.hid (show QLen s i 0 from .inr ⟨rfl, fun k q => by rcases q.before with x | x; omega; exact h1 x⟩)
    have h0' : 0 < (i : Int) := by omega
    have hw : IntKind.i64.wrap ((i : Int) - 1) = ((i - 1 : Nat) : Int) := by rw [IntWalk.i64_in _ (by omega)]; omega
    have hlt2 : i - 1 < s.size := by omega
    clear h1 h2
    go_enter Tryz.func161, Tryz.ntmps161
    go_wp2_with fail
    go_ret
    exact ⟨⟨_, rfl, hfin.out⟩, rfl⟩
  · have hbef := Lib.hid (show i = 0 ∨ bt s (i - 1) = 32 by
      by_cases h0 : 0 < i
      · right; exact Classical.byContradiction fun h1 => hb ⟨h0, h1⟩
      · left; omega)
    have part : (¬ 0 < (i : Int)) ∨ (0 < (i : Int) ∧ IntKind.i64.wrap ((i : Int) - 1) = ((i - 1 : Nat) : Int) ∧ ∃ h : i - 1 < s.size, (clsI (s[i - 1].toNat : Int) != 32) = false ∧ (s[i - 1].toNat : Int) < 256) := by
      by_cases h0 : 0 < i
      · right
        have h1 : bt s (i - 1) = 32 := Classical.byContradiction fun h1 => hb ⟨h0, h1⟩
        have h2 := bt_in (s := s) (j := i - 1) (by omega)
        exact ⟨by omega, by rw [IntWalk.i64_in _ (by omega)]; omega, by omega, by rw [cls_ne32, ← h2, h1]; rfl, by have := s[i - 1].toNat_lt; omega⟩
      · left; omega
    clear hb
    obtain ⟨j, hj, hjs, hin, hout⟩ := run_from quotableC s (i + 1) (by omega)
    have R := Lib.hid (fun W => wrun_quotable (s.extract (i + 1) s.size) W (by rw [ByteArray.size_extract]; unfold maxLen; omega))
    have e2 : (s.extract (i + 1) s.size).data.toList = s.data.toList.drop (i + 1) := Go.Lib.extract_to_end s (i + 1)
    rw [e2] at R
    clear e2
    generalize runN quotableC (s.data.toList.drop (i + 1)) = r at *
    have hjr : (i : Int) + 1 + (r : Int) = (j : Int) := by omega
    have hij : i < j := by omega
    have hin' := Lib.hid (show ∀ m, i < m → m < j → insideI (bt s m) = true from fun m a b => by rw [← cls_quotable]; exact hin m (by omega) b)
    have hout' := Lib.hid (show insideI (bt s j) = false by
      by_cases h : j < s.size
      · rw [← cls_quotable]; exact hout h
      · rw [bt_out h]; rfl)
    have hlast := Lib.hid (fun k q => quoted_end hij hin'.out hout'.out k q)
    have hrj : (r : Int) ≤ s.size := by omega
    clear hin hout hj
    by_cases hjl : j < s.size
    · have hje : ((j : Int) == (s.size : Int)) = false := by rw [beq_eq_false_iff_ne]; omega
      have hcl := cls_lit s[j].toNat s[j].toNat_lt s[j].toNat_lt
      have h256 : (s[j].toNat : Int) < 256 := by have := s[j].toNat_lt; omega
      have hbj := Lib.hid (bt_in hjl)
      by_cases hq : bt s j = 34
      · have h34 : (clsI (s[j].toNat : Int) != 34) = false := by rw [cls_ne34, ← hbj.out, hq]; rfl
        have hqb := Lib.hid hq
        clear hq
        by_cases hne : j + 1 < s.size
        · have hcl2 := cls_lit s[j + 1].toNat s[j + 1].toNat_lt s[j + 1].toNat_lt
          have h2562 : (s[j + 1].toNat : Int) < 256 := by have := s[j + 1].toNat_lt; omega
          have hne' : (j : Int) + 1 < s.size := by omega
          have hb1 := Lib.hid (bt_in hne)
          by_cases hE : endsI (bt s (j + 1)) = true
          · have hfin := Lib.hid (show QLen s i ((j : Int) + 1 - i) from .inl ⟨j + 1, by omega, HI.out, hbef.out, by omega, by omega, fun m a b => hin'.out m a (by omega), by simpa using hqb.out, hE⟩)
            have two : (clsI (s[j + 1].toNat : Int) != 32) = false ∨ ((clsI (s[j + 1].toNat : Int) != 32) = true ∧ (clsI (s[j + 1].toNat : Int) != 59) = false) := by
              rw [cls_ne32, cls_ne59, ← hb1.out]
              have h0 : ¬ bt s (j + 1) = -1 := by rw [hb1.out]; omega
              unfold endsI at hE
              have := of_decide_eq_true hE
              rcases this with x | x | x
              · exact absurd x h0
              · left; rw [x]; rfl
              · right; rw [x]; exact ⟨rfl, rfl⟩
            clear hE hlast hqb hbj hb1 hin' hout'
            rcases two with t1 | ⟨t1, t2⟩
            all_goals
              rcases part with h0 | ⟨h0, hw, hlt2, h3, h2563⟩
              · go_enter Tryz.func161, Tryz.ntmps161
                go_wp2_with fail
                refine (R.out _).mono ?_
                rintro e w1 ⟨rfl, rfl⟩
                go_wp2_with fail
                go_ret
                exact ⟨⟨_, rfl, hfin.out⟩, rfl⟩
              · have hcl3 := cls_lit s[i - 1].toNat s[i - 1].toNat_lt s[i - 1].toNat_lt
                go_enter Tryz.func161, Tryz.ntmps161
                go_wp2_with fail
                refine (R.out _).mono ?_
                rintro e w1 ⟨rfl, rfl⟩
                go_wp2_with fail
                go_ret
                exact ⟨⟨_, rfl, hfin.out⟩, rfl⟩
          · have hE' : endsI (bt s (j + 1)) = false := by simpa using hE
            have hfin := Lib.hid (show QLen s i 0 from .inr ⟨rfl, fun k q => by
              obtain rfl := hlast.out k q
              have := q.ends
              rw [hE'] at this; cases this⟩)
            have t1 : (clsI (s[j + 1].toNat : Int) != 32) = true := by
              rw [cls_ne32, ← hb1.out]
              have : ¬ bt s (j + 1) = 32 := fun x => by rw [x] at hE'; exact absurd hE' (by decide)
              simpa using this
            have t2 : (clsI (s[j + 1].toNat : Int) != 59) = true := by
              rw [cls_ne59, ← hb1.out]
              have : ¬ bt s (j + 1) = 59 := fun x => by rw [x] at hE'; exact absurd hE' (by decide)
              simpa using this
            clear hE hE' hlast hqb hbj hb1 hin' hout'
            rcases part with h0 | ⟨h0, hw, hlt2, h3, h2563⟩
            · go_enter Tryz.func161, Tryz.ntmps161
              go_wp2_with fail
              refine (R.out _).mono ?_
              rintro e w1 ⟨rfl, rfl⟩
              go_wp2_with fail
              go_ret
              exact ⟨⟨_, rfl, hfin.out⟩, rfl⟩
            · have hcl3 := cls_lit s[i - 1].toNat s[i - 1].toNat_lt s[i - 1].toNat_lt
              go_enter Tryz.func161, Tryz.ntmps161
              go_wp2_with fail
              refine (R.out _).mono ?_
              rintro e w1 ⟨rfl, rfl⟩
              go_wp2_with fail
              go_ret
              exact ⟨⟨_, rfl, hfin.out⟩, rfl⟩
        · have hne' : ¬ (j : Int) + 1 < s.size := by omega
          have hfin := Lib.hid (show QLen s i ((j : Int) + 1 - i) from .inl ⟨j + 1, by omega, HI.out, hbef.out, by omega, by omega, fun m a b => hin'.out m a (by omega), by simpa using hqb.out, by rw [bt_out hne]; rfl⟩)
          clear hlast hqb hbj hin' hout'
          rcases part with h0 | ⟨h0, hw, hlt2, h3, h2563⟩
          · go_enter Tryz.func161, Tryz.ntmps161
            go_wp2_with fail
            refine (R.out _).mono ?_
            rintro e w1 ⟨rfl, rfl⟩
            go_wp2_with fail
            go_ret
            exact ⟨⟨_, rfl, hfin.out⟩, rfl⟩
          · have hcl3 := cls_lit s[i - 1].toNat s[i - 1].toNat_lt s[i - 1].toNat_lt
            go_enter Tryz.func161, Tryz.ntmps161
            go_wp2_with fail
            refine (R.out _).mono ?_
            rintro e w1 ⟨rfl, rfl⟩
            go_wp2_with fail
            go_ret
            exact ⟨⟨_, rfl, hfin.out⟩, rfl⟩
      · have h34 : (clsI (s[j].toNat : Int) != 34) = true := by rw [cls_ne34, ← hbj.out]; simpa using hq
        have hfin := Lib.hid (show QLen s i 0 from .inr ⟨rfl, fun k q => by
          obtain rfl := hlast.out k q
          have := q.last
          rw [Nat.add_sub_cancel] at this
          exact hq this⟩)
        clear hq hlast hbj hin' hout'
        rcases part with h0 | ⟨h0, hw, hlt2, h3, h2563⟩
        · go_enter Tryz.func161, Tryz.ntmps161
          go_wp2_with fail
          refine (R.out _).mono ?_
          rintro e w1 ⟨rfl, rfl⟩
          go_wp2_with fail
          go_ret
          exact ⟨⟨_, rfl, hfin.out⟩, rfl⟩
        · have hcl3 := cls_lit s[i - 1].toNat s[i - 1].toNat_lt s[i - 1].toNat_lt
          go_enter Tryz.func161, Tryz.ntmps161
          go_wp2_with fail
          refine (R.out _).mono ?_
          rintro e w1 ⟨rfl, rfl⟩
          go_wp2_with fail
          go_ret
          exact ⟨⟨_, rfl, hfin.out⟩, rfl⟩
    · have hje : ((j : Int) == (s.size : Int)) = true := by rw [beq_iff_eq]; omega
      have hfin := Lib.hid (show QLen s i 0 from .inr ⟨rfl, fun k q => by
        have := hlast.out k q
        have := q.fits
        omega⟩)
      clear hlast hin' hout'
      rcases part with h0 | ⟨h0, hw, hlt2, h3, h2563⟩
      · go_enter Tryz.func161, Tryz.ntmps161
        go_wp2_with fail
        refine (R.out _).mono ?_
        rintro e w1 ⟨rfl, rfl⟩
        go_wp2_with fail
        go_ret
        exact ⟨⟨_, rfl, hfin.out⟩, rfl⟩
      · have hcl3 := cls_lit s[i - 1].toNat s[i - 1].toNat_lt s[i - 1].toNat_lt
        go_enter Tryz.func161, Tryz.ntmps161
        go_wp2_with fail
        refine (R.out _).mono ?_
        rintro e w1 ⟨rfl, rfl⟩
        go_wp2_with fail
        go_ret
        exact ⟨⟨_, rfl, hfin.out⟩, rfl⟩
end Go.Proofs.YtdmedealdhadcaaGreatDoor

namespace Go.Proofs.YtdmedealdhadcaaGreatDoor
open Go.RowKit
def cutF (s : ByteArray) (f : Int) : Nat → Nat → List Wd × Option Nat
  | 0, _ => ([], none)
  | n + 1, i =>
    if s.size ≤ i then ([], none) else if bt s i = 59 then ([], none) else if bt s i = 32 then cutF s f n (i + 1)
    else if bt s i = 34 then
      if (i = 0 ∨ bt s (i - 1) = 32) ∧ bt s (i + 1 + runN quotableC (s.data.toList.drop (i + 1))) = 34 ∧ endsI (bt s (i + 1 + runN quotableC (s.data.toList.drop (i + 1)) + 1)) = true then
        (⟨f + i, s.extract (i + 1) (i + 1 + runN quotableC (s.data.toList.drop (i + 1))), true⟩ :: (cutF s f n (i + 1 + runN quotableC (s.data.toList.drop (i + 1)) + 1)).1, (cutF s f n (i + 1 + runN quotableC (s.data.toList.drop (i + 1)) + 1)).2)
      else ([], some i)
    else if plainI (bt s i) = true then
      (⟨f + i, s.extract i (i + runN plainC (s.data.toList.drop i)), false⟩ :: (cutF s f n (i + runN plainC (s.data.toList.drop i))).1, (cutF s f n (i + runN plainC (s.data.toList.drop i))).2)
    else ([], some i)
theorem cutF_ok (s : ByteArray) (f : Int) : ∀ n i, i ≤ s.size → s.size < n + i → Cuts s f i (cutF s f n i).1 (cutF s f n i).2
  | 0, i, h, h' => by omega
  | n + 1, i, h, h' => by
    unfold cutF
    by_cases h0 : s.size ≤ i
    · rw [if_pos h0]; exact .stop (by omega)
    rw [if_neg h0]
    have hlt : i < s.size := by omega
    by_cases h1 : bt s i = 59
    · rw [if_pos h1]; exact .note h1
    rw [if_neg h1]
    by_cases h2 : bt s i = 32
    · rw [if_pos h2]; exact .blank h2 (cutF_ok s f n (i + 1) (by omega) (by omega))
    rw [if_neg h2]
    by_cases h3 : bt s i = 34
    · rw [if_pos h3]
      obtain ⟨j, hj, hjs, hin, hout⟩ := run_from quotableC s (i + 1) (by omega)
      rw [← hj]
      have hin' : ∀ m, i < m → m < j → insideI (bt s m) = true := fun m a b => by rw [← cls_quotable]; exact hin m (by omega) b
      have hout' : insideI (bt s j) = false := by
        by_cases hh : j < s.size
        · rw [← cls_quotable]; exact hout hh
        · rw [bt_out hh]; rfl
      have hlast := fun k q => quoted_end (s := s) (i := i) (by omega) hin' hout' k q
      by_cases h4 : (i = 0 ∨ bt s (i - 1) = 32) ∧ bt s j = 34 ∧ endsI (bt s (j + 1)) = true
      · rw [if_pos h4]
        obtain ⟨a, b, c⟩ := h4
        have hjl : j < s.size := bt_lt (by omega)
        have q : QuotedAt s i (j + 1) := ⟨h3, a, by omega, by omega, fun m x y => hin' m x (by omega), by simpa using b, c⟩
        have := Cuts.quote q (cutF_ok s f n (j + 1) (by omega) (by omega))
        simpa using this
      · rw [if_neg h4]
        refine .badq h3 fun k q => h4 ?_
        obtain rfl := hlast k q
        exact ⟨q.before, by simpa using q.last, q.ends⟩
    rw [if_neg h3]
    by_cases h5 : plainI (bt s i) = true
    · rw [if_pos h5]
      obtain ⟨k, hk, hks, hin, hout⟩ := run_from plainC s i h
      rw [← hk]
      have hout' : plainI (bt s k) = false := by
        by_cases hh : k < s.size
        · rw [← cls_plain]; exact hout hh
        · rw [bt_out hh]; rfl
      have hik : i < k := by
        apply Classical.byContradiction; intro x
        rw [show k = i by omega, h5] at hout'; cases hout'
      exact .word ⟨hik, hks, fun m a b => by rw [← cls_plain]; exact hin m a b, hout'⟩ (cutF_ok s f n k hks (by omega))
    · rw [if_neg h5]
      exact .bad (by rw [bt_in hlt]; omega) h1 h2 h3 (by simpa using h5)
def lineN : List UInt8 → Nat
  | [] => 0
  | c :: t => if c.toNat = 10 then 0 else lineN t + 1
theorem lineN_spec : ∀ l : List UInt8, (∀ m b, m < lineN l → l[m]? = some b → (b.toNat : Int) ≠ 10) ∧ (∀ b, l[lineN l]? = some b → (b.toNat : Int) = 10) ∧ lineN l ≤ l.length
  | [] => ⟨fun m b h => by simp [lineN] at h, fun b h => by simp at h, Nat.le_refl _⟩
  | c :: t => by
    obtain ⟨i1, i2, i3⟩ := lineN_spec t
    by_cases hc : c.toNat = 10
    · have e : lineN (c :: t) = 0 := if_pos hc
      rw [e]
      exact ⟨fun m b h => by omega, fun b h => by simp at h; subst h; omega, Nat.zero_le _⟩
    · have e : lineN (c :: t) = lineN t + 1 := if_neg hc
      rw [e]
      refine ⟨fun m b h hb => ?_, fun b h => i2 b (by simpa using h), by simp; omega⟩
      cases m with
      | zero => simp at hb; subst hb; omega
      | succ m => exact i1 m b (by omega) (by simpa using hb)
theorem line_from (T : ByteArray) (i : Nat) (hi : i ≤ T.size) : LineAt T i (i + lineN (T.data.toList.drop i)) := by
  obtain ⟨i1, i2, i3⟩ := lineN_spec (T.data.toList.drop i)
  have hl : (T.data.toList.drop i).length = T.size - i := by simp
  rw [hl] at i3
  have at_ : ∀ m (hm : i + m < T.size), (T.data.toList.drop i)[m]? = some T[i + m] := fun m hm => by
    rw [List.getElem?_drop, List.getElem?_eq_getElem (by simpa using hm)]; rfl
  refine ⟨by omega, by omega, fun m a b => ?_, ?_⟩
  · have hm : i + (m - i) < T.size := by omega
    have := i1 (m - i) _ (by omega) (at_ (m - i) hm)
    rw [← bt_in hm, show i + (m - i) = m by omega] at this
    exact this
  · by_cases h : i + lineN (T.data.toList.drop i) < T.size
    · right; rw [bt_in h]; exact i2 _ (at_ _ h)
    · left; omega
def rowsF (T : ByteArray) : Nat → Nat → List Rw × Option (Int × Int)
  | 0, _ => ([], none)
  | n + 1, i =>
    if T.size < i then ([], none)
    else if 1000 < lineN (T.data.toList.drop i) then ([], some (4, (i : Int)))
    else match cutF (T.extract i (i + lineN (T.data.toList.drop i))) i (lineN (T.data.toList.drop i) + 1) 0 with
      | (_, some j) => ([], some (3, (i : Int) + j))
      | ([], none) => rowsF T n (i + lineN (T.data.toList.drop i) + 1)
      | (x :: ws, none) => (⟨i, x :: ws⟩ :: (rowsF T n (i + lineN (T.data.toList.drop i) + 1)).1, (rowsF T n (i + lineN (T.data.toList.drop i) + 1)).2)
theorem rowsF_ok (T : ByteArray) : ∀ n i, T.size + 1 < n + i → RowsR T i (rowsF T n i).1 (rowsF T n i).2
  | 0, i, h => .stop (by omega)
  | n + 1, i, h => by
    unfold rowsF
    by_cases h0 : T.size < i
    · rw [if_pos h0]; exact .stop h0
    rw [if_neg h0]
    have hl := line_from T i (by omega)
    by_cases h1 : 1000 < lineN (T.data.toList.drop i)
    · rw [if_pos h1]; exact .long hl (by omega)
    rw [if_neg h1]
    have hfit := hl.fits
    have hsz : (T.extract i (i + lineN (T.data.toList.drop i))).size = lineN (T.data.toList.drop i) := by rw [ByteArray.size_extract]; omega
    have hc := cutF_ok (T.extract i (i + lineN (T.data.toList.drop i))) i (lineN (T.data.toList.drop i) + 1) 0 (by omega) (by omega)
    have ih := rowsF_ok T n (i + lineN (T.data.toList.drop i) + 1) (by omega)
    revert hc
    generalize cutF (T.extract i (i + lineN (T.data.toList.drop i))) i (lineN (T.data.toList.drop i) + 1) 0 = r
    intro hc
    obtain ⟨ws, b⟩ := r
    cases b with
    | some j => exact .bad hl (by omega) hc
    | none =>
      cases ws with
      | nil => exact .skip hl (by omega) hc ih
      | cons x ws => exact .row hl (by omega) hc (by simp) ih
/-- What a short text's rows are. -/
theorem rows_calc (T : ByteArray) (n : Nat) (hT : T.size ≤ 20000) (hn : T.size + 1 < n) {rs b} (h : RowsRes T rs b) : b = (rowsF T n 0).2 ∧ rs = if (rowsF T n 0).2 = none then (rowsF T n 0).1 else [] := by
  have h' : RowsRes T (if (rowsF T n 0).2 = none then (rowsF T n 0).1 else []) (rowsF T n 0).2 := .inr ⟨hT, _, rowsF_ok T n 0 (by omega), rfl⟩
  obtain ⟨e1, e2⟩ := h.one h'
  exact ⟨e2, e1⟩
end Go.Proofs.YtdmedealdhadcaaGreatDoor

namespace Go.Proofs.YtdmedealdhadcaaGreatDoor
open Go.RowKit
/-- Words without their offsets. -/
def bareW (ws : List Wd) : List (ByteArray × Bool) := ws.map fun x => (x.text, x.quoted)
def bareR (rs : List Rw) : List (List (ByteArray × Bool)) := rs.map fun r => bareW r.words
theorem bareW_len {a b : List Wd} (h : bareW a = bareW b) : a.length = b.length := by
  have := congrArg List.length h; simpa [bareW] using this
theorem bareW_get {a b : List Wd} (h : bareW a = bareW b) (m : Nat) (hm : m < a.length) : (a.getD m noWd).text = (b.getD m noWd).text ∧ (a.getD m noWd).quoted = (b.getD m noWd).quoted := by
  have hl := bareW_len h
  have e : (bareW a)[m]? = (bareW b)[m]? := by rw [h]
  unfold bareW at e
  rw [List.getElem?_map, List.getElem?_map, List.getElem?_eq_getElem hm, List.getElem?_eq_getElem (by omega : m < b.length)] at e
  simp only [Option.map_some, Option.some.injEq, Prod.mk.injEq] at e
  rw [List.getD, List.getD, List.getElem?_eq_getElem hm, List.getElem?_eq_getElem (by omega : m < b.length)]
  exact e
/-! ### The text of rows depends on the words alone -/
/-- The text of rows without an error. -/
def bodyL : List Rw → List UInt8
  | [] => []
  | r :: t => lineL r.words ++ [10] ++ bodyL t
theorem bodyL_app : ∀ a b : List Rw, bodyL (a ++ b) = bodyL a ++ bodyL b
  | [], _ => rfl
  | r :: t, b => by show lineL r.words ++ [10] ++ bodyL (t ++ b) = _; rw [bodyL_app t b]; simp [bodyL]
theorem textG_good : ∀ (rs : List Rw) (out : List UInt8), (∀ r ∈ rs, rowE r.words = 0) → (out ++ bodyL rs).length ≤ 20000 → textG out rs = (out ++ bodyL rs, 0)
  | [], out, _, _ => by simp [textG, bodyL]
  | r :: t, out, h, hl => by
    unfold textG
    have e : out ++ bodyL (r :: t) = (out ++ (lineL r.words ++ [10])) ++ bodyL t := by simp [bodyL]
    rw [e] at hl ⊢
    rw [if_neg (by rw [h r (by simp)]; decide), if_neg (by rw [List.length_append] at hl; omega)]
    exact textG_good t _ (fun x hx => h x (by simp [hx])) hl
theorem textG_parts : ∀ (rs : List Rw) (out : List UInt8), (∀ r ∈ rs, rowE r.words ≠ 3) → out.length ≤ 20000 → ((textG out rs).2 = 4 ∨ ((textG out rs).2 = 0 ∧ (textG out rs).1 = out ++ bodyL rs ∧ (out ++ bodyL rs).length ≤ 20000 ∧ ∀ r ∈ rs, rowE r.words = 0))
  | [], out, _, h0 => by right; simp [textG, bodyL]; exact h0
  | r :: t, out, h, h0 => by
    unfold textG
    by_cases h1 : rowE r.words = 0
    · rw [if_neg (by rw [h1]; decide)]
      by_cases h2 : 20000 < (out ++ (lineL r.words ++ [10])).length
      · rw [if_pos h2]; left; rfl
      · rw [if_neg h2]
        have e : out ++ bodyL (r :: t) = (out ++ (lineL r.words ++ [10])) ++ bodyL t := by simp [bodyL]
        rw [e]
        rcases textG_parts t (out ++ (lineL r.words ++ [10])) (fun x hx => h x (by simp [hx])) (by omega) with h3 | ⟨h3, h4, h5, h6⟩
        · exact .inl h3
        · refine .inr ⟨h3, h4, h5, fun x hx => ?_⟩
          rcases List.mem_cons.1 hx with rfl | hx
          · exact h1
          · exact h6 x hx
    · rw [if_pos h1]
      left
      have h3 := h r (by simp)
      show rowE r.words = 4
      unfold rowE at h1 h3 ⊢
      split at h1
      · rename_i hc; rw [if_pos hc] at h3; exact absurd rfl h3
      · split at h1
        · rename_i h7 h8; rw [if_neg h7, if_pos h8]
        · exact absurd rfl h1
/-! ### The words of a line -/
/-- The end of a line: blanks, then nothing or a comment. -/
inductive EndL : List UInt8 → Prop
  | nil : EndL []
  | note (l : List UInt8) : EndL (59 :: l)
  | blank {l : List UInt8} (h : EndL l) : EndL (32 :: l)
theorem drop_bt {s : ByteArray} {L : List UInt8} (hs : s.data.toList = L) {i : Nat} {c : UInt8} {R : List UInt8} (h : L.drop i = c :: R) : i < s.size ∧ bt s i = (c.toNat : Int) ∧ L.drop (i + 1) = R := by
  have hi : i < L.length := by
    apply Classical.byContradiction; intro hx
    rw [List.drop_of_length_le (by omega)] at h; cases h
  have hsz : s.size = L.length := by rw [← hs]; simp
  have hi' : i < s.size := by omega
  have e : L.drop i = L[i] :: L.drop (i + 1) := List.drop_eq_getElem_cons hi
  rw [e] at h
  simp only [List.cons.injEq] at h
  refine ⟨hi', ?_, h.2⟩
  rw [bt_in hi']
  have : s[i] = L[i] := by subst hs; simp [ByteArray.getElem_eq_getElem_data]
  rw [this, h.1]
theorem bt_end {s : ByteArray} {L : List UInt8} (hs : s.data.toList = L) {i : Nat} (h : L.drop i = []) : bt s i = -1 := by
  have hsz : s.size = L.length := by rw [← hs]; simp
  exact bt_out (by have := List.drop_eq_nil_iff.1 h; omega)
theorem mid_bt {s : ByteArray} {L : List UInt8} (hs : s.data.toList = L) : ∀ (M : List UInt8) {i : Nat} {R : List UInt8}, L.drop i = M ++ R → L.drop (i + M.length) = R ∧ i + M.length ≤ max s.size i ∧ ∀ j, i ≤ j → j < i + M.length → ∃ c ∈ M, bt s j = (c.toNat : Int)
  | [], i, R, h => ⟨h, by simp; omega, fun j h1 h2 => by simp at h2; omega⟩
  | c :: M, i, R, h => by
    obtain ⟨h1, h2, h3⟩ := drop_bt hs h
    obtain ⟨h4, h5, h6⟩ := mid_bt hs M h3
    refine ⟨by rw [← h4]; congr 1; simp; omega, by simp; omega, fun j ha hb => ?_⟩
    by_cases hj : j = i
    · subst hj; exact ⟨c, by simp, h2⟩
    · obtain ⟨d, hd, e⟩ := h6 j (by omega) (by simp at hb; omega)
      exact ⟨d, by simp [hd], e⟩
theorem endL_cuts {s : ByteArray} {L : List UInt8} (hs : s.data.toList = L) (f : Int) {P : List UInt8} (hP : EndL P) : ∀ {i : Nat}, i ≤ L.length → L.drop i = P → Cuts s f i [] none := by
  induction hP with
  | nil =>
    intro i hi h
    have hsz : s.size = L.length := by rw [← hs]; simp
    exact .stop (by have := List.drop_eq_nil_iff.1 h; omega)
  | note l =>
    intro i hi h
    exact .note (drop_bt hs h).2.1
  | blank hl ih =>
    intro i hi h
    obtain ⟨h1, h2, h3⟩ := drop_bt hs h
    have hsz : s.size = L.length := by rw [← hs]; simp
    exact .blank h2 (ih (by omega) h3)
/-- Behind a word there is an end. -/
theorem tail_end (t : List Wd) {P : List UInt8} (hP : EndL P) : tailL t ++ P = [] ∨ ∃ c R, tailL t ++ P = c :: R ∧ (c = 32 ∨ c = 59) := by
  cases t with
  | cons x t => exact .inr ⟨32, _, rfl, .inl rfl⟩
  | nil =>
    cases hP with
    | nil => exact .inl rfl
    | note l => exact .inr ⟨59, l, rfl, .inr rfl⟩
    | blank h => exact .inr ⟨32, _, rfl, .inl rfl⟩
theorem extract_list {s : ByteArray} {L M : List UInt8} (hs : s.data.toList = L) {i : Nat} {R : List UInt8} (h : L.drop i = M ++ R) : (s.extract i (i + M.length)).data.toList = M := by
  have : (s.extract i (i + M.length)).data.toList = (L.drop i).take M.length := by
    subst hs
    rw [ByteArray.data_extract, Array.toList_extract]
    simp [List.extract]
  rw [this, h, List.take_left]
theorem bytes_list {a b : ByteArray} (h : a.data.toList = b.data.toList) : a = b := by
  have := bytes_of h
  rw [this]
/-- One word, with what stands behind it. -/
theorem word_cuts {s : ByteArray} {L : List UInt8} (hs : s.data.toList = L) (f : Int) (x : Wd) (hx : okW x = true) {i : Nat} {R : List UInt8} (h : L.drop i = wordL x ++ R) (hR : R = [] ∨ ∃ c R', R = c :: R' ∧ (c = 32 ∨ c = 59)) (hb : i = 0 ∨ bt s (i - 1) = 32) (hi : i ≤ L.length)
    {ws : List Wd} {b : Option Nat} (k : Cuts s f (i + (wordL x).length) ws b) : Cuts s f i (⟨f + i, x.text, x.quoted⟩ :: ws) b := by
  have hsz : s.size = L.length := by rw [← hs]; simp
  obtain ⟨m1, m2, m3⟩ := mid_bt hs _ h
  have hend : bt s (i + (wordL x).length) = -1 ∨ bt s (i + (wordL x).length) = 32 ∨ bt s (i + (wordL x).length) = 59 := by
    rcases hR with rfl | ⟨c, R', rfl, hc⟩
    · exact .inl (bt_end hs m1)
    · have := (drop_bt hs m1).2.1
      rcases hc with rfl | rfl
      · exact .inr (.inl this)
      · exact .inr (.inr this)
  obtain ⟨a, t, q⟩ := x
  cases q with
  | true =>
    have ew : wordL ⟨a, t, true⟩ = 34 :: (t.data.toList ++ [34]) := rfl
    have el : (wordL ⟨a, t, true⟩).length = t.data.toList.length + 2 := by rw [ew]; simp
    rw [ew] at h
    obtain ⟨b0, b1, b2⟩ := drop_bt hs (show L.drop i = 34 :: (t.data.toList ++ ([34] ++ R)) by rw [h]; simp)
    obtain ⟨n1, n2, n3⟩ := mid_bt hs _ b2
    obtain ⟨c0, c1, c2⟩ := drop_bt hs (show L.drop (i + 1 + t.data.toList.length) = 34 :: R by rw [n1]; rfl)
    have hall : t.data.toList.all (fun c => insideI c.toNat) = true := hx
    have hq : QuotedAt s i (i + (wordL ⟨a, t, true⟩).length) := by
      refine ⟨b1, hb, by rw [el]; omega, by rw [el]; omega, fun j h1 h2 => ?_, ?_, ?_⟩
      · rw [el] at h2
        obtain ⟨c, hc, e⟩ := n3 j (by omega) (by omega)
        rw [e]
        exact List.all_eq_true.1 hall c hc
      · rw [el, show i + (t.data.toList.length + 2) - 1 = i + 1 + t.data.toList.length by omega]
        exact c1
      · unfold endsI
        exact decide_eq_true hend
    have ht : t = s.extract (i + 1) (i + (wordL ⟨a, t, true⟩).length - 1) := by
      apply bytes_list
      have := extract_list hs b2
      rw [el, show i + (t.data.toList.length + 2) - 1 = i + 1 + t.data.toList.length by omega, this]
    have := Cuts.quote hq k
    rw [← ht] at this
    exact this
  | false =>
    have ew : wordL ⟨a, t, false⟩ = t.data.toList := rfl
    have hx' : (t.data.toList.all (fun c => plainI c.toNat) && decide (0 < t.size)) = true := hx
    rw [Bool.and_eq_true, decide_eq_true_eq] at hx'
    have hts : t.data.toList.length = t.size := by simp
    rw [ew] at h k m2 m3 hend
    have hp : PlainAt s i (i + t.data.toList.length) := by
      refine ⟨by omega, by omega, fun j h1 h2 => ?_, ?_⟩
      · obtain ⟨c, hc, e⟩ := m3 j h1 h2
        rw [e]
        exact List.all_eq_true.1 hx'.1 c hc
      · rcases hend with e | e | e <;> rw [e] <;> decide
    have ht : t = s.extract i (i + t.data.toList.length) := by
      apply bytes_list
      rw [extract_list hs h]
    have := Cuts.word hp k
    rw [← ht] at this
    exact this
theorem tail_cuts {s : ByteArray} {L : List UInt8} (hs : s.data.toList = L) (f : Int) {P : List UInt8} (hP : EndL P) : ∀ (t : List Wd) {i : Nat}, t.all okW = true → i ≤ L.length → L.drop i = tailL t ++ P → ∃ ws, Cuts s f i ws none ∧ bareW ws = bareW t
  | [], i, _, hi, h => ⟨[], endL_cuts hs f hP hi h, rfl⟩
  | x :: t, i, ha, hi, h => by
    simp only [List.all_cons, Bool.and_eq_true] at ha
    have hsz : s.size = L.length := by rw [← hs]; simp
    obtain ⟨b0, b1, b2⟩ := drop_bt hs (show L.drop i = 32 :: (wordL x ++ (tailL t ++ P)) by rw [h]; simp [tailL])
    obtain ⟨m1, m2, _⟩ := mid_bt hs _ b2
    obtain ⟨ws, h1, h2⟩ := tail_cuts hs f hP t ha.2 (by omega) m1
    refine ⟨_, .blank b1 (word_cuts hs f x ha.1 b2 (tail_end t hP) (.inr (by rw [Nat.add_sub_cancel]; exact b1)) (by omega) h1), ?_⟩
    show _ :: bareW ws = _ :: bareW t
    rw [h2]
/-- A line: blanks, the words, an end. -/
theorem line_cuts (f : Int) {P : List UInt8} (hP : EndL P) (ws : List Wd) (ha : ws.all okW = true) (n : Nat) (s : ByteArray) (hs : s.data.toList = List.replicate n 32 ++ (lineL ws ++ P)) : ∃ ws', Cuts s f 0 ws' none ∧ bareW ws' = bareW ws := by
  obtain ⟨L, hL⟩ : ∃ L, s.data.toList = L := ⟨_, rfl⟩
  have hsz : s.size = L.length := by rw [← hL]; simp
  rw [hL] at hs
  have key : ∀ m, m ≤ n → ∃ ws', Cuts s f (n - m) ws' none ∧ bareW ws' = bareW ws := by
    intro m
    induction m with
    | zero =>
      intro _
      have hd : L.drop n = lineL ws ++ P := by
        have e : (List.replicate n (32 : UInt8)).length = n := by simp
        have := @List.drop_left _ (List.replicate n (32 : UInt8)) (lineL ws ++ P)
        rw [e] at this
        rw [hs, this]
      have hn : n ≤ L.length := by rw [hs]; simp
      rw [Nat.sub_zero]
      cases ws with
      | nil => exact ⟨[], endL_cuts hL f hP hn hd, rfl⟩
      | cons x t =>
        simp only [List.all_cons, Bool.and_eq_true] at ha
        have hd2 : L.drop n = wordL x ++ (tailL t ++ P) := by rw [hd]; simp [lineL]
        obtain ⟨m1, m2, _⟩ := mid_bt hL _ hd2
        obtain ⟨ws, h1, h2⟩ := tail_cuts hL f hP t ha.2 (by omega) m1
        have hbef : n = 0 ∨ bt s (n - 1) = 32 := by
          by_cases h0 : n = 0
          · exact .inl h0
          · right
            have := (mid_bt hL (List.replicate n 32) (i := 0) (by rw [List.drop_zero]; exact hs)).2.2 (n - 1) (by omega) (by simp; omega)
            obtain ⟨c, hc, e⟩ := this
            rw [List.mem_replicate] at hc
            rw [e, hc.2]; rfl
        refine ⟨_, word_cuts hL f x ha.1 hd2 (tail_end t hP) hbef hn h1, ?_⟩
        show _ :: bareW ws = _ :: bareW t
        rw [h2]
    | succ m ih =>
      intro hm
      obtain ⟨ws', h1, h2⟩ := ih (by omega)
      refine ⟨ws', .blank ?_ (by rw [show n - (m + 1) + 1 = n - m by omega]; exact h1), h2⟩
      have := (mid_bt hL (List.replicate n 32) (i := 0) (by rw [List.drop_zero]; exact hs)).2.2 (n - (m + 1)) (by omega) (by simp; omega)
      obtain ⟨c, hc, e⟩ := this
      rw [List.mem_replicate] at hc
      rw [e, hc.2]; rfl
  have := key n (Nat.le_refl _)
  rwa [Nat.sub_self] at this
/-! ### The rows of a text -/
/-- A piece of a text, from one line's beginning to another's, reads as these rows. -/
def Reads (l : List UInt8) (bs : List (List (ByteArray × Bool))) : Prop :=
  ∀ (T : ByteArray) (A R : List UInt8), T.data.toList = A ++ (l ++ R) → ∀ rs2 b, RowsR T (A.length + l.length) rs2 b → ∃ rs1, RowsR T A.length (rs1 ++ rs2) b ∧ bareR rs1 = bs
theorem Reads.nil : Reads [] [] := fun _ _ _ _ _ _ h => ⟨[], h, rfl⟩
theorem Reads.app {l1 l2 : List UInt8} {b1 b2} (h1 : Reads l1 b1) (h2 : Reads l2 b2) : Reads (l1 ++ l2) (b1 ++ b2) := by
  intro T A R hT rs2 b h
  obtain ⟨r2, k2, e2⟩ := h2 T (A ++ l1) R (by rw [hT]; simp) rs2 b (by rw [List.length_append] at h ⊢; rwa [Nat.add_assoc])
  obtain ⟨r1, k1, e1⟩ := h1 T A (l2 ++ R) (by rw [hT]; simp) (r2 ++ rs2) b (by rw [List.length_append] at k2; exact k2)
  exact ⟨r1 ++ r2, by rw [List.append_assoc]; exact k1, by unfold bareR at *; rw [List.map_append, e1, e2]⟩
/-- A line and its end. -/
theorem Reads.line {l : List UInt8} (hn : ∀ c ∈ l, c ≠ 10) (hl : l.length ≤ 1000) {bs : List (ByteArray × Bool)} (h : ∀ (f : Int) (s : ByteArray), s.data.toList = l → ∃ ws, Cuts s f 0 ws none ∧ bareW ws = bs) : Reads (l ++ [10]) (if bs = [] then [] else [bs]) := by
  intro T A R hT rs2 b k
  have hd : T.data.toList.drop A.length = l ++ (10 :: R) := by rw [hT, List.drop_left]; simp
  obtain ⟨m1, m2, m3⟩ := mid_bt rfl l hd
  obtain ⟨n1, n2, n3⟩ := drop_bt rfl m1
  have hline : LineAt T A.length (A.length + l.length) := by
    refine ⟨by omega, by omega, fun m h1 h2 e => ?_, .inr n2⟩
    obtain ⟨c, hc, e2⟩ := m3 m h1 h2
    rw [e2] at e
    refine hn c hc (UInt8.toNat_inj.1 ?_)
    show c.toNat = 10
    omega
  have hk : A.length + (l ++ [10]).length = A.length + l.length + 1 := by simp; omega
  rw [hk] at k
  obtain ⟨ws, c1, c2⟩ := h A.length (T.extract A.length (A.length + l.length)) (extract_list rfl hd)
  by_cases hws : ws = []
  · subst hws
    obtain rfl : bs = [] := c2.symm
    exact ⟨[], .skip hline (by omega) c1 k, rfl⟩
  · have hbs : bs ≠ [] := by
      rintro rfl
      exact hws (by simpa [bareW] using c2)
    rw [if_neg hbs]
    exact ⟨[⟨A.length, ws⟩], .row hline (by omega) c1 hws k, by simp [bareR, c2]⟩
/-- A whole text. -/
theorem Reads.whole {l : List UInt8} {bs} (h : Reads l bs) (hl : l.length ≤ 20000) {rs : List Rw} {b : Option (Int × Int)} (k : RowsRes ⟨l.toArray⟩ rs b) : b = none ∧ bareR rs = bs := by
  have hsz : (⟨l.toArray⟩ : ByteArray).size = l.length := by show l.toArray.size = _; simp
  have hlast : RowsR ⟨l.toArray⟩ l.length [] none := by
    refine .skip (t := l.length) ⟨by omega, by omega, fun m h1 h2 => by omega, .inl hsz.symm⟩ (by omega) (.stop ?_) (.stop (by omega))
    rw [ByteArray.size_extract]; omega
  obtain ⟨rs1, k1, e1⟩ := h ⟨l.toArray⟩ [] [] (by simp) [] none (by simpa using hlast)
  rw [List.append_nil] at k1
  obtain ⟨r1, r2⟩ := k.one (show RowsRes ⟨l.toArray⟩ rs1 none from .inr ⟨by omega, rs1, k1, by simp⟩)
  rw [r1]
  exact ⟨r2, e1⟩
theorem word_no10 (x : Wd) (hx : okW x = true) : ∀ c ∈ wordL x, c ≠ 10 := by
  obtain ⟨a, t, q⟩ := x
  intro c hc e
  subst e
  cases q with
  | true =>
    have hall : t.data.toList.all (fun c => insideI c.toNat) = true := hx
    have hc' : (10 : UInt8) ∈ 34 :: (t.data.toList ++ [34]) := hc
    simp only [List.mem_cons, List.mem_append, List.not_mem_nil, or_false] at hc'
    rcases hc' with e | h | e
    · revert e; decide
    · exact absurd (List.all_eq_true.1 hall _ h) (by decide)
    · revert e; decide
  | false =>
    have hx' : (t.data.toList.all (fun c => plainI c.toNat) && decide (0 < t.size)) = true := hx
    rw [Bool.and_eq_true] at hx'
    exact absurd (List.all_eq_true.1 hx'.1 _ hc) (by decide)
theorem tail_no10 : ∀ (t : List Wd), t.all okW = true → ∀ c ∈ tailL t, c ≠ 10
  | [], _, c, hc => by simp [tailL] at hc
  | x :: t, ha, c, hc => by
    simp only [List.all_cons, Bool.and_eq_true] at ha
    simp only [tailL, List.mem_cons, List.mem_append] at hc
    rcases hc with rfl | hc | hc
    · decide
    · exact word_no10 x ha.1 c hc
    · exact tail_no10 t ha.2 c hc
theorem line_no10 (ws : List Wd) (ha : ws.all okW = true) : ∀ c ∈ lineL ws, c ≠ 10 := by
  cases ws with
  | nil => intro c hc; simp [lineL] at hc
  | cons x t =>
    simp only [List.all_cons, Bool.and_eq_true] at ha
    intro c hc
    simp only [lineL, List.mem_append] at hc
    rcases hc with hc | hc
    · exact word_no10 x ha.1 c hc
    · exact tail_no10 t ha.2 c hc
/-- A decorated line of words. -/
theorem Reads.row (n : Nat) (ws : List Wd) (ha : ws.all okW = true) {P : List UInt8} (hP : EndL P) (hp : ∀ c ∈ P, c ≠ 10) (hl : n + (lineL ws).length + P.length ≤ 1000) :
    Reads (List.replicate n 32 ++ (lineL ws ++ P) ++ [10]) (if bareW ws = [] then [] else [bareW ws]) := by
  refine Reads.line (fun c hc => ?_) (by simp; omega) (fun f s hs => line_cuts f hP ws ha n s hs)
  simp only [List.mem_append] at hc
  rcases hc with hc | hc | hc
  · rw [List.mem_replicate] at hc; rw [hc.2]; decide
  · exact line_no10 ws ha c hc
  · exact hp c hc
theorem rowE_zero {ws : List Wd} (h : rowE ws = 0) : ws ≠ [] ∧ ws.all okW = true ∧ (lineL ws).length ≤ 1000 := by
  unfold rowE at h
  split at h
  · cases h
  · rename_i h1
    split at h
    · cases h
    · exact ⟨fun e => h1 (.inl e), by cases e : ws.all okW with | true => rfl | false => exact absurd (.inr e) h1, by omega⟩
theorem bareW_nil {ws : List Wd} (h : bareW ws = []) : ws = [] := by simpa [bareW] using h
/-- The body of rows reads as the rows. -/
theorem Reads.body : ∀ (rs : List Rw), (∀ r ∈ rs, rowE r.words = 0) → Reads (bodyL rs) (bareR rs)
  | [], _ => Reads.nil
  | r :: t, h => by
    obtain ⟨h1, h2, h3⟩ := rowE_zero (h r (by simp))
    have e := Reads.row 0 r.words h2 EndL.nil (by simp) (by simp; omega)
    rw [if_neg (fun x => h1 (bareW_nil x))] at e
    have := Reads.app e (Reads.body t (fun x hx => h x (by simp [hx])))
    simpa [bodyL, bareR] using this
end Go.Proofs.YtdmedealdhadcaaGreatDoor

namespace Go.Proofs.YtdmedealdhadcaaGreatDoor
open Go.RowKit
theorem extract_all {s : ByteArray} {f : UInt8 → Bool} (i k : Nat) (hk : k ≤ s.size) (h : ∀ j, (hj : j < s.size) → i ≤ j → j < k → f s[j] = true) : (s.extract i k).data.toList.all f = true := by
  rw [List.all_eq_true]
  intro c hc
  obtain ⟨m, hm, e⟩ := List.getElem_of_mem hc
  have hm' : m < min (k - i) (s.size - i) := by simpa using hm
  have hj : i + m < s.size := by omega
  have e2 : c = s[i + m] := by
    rw [← e]
    simp [ByteArray.data_extract, ByteArray.getElem_eq_getElem_data]
  rw [e2]
  exact h (i + m) hj (by omega) (by omega)
/-- Words of a line can be written, and are no longer than the line. -/
theorem cuts_ok {s : ByteArray} {f : Int} {i : Nat} {ws : List Wd} {b : Option Nat} (h : Cuts s f i ws b) : ws.all okW = true ∧ ws.length ≤ s.size - i ∧ ∀ x ∈ ws, x.text.size ≤ s.size := by
  induction h with
  | stop h => exact ⟨rfl, by simp, by simp⟩
  | note h => exact ⟨rfl, by simp, by simp⟩
  | blank h t ih => exact ⟨ih.1, by have := ih.2.1; omega, ih.2.2⟩
  | quote h t ih =>
    rename_i i k ws b
    have l1 := h.long
    have l2 := h.fits
    refine ⟨?_, by have := ih.2.1; simp; omega, fun x hx => ?_⟩
    · simp only [List.all_cons, Bool.and_eq_true]
      refine ⟨?_, ih.1⟩
      show (s.extract (i + 1) (k - 1)).data.toList.all (fun c => insideI c.toNat) = true
      refine extract_all _ _ (by omega) fun j hj h1 h2 => ?_
      have := h.inside j (by omega) (by omega)
      rwa [bt_in hj] at this
    · rcases List.mem_cons.1 hx with rfl | hx
      · show (s.extract (i + 1) (k - 1)).size ≤ _
        rw [ByteArray.size_extract]; omega
      · exact ih.2.2 x hx
  | word h t ih =>
    rename_i i k ws b
    have l1 := h.long
    have l2 := h.fits
    refine ⟨?_, by have := ih.2.1; simp; omega, fun x hx => ?_⟩
    · simp only [List.all_cons, Bool.and_eq_true]
      refine ⟨?_, ih.1⟩
      show ((s.extract i k).data.toList.all (fun c => plainI c.toNat) && decide (0 < (s.extract i k).size)) = true
      rw [Bool.and_eq_true]
      refine ⟨extract_all _ _ (by omega) fun j hj h1 h2 => ?_, decide_eq_true (by rw [ByteArray.size_extract]; omega)⟩
      have := h.plain j (by omega) (by omega)
      rwa [bt_in hj] at this
    · rcases List.mem_cons.1 hx with rfl | hx
      · show (s.extract i k).size ≤ _
        rw [ByteArray.size_extract]; omega
      · exact ih.2.2 x hx
  | badq h q => exact ⟨rfl, by simp, by simp⟩
  | bad h0 => exact ⟨rfl, by simp, by simp⟩
/-- Rows of a text can be written one by one, and are no more than the text. -/
theorem rows_ok {s : ByteArray} {i : Nat} {rs : List Rw} {b : Option (Int × Int)} (h : RowsR s i rs b) : rs.length ≤ s.size + 1 - i ∧ ∀ r ∈ rs, r.words ≠ [] ∧ r.words.all okW = true ∧ r.words.length ≤ s.size ∧ ∀ x ∈ r.words, x.text.size ≤ s.size := by
  induction h with
  | stop h => exact ⟨by simp, by simp⟩
  | long h hl => exact ⟨by simp, by simp⟩
  | bad h hl c => exact ⟨by simp, by simp⟩
  | skip h hl c r ih => exact ⟨by have := ih.1; have := h.le; omega, ih.2⟩
  | row h hl c hne r ih =>
    rename_i i t ws rs b
    have l1 := h.le
    have l2 := h.fits
    refine ⟨by have := ih.1; simp; omega, fun x hx => ?_⟩
    rcases List.mem_cons.1 hx with rfl | hx
    · obtain ⟨c1, c2, c3⟩ := cuts_ok c
      have e : (s.extract i t).size = t - i := by rw [ByteArray.size_extract]; omega
      rw [e] at c2 c3
      exact ⟨hne, c1, by show ws.length ≤ _; omega, fun x hx => by have := c3 x hx; omega⟩
    · exact ih.2 x hx
/-- Rows that can be written and are not many. -/
def Good (rs : List Rw) : Prop := Modest rs ∧ ∀ r ∈ rs, rowE r.words ≠ 3
theorem RowsRes.good {s : ByteArray} {rs : List Rw} {b : Option (Int × Int)} (h : RowsRes s rs b) (hs : s.size ≤ 3000) : Good rs := by
  have nil : Good [] := ⟨⟨by simp, by simp⟩, by simp⟩
  rcases h with ⟨_, rfl, _⟩ | ⟨_, rs', hr, rfl⟩
  · exact nil
  · split
    · obtain ⟨h1, h2⟩ := rows_ok hr
      refine ⟨⟨by omega, fun r hr => ⟨by have := (h2 r hr).2.2.1; omega, fun x hx => by have := (h2 r hr).2.2.2 x hx; omega⟩⟩, fun r hr e => ?_⟩
      obtain ⟨k1, k2, _⟩ := h2 r hr
      unfold rowE at e
      rw [if_neg (by rintro (x | x); exact k1 x; rw [k2] at x; cases x)] at e
      split at e <;> cases e
    · exact nil
/-- What is written is read again. -/
theorem back_rows {rs : List Rw} (h : ∀ r ∈ rs, rowE r.words ≠ 3) (h0 : (textG [] rs).2 = 0) {rs' : List Rw} {b : Option (Int × Int)} (k : RowsRes ⟨(textG [] rs).1.toArray⟩ rs' b) : b = none ∧ bareR rs' = bareR rs ∧ (textG [] rs).1.length ≤ 20000 := by
  rcases textG_parts rs [] h (by simp) with e | ⟨_, e2, e3, e4⟩
  · rw [h0] at e; cases e
  · rw [List.nil_append] at e2 e3
    rw [e2] at k ⊢
    obtain ⟨k1, k2⟩ := (Reads.body rs e4).whole e3 k
    exact ⟨k1, k2, e3⟩
end Go.Proofs.YtdmedealdhadcaaGreatDoor
