/- Words of a line: what is asked, and what the reference's ends and quoted answer, for every line. -/
import Derived.Test.YtdjkgnganbeonaaDoorWOne
namespace Go.Proofs.YtdjkgnganbeonaaDoor
open Go.RowKit

/-- The byte at a place, -1 behind the end. -/
def bt (s : ByteArray) (j : Nat) : Int := if h : j < s.size then (s[j].toNat : Int) else -1
theorem bt_in {s : ByteArray} {j : Nat} (h : j < s.size) : bt s j = (s[j].toNat : Int) := by unfold bt; rw [dif_pos h]
theorem bt_out {s : ByteArray} {j : Nat} (h : ¬ j < s.size) : bt s j = -1 := by unfold bt; rw [dif_neg h]
theorem bt_lt {s : ByteArray} {j : Nat} (h : 0 ≤ bt s j) : j < s.size := by
  apply Classical.byContradiction; intro hx
  rw [bt_out hx] at h; omega

structure Wd where
  at_ : Int
  text : ByteArray
  quoted : Bool

def endsI (c : Int) : Bool := decide (c = -1 ∨ c = 32 ∨ c = 59)

/-- A quoted word from i to k, k excluded. -/
structure QuotedAt (s : ByteArray) (i k : Nat) : Prop where
  first : bt s i = 34
  before : i = 0 ∨ bt s (i - 1) = 32
  long : i + 2 ≤ k
  fits : k ≤ s.size
  inside : ∀ j, i < j → j < k - 1 → insideI (bt s j) = true
  last : bt s (k - 1) = 34
  ends : endsI (bt s k) = true

/-- A plain word from i to k, k excluded. -/
structure PlainAt (s : ByteArray) (i k : Nat) : Prop where
  long : i < k
  fits : k ≤ s.size
  plain : ∀ j, i ≤ j → j < k → plainI (bt s j) = true
  ends : plainI (bt s k) = false

/-- From a place of a line on: its words, and where the first thing is wrong. -/
inductive Cuts (s : ByteArray) (from_ : Int) : Nat → List Wd → Option Nat → Prop
  | stop {i : Nat} (h : i = s.size) : Cuts s from_ i [] none
  | note {i : Nat} (h : bt s i = 59) : Cuts s from_ i [] none
  | blank {i : Nat} {ws b} (h : bt s i = 32) (t : Cuts s from_ (i + 1) ws b) : Cuts s from_ i ws b
  | quote {i k : Nat} {ws b} (h : QuotedAt s i k) (t : Cuts s from_ k ws b) : Cuts s from_ i (⟨from_ + i, s.extract (i + 1) (k - 1), true⟩ :: ws) b
  | word {i k : Nat} {ws b} (h : PlainAt s i k) (t : Cuts s from_ k ws b) : Cuts s from_ i (⟨from_ + i, s.extract i k, false⟩ :: ws) b
  | badq {i : Nat} (h : bt s i = 34) (q : ∀ k, ¬ QuotedAt s i k) : Cuts s from_ i [] (some i)
  | bad {i : Nat} (h : 0 ≤ bt s i) (h1 : bt s i ≠ 59) (h2 : bt s i ≠ 32) (h3 : bt s i ≠ 34) (h4 : plainI (bt s i) = false) : Cuts s from_ i [] (some i)

theorem inside34 : insideI 34 = false := by decide
theorem quoted_one {s : ByteArray} {i k k' : Nat} (h : QuotedAt s i k) (h' : QuotedAt s i k') : k = k' := by
  have l1 := h.long
  have l2 := h'.long
  rcases Nat.lt_trichotomy k k' with x | x | x
  · have := h'.inside (k - 1) (by omega) (by omega)
    rw [h.last, inside34] at this; cases this
  · exact x
  · have := h.inside (k' - 1) (by omega) (by omega)
    rw [h'.last, inside34] at this; cases this
theorem plain_one {s : ByteArray} {i k k' : Nat} (h : PlainAt s i k) (h' : PlainAt s i k') : k = k' := by
  have l1 := h.long
  have l2 := h'.long
  rcases Nat.lt_trichotomy k k' with x | x | x
  · have := h'.plain k (by omega) x
    rw [h.ends] at this; cases this
  · exact x
  · have := h.plain k' (by omega) x
    rw [h'.ends] at this; cases this
theorem plain_first {s : ByteArray} {i k : Nat} (h : PlainAt s i k) : plainI (bt s i) = true := h.plain i (Nat.le_refl _) h.long
theorem plainI_iff {c : Int} : plainI c = true ↔ 33 ≤ c ∧ c ≤ 126 ∧ c ≠ 59 ∧ c ≠ 34 := by unfold plainI; exact decide_eq_true_iff

/-- There is one answer. -/
theorem Cuts.one {s : ByteArray} {f : Int} {i : Nat} {ws : List Wd} {b : Option Nat} (h : Cuts s f i ws b) : ∀ {ws' b'}, Cuts s f i ws' b' → ws = ws' ∧ b = b' := by
  induction h with
  | stop h =>
    rename_i i
    have hb : bt s i = -1 := bt_out (by omega)
    intro ws' b' k
    cases k with
    | stop _ => exact ⟨rfl, rfl⟩
    | note h1 => omega
    | blank h1 t => omega
    | quote h1 t => have := h1.first; omega
    | word h1 t => have := plainI_iff.1 (plain_first h1); omega
    | badq h1 q => omega
    | bad h0 => omega
  | note h =>
    rename_i i
    intro ws' b' k
    cases k with
    | stop h1 => have : bt s i = -1 := bt_out (by omega); omega
    | note _ => exact ⟨rfl, rfl⟩
    | blank h1 t => omega
    | quote h1 t => have := h1.first; omega
    | word h1 t => have := plainI_iff.1 (plain_first h1); omega
    | badq h1 q => omega
    | bad h0 h1 => exact absurd h h1
  | blank h t ih =>
    rename_i i _ _
    intro ws' b' k
    cases k with
    | stop h1 => have : bt s i = -1 := bt_out (by omega); omega
    | note h1 => omega
    | blank h1 t => exact ih t
    | quote h1 t => have := h1.first; omega
    | word h1 t => have := plainI_iff.1 (plain_first h1); omega
    | badq h1 q => omega
    | bad h0 h1 h2 => exact absurd h h2
  | quote h t ih =>
    rename_i i _ _ _
    have hf := h.first
    intro ws' b' k
    cases k with
    | stop h1 => have : bt s i = -1 := bt_out (by omega); omega
    | note h1 => omega
    | blank h1 t => omega
    | quote h1 t1 =>
      obtain rfl := quoted_one h h1
      obtain ⟨rfl, rfl⟩ := ih t1
      exact ⟨rfl, rfl⟩
    | word h1 t => have := plainI_iff.1 (plain_first h1); omega
    | badq h1 q => exact absurd h (q _)
    | bad h0 h1 h2 h3 => exact absurd hf h3
  | word h t ih =>
    rename_i i _ _ _
    have hf := plainI_iff.1 (plain_first h)
    intro ws' b' k
    cases k with
    | stop h1 => have : bt s i = -1 := bt_out (by omega); omega
    | note h1 => omega
    | blank h1 t => omega
    | quote h1 t1 => have := h1.first; omega
    | word h1 t1 =>
      obtain rfl := plain_one h h1
      obtain ⟨rfl, rfl⟩ := ih t1
      exact ⟨rfl, rfl⟩
    | badq h1 q => omega
    | bad h0 h1 h2 h3 h4 => rw [plain_first h] at h4; cases h4
  | badq h q =>
    rename_i i
    intro ws' b' k
    cases k with
    | stop h1 => have : bt s i = -1 := bt_out (by omega); omega
    | note h1 => omega
    | blank h1 t => omega
    | quote h1 t => exact absurd h1 (q _)
    | word h1 t => have := plainI_iff.1 (plain_first h1); omega
    | badq _ _ => exact ⟨rfl, rfl⟩
    | bad h0 h1 h2 h3 => exact absurd h h3
  | bad h0 h1 h2 h3 h4 =>
    rename_i i
    intro ws' b' k
    cases k with
    | stop h => have : bt s i = -1 := bt_out (by omega); omega
    | note h => exact absurd h h1
    | blank h t => exact absurd h h2
    | quote h t => exact absurd h.first h3
    | word h t => rw [plain_first h] at h4; cases h4
    | badq h q => exact absurd h h3
    | bad _ _ _ _ _ => exact ⟨rfl, rfl⟩

set_option maxHeartbeats 400000 in
theorem rends_any (s : ByteArray) (k : Nat) (w : World) (hk : k ≤ s.size) : Calls Tryd.prog 68 #[.string s, .int .i64 k] w fun e w' => e = .returned (.bool (endsI (bt s k))) ∧ w = w' := by
  by_cases h : k < s.size
  · have e0 : ((k : Int) == (s.size : Int)) = false := by rw [beq_eq_false_iff_ne]; omega
    have hb := bt_in h
    by_cases h1 : ((s[k].toNat : Int) == 32) = true
    · have hr := Lib.hid (show endsI (bt s k) = true by rw [hb]; simp at h1; unfold endsI; simp [h1])
      clear hb
      go_enter Tryd.func68, Tryd.ntmps68
      go_wp2_with fail
      go_ret
      rw [hr.out]; exact ⟨rfl, rfl⟩
    · have h1' : ((s[k].toNat : Int) == 32) = false := by simpa using h1
      obtain ⟨b, h2⟩ : ∃ b, ((s[k].toNat : Int) == 59) = b := ⟨_, rfl⟩
      have hr := Lib.hid (show endsI (bt s k) = b by
        rw [hb, ← h2]
        have q1 : ¬ (s[k].toNat : Int) = 32 := by simpa using h1
        unfold endsI
        by_cases q2 : (s[k].toNat : Int) = 59
        · rw [q2]; rfl
        · have q3 : ¬ (s[k].toNat : Int) = -1 := by omega
          rw [decide_eq_false (by omega)]
          exact (beq_eq_false_iff_ne.2 q2).symm)
      clear hb h1
      go_enter Tryd.func68, Tryd.ntmps68
      go_wp2_with fail
      go_ret
      rw [hr.out]; exact ⟨rfl, rfl⟩
  · obtain rfl : k = s.size := by omega
    have hr := Lib.hid (show endsI (bt s s.size) = true by rw [bt_out h]; rfl)
    go_enter Tryd.func68, Tryd.ntmps68
    go_wp2_with fail
    go_ret
    rw [hr.out]; exact ⟨rfl, rfl⟩

def QuotedRes (s : ByteArray) (i : Nat) (r : Int) : Prop := (∃ k : Nat, r = k ∧ QuotedAt s i k) ∨ (r = -1 ∧ ∀ k, ¬ QuotedAt s i k)

theorem quoted_no_before {s : ByteArray} {i : Nat} (h0 : 0 < i) (h : bt s (i - 1) ≠ 32) : QuotedRes s i (-1) :=
  .inr ⟨rfl, fun k q => by rcases q.before with x | x; omega; exact h x⟩
/-- Behind the bytes that may stand inside: the end of the line, or a byte that may not, decides. -/
theorem quoted_end {s : ByteArray} {i j : Nat} (hi : i < j) (hin : ∀ m, i < m → m < j → insideI (bt s m) = true) (hj : insideI (bt s j) = false) (k : Nat) (q : QuotedAt s i k) : k = j + 1 := by
  have l := q.long
  rcases Nat.lt_trichotomy (k - 1) j with x | x | x
  · have := hin (k - 1) (by omega) x
    rw [q.last, inside34] at this; cases this
  · omega
  · have := q.inside j hi x
    rw [hj] at this; cases this

set_option maxHeartbeats 2000000 in
theorem rquoted_any (s : ByteArray) (i : Nat) (w : World) (hs : s.size ≤ maxLen) (hi : bt s i = 34) : Calls Tryd.prog 51 #[.string s, .int .i64 i] w fun e w' => (∃ r, e = .returned (.int .i64 r) ∧ QuotedRes s i r) ∧ w = w' := by
  have hlt := bt_lt (show 0 ≤ bt s i by omega)
  have HI := Lib.hid hi
  clear hi
  unfold maxLen at hs
  by_cases hb : 0 < i ∧ bt s (i - 1) ≠ 32
  · obtain ⟨h0, h1⟩ := hb
    have h2 := bt_in (s := s) (j := i - 1) (by omega)
    have h3 : ((s[i - 1].toNat : Int) != 32) = true := by rw [← h2]; simpa using h1
    have hfin := Lib.hid (quoted_no_before h0 h1)
    have h0' : 0 < (i : Int) := by omega
    have hw : IntKind.i64.wrap ((i : Int) - 1) = ((i - 1 : Nat) : Int) := by rw [IntWalk.i64_in _ (by omega)]; omega
    have hlt2 : i - 1 < s.size := by omega
    clear h1 h2
    go_enter Tryd.func51, Tryd.ntmps51
    go_wp2_with fail
    go_ret
    exact ⟨⟨_, rfl, hfin.out⟩, rfl⟩
  · have hbef := Lib.hid (show i = 0 ∨ bt s (i - 1) = 32 by
      by_cases h0 : 0 < i
      · right; exact Classical.byContradiction fun h1 => hb ⟨h0, h1⟩
      · left; omega)
    have part : (¬ 0 < (i : Int)) ∨ (0 < (i : Int) ∧ IntKind.i64.wrap ((i : Int) - 1) = ((i - 1 : Nat) : Int) ∧ ∃ h : i - 1 < s.size, ((s[i - 1].toNat : Int) != 32) = false) := by
      by_cases h0 : 0 < i
      · right
        have h1 : bt s (i - 1) = 32 := Classical.byContradiction fun h1 => hb ⟨h0, h1⟩
        have h2 := bt_in (s := s) (j := i - 1) (by omega)
        exact ⟨by omega, by rw [IntWalk.i64_in _ (by omega)]; omega, by omega, by rw [← h2, h1]; rfl⟩
      · left; omega
    clear hb
    rcases part with h0 | ⟨h0, hw, hlt2, h3⟩
    all_goals
      go_enter Tryd.func51, Tryd.ntmps51
      go_wp2_with fail
      go_loop [5] (fun x => ∃ j : Nat, i < j ∧ j ≤ s.size ∧ x = .int .i64 j ∧ Hid (∀ m, i < m → m < j → insideI (bt s m) = true)) (fun x => s.size - (intOf x).toNat)
      case atStart => exact ⟨i + 1, by omega, by omega, by go_num, Lib.hid (fun m a b => by omega)⟩
      case round =>
        obtain ⟨j, hij, hj, rfl, hin⟩ := hrel
        by_cases hlj : j < s.size
        · have hbj := Lib.hid (bt_in hlj)
          by_cases hI : insideI (s[j].toNat : Int) = true
          · have hnew := Lib.hid (show ∀ m, i < m → m < j + 1 → insideI (bt s m) = true by
              intro m a b
              by_cases hm : m = j
              · rw [hm, hbj.out]; exact hI
              · exact hin.out m a (by omega))
            clear hin hbj
            go_wp2_with fail
            refine (rinside_c _ _).mono ?_
            rintro e w1 ⟨rfl, rfl⟩
            go_wp2_with fail
            go_round
            case rel => exact ⟨j + 1, by omega, by omega, by go_num, hnew⟩
            case measure => simp [intOf]; omega
          · have hI' : insideI (s[j].toNat : Int) = false := by simpa using hI
            have hlast := Lib.hid (fun k q => quoted_end hij hin.out (by rw [hbj.out]; exact hI') k q)
            clear hI
            by_cases hq : (s[j].toNat : Int) = 34
            · have hq' : ((s[j].toNat : Int) != 34) = false := by simpa using hq
              have hqb := Lib.hid (show bt s j = 34 by rw [hbj.out]; exact hq)
              clear hq
              obtain ⟨b, hbE⟩ : ∃ b, endsI (bt s (j + 1)) = b := ⟨_, rfl⟩
              have EN := Lib.hid (fun W => rends_any s (j + 1) W (by omega))
              rw [hbE] at EN
              cases b with
              | true =>
                have hfin := Lib.hid (show QuotedRes s i ((j : Int) + 1) from .inl ⟨j + 1, by omega, HI.out, hbef.out, by omega, by omega, fun m a b => hin.out m a (by omega), by simpa using hqb.out, hbE⟩)
                clear hbE hin hlast hqb hbj
                go_wp2_with fail
                refine (rinside_c _ _).mono ?_
                rintro e w1 ⟨rfl, rfl⟩
                go_wp2_with fail
                refine (EN.out _).mono ?_
                rintro e w1 ⟨rfl, rfl⟩
                go_wp2_with fail
                go_ret
                exact ⟨⟨_, rfl, hfin.out⟩, rfl⟩
              | false =>
                have hfin := Lib.hid (show QuotedRes s i (-1) from .inr ⟨rfl, fun k q => by
                  obtain rfl := hlast.out k q
                  have := q.ends
                  rw [hbE] at this; cases this⟩)
                clear hbE hin hlast hqb hbj
                go_wp2_with fail
                refine (rinside_c _ _).mono ?_
                rintro e w1 ⟨rfl, rfl⟩
                go_wp2_with fail
                refine (EN.out _).mono ?_
                rintro e w1 ⟨rfl, rfl⟩
                go_wp2_with fail
                go_ret
                exact ⟨⟨_, rfl, hfin.out⟩, rfl⟩
            · have hq' : ((s[j].toNat : Int) != 34) = true := by simpa using hq
              have hfin := Lib.hid (show QuotedRes s i (-1) from .inr ⟨rfl, fun k q => by
                obtain rfl := hlast.out k q
                have := q.last
                rw [Nat.add_sub_cancel, hbj.out] at this
                exact hq this⟩)
              clear hq hin hlast hbj
              go_wp2_with fail
              refine (rinside_c _ _).mono ?_
              rintro e w1 ⟨rfl, rfl⟩
              go_wp2_with fail
              go_ret
              exact ⟨⟨_, rfl, hfin.out⟩, rfl⟩
        · obtain rfl : j = s.size := by omega
          have hfin := Lib.hid (show QuotedRes s i (-1) from .inr ⟨rfl, fun k q => by
            have := quoted_end hij hin.out (by rw [bt_out hlj]; rfl) k q
            have := q.fits
            omega⟩)
          clear hin
          go_wp2_with fail
          go_ret
          exact ⟨⟨_, rfl, hfin.out⟩, rfl⟩

end Go.Proofs.YtdjkgnganbeonaaDoor
