/- Plain facts: the text of a time is read back, and what is read has its text. -/
import Derived.Test.YtjgkliiofechfaaDoorParse
import Derived.Test.YtjgkliiofechfaaDoorShelf
namespace Go.Proofs.YtjgkliiofechfaaDoor

theorem dig_small {u : Nat} (h : u < 10) : Lib.decDigits u = [UInt8.ofNat (48 + u)] := by rw [Lib.decDigits, dif_pos h]
theorem dig_big {u : Nat} (h : ¬ u < 10) : Lib.decDigits u = Lib.decDigits (u / 10) ++ [UInt8.ofNat (48 + u % 10)] := by rw [Lib.decDigits, dif_neg h]

theorem dig_ne (u : Nat) : 0 < (Lib.decDigits u).length := by
  by_cases h : u < 10
  · rw [dig_small h]; simp
  · rw [dig_big h]; simp

theorem dig_len (k : Nat) : ∀ u, u < 10 ^ (k + 1) → (Lib.decDigits u).length ≤ k + 1 := by
  induction k with
  | zero => intro u h; rw [dig_small (by simpa using h)]; simp
  | succ k ih =>
    intro u h
    by_cases h10 : u < 10
    · rw [dig_small h10]; simp
    · rw [dig_big h10, List.length_append]
      have := ih (u / 10) (by rw [Nat.pow_succ] at h; omega)
      simp; omega

theorem byte_of {k : Nat} (h : k < 10) : (UInt8.ofNat (48 + k)).toNat = 48 + k := by
  rw [UInt8.toNat_ofNat']; omega

/-- The digits of a number are read as this number. -/
theorem nums_dig (f : Option Int) : ∀ (u : Nat), u ≤ 1099511627776 → ∀ rest, numsL (Lib.decDigits u ++ rest) 0 0 f = numsL rest (u : Int) ((Lib.decDigits u).length : Int) f := by
  intro u
  induction u using Nat.strongRecOn with
  | ind u ih =>
    intro hu rest
    by_cases h : u < 10
    · have b := byte_of h
      rw [dig_small h]
      show numsL (UInt8.ofNat (48 + u) :: rest) 0 0 f = _
      rw [numsL_digit (by omega) (by omega) (.inl rfl), if_neg (by omega)]
      congr 1
      rw [b]; omega
    · have b := byte_of (Nat.mod_lt u (show 0 < 10 by omega))
      rw [dig_big h, List.append_assoc, ih (u / 10) (by omega) (by omega)]
      show numsL (UInt8.ofNat (48 + u % 10) :: rest) _ _ f = _
      rw [numsL_digit (by omega) (by omega) (.inr (by omega)), if_neg (by omega)]
      congr 1
      · rw [b]; omega
      · simp

/-- The text of a time. -/
def textL (n d : Int) : List UInt8 := if 1 < d then Lib.decDigits n.toNat ++ 47 :: Lib.decDigits d.toNat else Lib.decDigits n.toNat

theorem parse_text {n d : Int} (h : Valid n d) : parseV (textL n d) = (n, d, 0) := by
  have hn := h.n0
  have hn1 := h.n1
  have hd := h.d0
  have hd1 := h.d1
  have hc := chk_valid h
  unfold textL
  by_cases k : 1 < d
  · rw [if_pos k]
    have e : numsL (Lib.decDigits n.toNat ++ 47 :: Lib.decDigits d.toNat) 0 0 none = some (some n, d) := by
      rw [nums_dig none n.toNat (by omega), numsL_cut (by rfl) (by have := dig_ne n.toNat; omega)]
      have := nums_dig (some (n.toNat : Int)) d.toNat (by omega) []
      rw [List.append_nil] at this
      rw [this]
      show (if _ then _ else _) = _
      rw [if_neg (by have := dig_ne d.toNat; omega)]
      rw [Int.toNat_of_nonneg hn, Int.toNat_of_nonneg (by omega)]
    show (match numsL _ 0 0 none with | none => _ | some (none, n) => _ | some (some a, n) => _) = _
    rw [e]
    show finP true n d = _
    rw [finP_two (by omega) (by omega) (by omega), if_pos hc]
  · rw [if_neg k]
    obtain rfl : d = 1 := by omega
    have e : numsL (Lib.decDigits n.toNat) 0 0 none = some (none, n) := by
      have := nums_dig none n.toNat (by omega) []
      rw [List.append_nil] at this
      rw [this]
      show (if _ then _ else _) = _
      rw [if_neg (by have := dig_ne n.toNat; omega), Int.toNat_of_nonneg hn]
    show (match numsL _ 0 0 none with | none => _ | some (none, n) => _ | some (some a, n) => _) = _
    rw [e]
    show finP false n 1 = _
    rw [finP_one (by omega) (by omega), if_pos hc]

/-- What has been read so far. -/
def Pre (p : List UInt8) (n dg : Int) : Prop := (dg = 0 ∧ n = 0 ∧ p = []) ∨ (0 < dg ∧ 0 ≤ n ∧ p = Lib.decDigits n.toNat)

theorem pre_step {p : List UInt8} {n dg : Int} {c : UInt8} (h : Pre p n dg) (h1 : 48 ≤ c.toNat) (h2 : c.toNat ≤ 57) (h3 : dg = 0 ∨ 0 < n) : Pre (p ++ [c]) (n * 10 + ((c.toNat : Int) - 48)) (dg + 1) := by
  have hc : UInt8.ofNat (48 + (c.toNat - 48)) = c := by
    apply UInt8.toNat_inj.1
    rw [byte_of (by omega)]; omega
  rcases h with ⟨rfl, rfl, rfl⟩ | ⟨a, b, rfl⟩
  · right
    refine ⟨by omega, by omega, ?_⟩
    rw [dig_small (by omega), show (0 * 10 + ((c.toNat : Int) - 48)).toNat = c.toNat - 48 by omega, hc]; rfl
  · right
    have hn : 0 < n := by omega
    refine ⟨by omega, by omega, ?_⟩
    have e1 : (n * 10 + ((c.toNat : Int) - 48)).toNat / 10 = n.toNat := by omega
    have e2 : (n * 10 + ((c.toNat : Int) - 48)).toNat % 10 = c.toNat - 48 := by omega
    rw [dig_big (u := (n * 10 + ((c.toNat : Int) - 48)).toNat) (by omega), e1, e2, hc]

theorem keep_some (a : Int) : ∀ (l : List UInt8) (n dg : Int) (f' : Option Int) (m : Int), numsL l n dg (some a) = some (f', m) → f' = some a
  | [], n, dg, f', m, h => by
    have h' : (if dg = 0 then none else some (some a, n)) = some (f', m) := h
    split at h'
    · cases h'
    · cases h'; rfl
  | c :: t, n, dg, f', m, h => by
    have h1 : ¬ (c.toNat = 47 ∧ 0 < dg ∧ some a = none) := fun x => by cases x.2.2
    by_cases h2 : 48 ≤ c.toNat ∧ c.toNat ≤ 57 ∧ (dg = 0 ∨ 0 < n)
    · rw [numsL_digit h2.1 h2.2.1 h2.2.2] at h
      exact keep_some a t _ _ f' m h
    · rw [numsL_stop h1 h2] at h; cases h

/-- A number that is too long stays so. -/
theorem long_some (a : Int) : ∀ (l : List UInt8) (n dg : Int) (f' : Option Int) (m : Int), 1099511627776 < n → numsL l n dg (some a) = some (f', m) → 1099511627776 < m
  | [], n, dg, f', m, hn, h => by
    have h' : (if dg = 0 then none else some (some a, n)) = some (f', m) := h
    split at h'
    · cases h'
    · cases h'; exact hn
  | c :: t, n, dg, f', m, hn, h => by
    have h1 : ¬ (c.toNat = 47 ∧ 0 < dg ∧ some a = none) := fun x => by cases x.2.2
    by_cases h2 : 48 ≤ c.toNat ∧ c.toNat ≤ 57 ∧ (dg = 0 ∨ 0 < n)
    · rw [numsL_digit h2.1 h2.2.1 h2.2.2] at h
      exact long_some a t _ _ f' m (by split <;> omega) h
    · rw [numsL_stop h1 h2] at h; cases h

theorem long_none : ∀ (l : List UInt8) (n dg : Int) (f' : Option Int) (m : Int), 1099511627776 < n → numsL l n dg none = some (f', m) → (f' = none → 1099511627776 < m) ∧ ∀ a, f' = some a → 1099511627776 < a
  | [], n, dg, f', m, hn, h => by
    have h' : (if dg = 0 then none else some (none, n)) = some (f', m) := h
    split at h'
    · cases h'
    · cases h'; exact ⟨fun _ => hn, fun a ha => by cases ha⟩
  | c :: t, n, dg, f', m, hn, h => by
    by_cases h1 : c.toNat = 47 ∧ 0 < dg ∧ (none : Option Int) = none
    · rw [numsL_cut h1.1 h1.2.1] at h
      obtain rfl := keep_some n t 0 0 f' m h
      exact ⟨fun x => (by cases x), fun a ha => (by cases ha; exact hn)⟩
    · by_cases h2 : 48 ≤ c.toNat ∧ c.toNat ≤ 57 ∧ (dg = 0 ∨ 0 < n)
      · rw [numsL_digit h2.1 h2.2.1 h2.2.2] at h
        exact long_none t _ _ f' m (by split <;> omega) h
      · rw [numsL_stop h1 h2] at h; cases h

theorem read_some (a : Int) : ∀ (l p : List UInt8) (n dg : Int) (f' : Option Int) (m : Int), Pre p n dg → numsL l n dg (some a) = some (f', m) → m ≤ 1099511627776 → p ++ l = Lib.decDigits m.toNat
  | [], p, n, dg, f', m, hp, h, hm => by
    have h' : (if dg = 0 then none else some (some a, n)) = some (f', m) := h
    split at h'
    · cases h'
    · cases h'
      rcases hp with ⟨x, _⟩ | ⟨_, _, x⟩
      · omega
      · rw [x, List.append_nil]
  | c :: t, p, n, dg, f', m, hp, h, hm => by
    have h1 : ¬ (c.toNat = 47 ∧ 0 < dg ∧ some a = none) := fun x => by cases x.2.2
    by_cases h2 : 48 ≤ c.toNat ∧ c.toNat ≤ 57 ∧ (dg = 0 ∨ 0 < n)
    · rw [numsL_digit h2.1 h2.2.1 h2.2.2] at h
      have hs := pre_step hp h2.1 h2.2.1 h2.2.2
      by_cases hb : 1099511627776 < n * 10 + ((c.toNat : Int) - 48)
      · have := long_some a t _ _ f' m (by split <;> omega) h
        omega
      · rw [if_neg (by omega)] at h
        have := read_some a t _ _ _ f' m hs h hm
        rw [← this]; simp
    · rw [numsL_stop h1 h2] at h; cases h

theorem read_none : ∀ (l p : List UInt8) (n dg : Int) (f' : Option Int) (m : Int), Pre p n dg → numsL l n dg none = some (f', m) → m ≤ 1099511627776 →
    (f' = none → p ++ l = Lib.decDigits m.toNat) ∧ ∀ a, f' = some a → a ≤ 1099511627776 → p ++ l = Lib.decDigits a.toNat ++ 47 :: Lib.decDigits m.toNat
  | [], p, n, dg, f', m, hp, h, hm => by
    have h' : (if dg = 0 then none else some (none, n)) = some (f', m) := h
    split at h'
    · cases h'
    · cases h'
      rcases hp with ⟨x, _⟩ | ⟨_, _, x⟩
      · omega
      · exact ⟨fun _ => by rw [x, List.append_nil], fun a ha => by cases ha⟩
  | c :: t, p, n, dg, f', m, hp, h, hm => by
    by_cases h1 : c.toNat = 47 ∧ 0 < dg ∧ (none : Option Int) = none
    · rw [numsL_cut h1.1 h1.2.1] at h
      obtain rfl := keep_some n t 0 0 f' m h
      refine ⟨fun x => (by cases x), fun a ha _ => ?_⟩
      cases ha
      have ht := read_some n t [] 0 0 _ m (.inl ⟨rfl, rfl, rfl⟩) h hm
      have hc : c = 47 := UInt8.toNat_inj.1 (by rw [h1.1]; rfl)
      rcases hp with ⟨x, _⟩ | ⟨_, _, x⟩
      · omega
      · rw [x, hc, ← ht]; rfl
    · by_cases h2 : 48 ≤ c.toNat ∧ c.toNat ≤ 57 ∧ (dg = 0 ∨ 0 < n)
      · rw [numsL_digit h2.1 h2.2.1 h2.2.2] at h
        have hs := pre_step hp h2.1 h2.2.1 h2.2.2
        by_cases hb : 1099511627776 < n * 10 + ((c.toNat : Int) - 48)
        · have := long_none t _ _ f' m (by split <;> omega) h
          exact ⟨fun x => by have := this.1 x; omega, fun a ha ha1 => by have := this.2 a ha; omega⟩
        · rw [if_neg (by omega)] at h
          have := read_none t _ _ _ f' m hs h hm
          exact ⟨fun x => by rw [← this.1 x]; simp, fun a ha ha1 => by rw [← this.2 a ha ha1]; simp⟩
      · rw [numsL_stop h1 h2] at h; cases h

theorem finP_inv {two : Bool} {n d n' d' : Int} (h : finP two n d = (n', d', 0)) : n' = n ∧ d' = d ∧ n ≤ 1099511627776 ∧ d ≤ 1048576 ∧ (two = true → 2 ≤ d) ∧ chk n d = 0 := by
  unfold finP at h
  split at h
  · simp at h
  · split at h
    · simp at h
    · split at h
      · simp only [Prod.mk.injEq, and_true] at h
        exact ⟨h.1.symm, h.2.symm, by omega, by omega, fun x => by simp [x] at *; omega, by assumption⟩
      · simp only [Prod.mk.injEq] at h; omega

/-- What is read has the text that was read, and is valid. -/
theorem text_parse {l : List UInt8} {n d : Int} (h : parseV l = (n, d, 0)) : textL n d = l ∧ Valid n d := by
  have h' : (match numsL l 0 0 none with | none => (0, 0, 3) | some (none, n) => finP false n 1 | some (some a, n) => finP true a n) = (n, d, 0) := h
  clear h
  cases e : numsL l 0 0 none with
  | none => rw [e] at h'; simp at h'
  | some r =>
    obtain ⟨f, m⟩ := r
    rw [e] at h'
    cases f with
    | none =>
      obtain ⟨rfl, rfl, x1, x2, _, x4⟩ := finP_inv (show finP false m 1 = (n, d, 0) from h')
      refine ⟨?_, valid_of_chk x4⟩
      unfold textL
      rw [if_neg (by omega)]
      have := (read_none l [] 0 0 none n (.inl ⟨rfl, rfl, rfl⟩) e x1).1 rfl
      rw [← this]; rfl
    | some a =>
      obtain ⟨rfl, rfl, x1, x2, x3, x4⟩ := finP_inv (show finP true a m = (n, d, 0) from h')
      have x3 := x3 rfl
      refine ⟨?_, valid_of_chk x4⟩
      unfold textL
      rw [if_pos (by omega)]
      have := (read_none l [] 0 0 (some n) d (.inl ⟨rfl, rfl, rfl⟩) e (by omega)).2 n rfl x1
      rw [← this]; rfl

theorem parse_err {l : List UInt8} : (parseV l).2.2 = 0 ∨ parseV l = (0, 0, (parseV l).2.2) := by
  show (match numsL l 0 0 none with | none => _ | some (none, n) => _ | some (some a, n) => _ : Int × Int × Int).2.2 = 0 ∨ _
  have fin : ∀ two n d, (finP two n d).2.2 = 0 ∨ finP two n d = (0, 0, (finP two n d).2.2) := by
    intro two n d
    unfold finP
    split
    · right; rfl
    · split
      · right; rfl
      · split
        · left; rfl
        · right; rfl
  have hp : parseV l = (match numsL l 0 0 none with | none => (0, 0, 3) | some (none, n) => finP false n 1 | some (some a, n) => finP true a n) := rfl
  rw [hp]
  cases numsL l 0 0 none with
  | none => right; rfl
  | some r =>
    obtain ⟨f, m⟩ := r
    cases f with
    | none => exact fin false m 1
    | some a => exact fin true a m

end Go.Proofs.YtjgkliiofechfaaDoor
