/- The reference's Name, Number, Signed, Pair: for every text. -/
import Derived.Test.YtcomjcflllfobaaDoorWOne
namespace Go.Proofs.YtcomjcflllfobaaDoor
open Go.RowKit

def nameB (c : UInt8) : Bool := letterI c.toNat || digitI c.toNat || (c.toNat : Int) == 45
def headLetter : List UInt8 → Bool
  | [] => false
  | c :: _ => letterI c.toNat
/-- Is it a name? -/
def nameV (l : List UInt8) : Bool := l.all nameB && decide (l.length ≤ 20) && headLetter l

def numG : Int → List UInt8 → Option Int
  | n, [] => some n
  | n, c :: t => if digitI c.toNat = true then (if 1099511627776 < 10 * n + ((c.toNat : Int) - 48) then none else numG (10 * n + ((c.toNat : Int) - 48)) t) else none
/-- The number that a text is, or none. -/
def numberV (l : List UInt8) : Option Int := if l = [] ∨ (l.head? = some 48 ∧ 1 < l.length) then none else numG 0 l

def numRes : Option Int → Value
  | none => .tuple #[.int .i64 0, .bool false]
  | some n => .tuple #[.int .i64 n, .bool true]

theorem numG_bds : ∀ (l : List UInt8) (n m : Int), 0 ≤ n → n ≤ 1099511627776 → numG n l = some m → 0 ≤ m ∧ m ≤ 1099511627776
  | [], n, m, h0, h1, h => by
    simp only [numG, Option.some.injEq] at h; omega
  | c :: t, n, m, h0, h1, h => by
    unfold numG at h
    split at h
    · rename_i hd
      simp only [digitI, decide_eq_true_eq] at hd
      split at h
      · cases h
      · exact numG_bds t _ m (by omega) (by omega) h
    · cases h
theorem numberV_bds {l : List UInt8} {m : Int} (h : numberV l = some m) : 0 ≤ m ∧ m ≤ 1099511627776 := by
  unfold numberV at h
  split at h
  · cases h
  · exact numG_bds l 0 m (by omega) (by omega) h

theorem head_byte (s : ByteArray) (h : 0 < s.size) : s.data.toList = s[0] :: s.data.toList.drop 1 := by have := w_drop s 0 h; simpa using this

set_option maxHeartbeats 2000000 in
theorem rname_any (s : ByteArray) (w : World) (hs : s.size ≤ maxLen) : Calls Tryd.prog 50 #[.string s] w fun e w' => e = .returned (.bool (nameV s.data.toList)) ∧ w = w' := by
  unfold maxLen at hs
  go_enter Tryd.func50, Tryd.ntmps50
  go_wp2_with fail
  go_loop [3] (fun i => ∃ k : Nat, k ≤ s.size ∧ i = .int .i64 k ∧ Hid ((s.data.toList.take k).all nameB = true)) (fun i => s.size - (intOf i).toNat)
  case atStart => exact ⟨0, by omega, rfl, Lib.hid (by simp)⟩
  case round =>
    obtain ⟨k, hk, rfl, hall⟩ := hrel
    by_cases hlt : k < s.size
    · have hmem := Lib.hid (w_mem s k hlt)
      have htk := Lib.hid (w_take s k hlt)
      by_cases hn : nameB s[k] = true
      · have hnew := Lib.hid (show (s.data.toList.take (k + 1)).all nameB = true by rw [htk.out, List.all_append, hall.out]; simp [hn])
        clear hmem htk hall
        by_cases h1 : letterI (s[k].toNat : Int) = true
        · clear hn
          go_wp2_with fail
          refine (rletter_c _ _).mono ?_
          rintro e w1 ⟨rfl, rfl⟩
          go_wp2_with fail
          go_round
          case rel => exact ⟨k + 1, by omega, by go_num, hnew⟩
          case measure => simp [intOf]; omega
        · have h1' : letterI (s[k].toNat : Int) = false := by simpa using h1
          by_cases h2 : digitI (s[k].toNat : Int) = true
          · clear hn h1
            go_wp2_with fail
            refine (rletter_c _ _).mono ?_
            rintro e w1 ⟨rfl, rfl⟩
            go_wp2_with fail
            refine (rdigit_c _ _).mono ?_
            rintro e w1 ⟨rfl, rfl⟩
            go_wp2_with fail
            go_round
            case rel => exact ⟨k + 1, by omega, by go_num, hnew⟩
            case measure => simp [intOf]; omega
          · have h2' : digitI (s[k].toNat : Int) = false := by simpa using h2
            have h3 : ((s[k].toNat : Int) != 45) = false := by
              unfold nameB at hn
              rw [h1', h2'] at hn
              simpa using hn
            clear hn h1 h2
            go_wp2_with fail
            refine (rletter_c _ _).mono ?_
            rintro e w1 ⟨rfl, rfl⟩
            go_wp2_with fail
            refine (rdigit_c _ _).mono ?_
            rintro e w1 ⟨rfl, rfl⟩
            go_wp2_with fail
            go_round
            case rel => exact ⟨k + 1, by omega, by go_num, hnew⟩
            case measure => simp [intOf]; omega
      · have hn' : nameB s[k] = false := by simpa using hn
        have hfin := Lib.hid (show nameV s.data.toList = false by
          have : s.data.toList.all nameB = false := by
            rw [List.all_eq_false]; exact ⟨_, hmem.out, by simp [hn']⟩
          unfold nameV; rw [this]; rfl)
        have h1' : letterI (s[k].toNat : Int) = false := by unfold nameB at hn'; simp at hn'; exact hn'.1.1
        have h2' : digitI (s[k].toNat : Int) = false := by unfold nameB at hn'; simp at hn'; exact hn'.1.2
        have h3 : ((s[k].toNat : Int) != 45) = true := by unfold nameB at hn'; simp at hn'; simpa using hn'.2
        clear hn hn' hmem htk hall
        go_wp2_with fail
        refine (rletter_c _ _).mono ?_
        rintro e w1 ⟨rfl, rfl⟩
        go_wp2_with fail
        refine (rdigit_c _ _).mono ?_
        rintro e w1 ⟨rfl, rfl⟩
        go_wp2_with fail
        go_ret
        rw [hfin.out]; exact ⟨rfl, rfl⟩
    · obtain rfl : k = s.size := by omega
      have hal := Lib.hid (show s.data.toList.all nameB = true by have := hall.out; rwa [List.take_of_length_le (by simp)] at this)
      clear hall
      by_cases hz : 0 < s.size
      · have hem : s.toList.isEmpty = false := by
          have : s.toList ≠ [] := fun x => by have := (w_nil s).1 x; omega
          simpa using this
        have hhd := Lib.hid (head_byte s hz)
        by_cases h20 : s.size ≤ 20
        · have h20' : (s.size : Int) ≤ 20 := by omega
          obtain ⟨b, hb⟩ : ∃ b, letterI (s[0].toNat : Int) = b := ⟨_, rfl⟩
          have hfin := Lib.hid (show nameV s.data.toList = b by
            unfold nameV
            rw [hal.out, show s.data.toList.length = s.size by simp]
            rw [decide_eq_true h20]
            rw [hhd.out]
            simpa [headLetter] using hb)
          clear hal hhd
          go_wp2_with fail
          refine (rletter_c _ _).mono ?_
          rintro e w1 ⟨rfl, rfl⟩
          go_wp2_with fail
          go_ret
          rw [hfin.out]; exact ⟨rfl, rfl⟩
        · have h20' : ¬ (s.size : Int) ≤ 20 := by omega
          have hfin := Lib.hid (show nameV s.data.toList = false by
            unfold nameV
            rw [show s.data.toList.length = s.size by simp, decide_eq_false h20]
            simp)
          clear hal hhd
          go_wp2_with fail
          go_ret
          rw [hfin.out]; exact ⟨rfl, rfl⟩
      · have hnil := (w_nil s).2 (by omega)
        have hfin := Lib.hid (show nameV s.data.toList = false by
          have e : s.data.toList = [] := by rw [← Lib.toList_data]; exact hnil
          unfold nameV; rw [e]; rfl)
        clear hal
        go_wp2_with fail
        go_ret
        rw [hfin.out]; exact ⟨rfl, rfl⟩

theorem ne_empty {s : ByteArray} (h : 0 < s.size) : s.toList.isEmpty = false := by
  have : s.toList ≠ [] := fun x => by have := (w_nil s).1 x; omega
  simpa using this
theorem data_nil {s : ByteArray} (h : ¬ 0 < s.size) : s.data.toList = [] := by
  have : s.data.toList.length = s.size := by simp
  exact List.length_eq_zero_iff.1 (by omega)

theorem numberV_nil {s : ByteArray} (h : ¬ 0 < s.size) : numberV s.data.toList = none := by
  unfold numberV; rw [data_nil h]; rfl
theorem numberV_zero {s : ByteArray} (h : 0 < s.size) (h0 : ((s[0].toNat : Int) == 48) = true) (h1 : 1 < s.size) : numberV s.data.toList = none := by
  have e := head_byte s h
  have e0 : s[0] = 48 := UInt8.toNat_inj.1 (by rw [beq_iff_eq] at h0; have : (48 : UInt8).toNat = 48 := rfl; omega)
  unfold numberV; rw [if_pos]
  right
  refine ⟨by rw [e, e0]; rfl, by simp; omega⟩
theorem numberV_digits {s : ByteArray} (h : 0 < s.size) (h0 : ((s[0].toNat : Int) == 48) = false ∨ ¬ 1 < s.size) : numberV s.data.toList = numG 0 s.data.toList := by
  have e := head_byte s h
  unfold numberV; rw [if_neg]
  rintro (x | ⟨x, y⟩)
  · rw [e] at x; simp at x
  · rcases h0 with z | z
    · rw [e] at x
      simp only [List.head?_cons, Option.some.injEq] at x
      rw [x] at z; simp at z
    · simp at y; omega

def signedRes (l : List UInt8) : Value :=
  if l.head? = some 45 then (match numberV (l.drop 1) with | none => .tuple #[.int .i64 0, .bool false] | some n => .tuple #[.int .i64 (-n), .bool (decide (0 < n))]) else numRes (numberV l)

theorem signed_else {s : ByteArray} (h : ¬ (0 < s.size ∧ ∃ h : 0 < s.size, ((s[0].toNat : Int) == 45) = true)) : signedRes s.data.toList = numRes (numberV s.data.toList) := by
  unfold signedRes
  rw [if_neg]
  intro x
  apply h
  by_cases hz : 0 < s.size
  · refine ⟨hz, hz, ?_⟩
    rw [head_byte s hz] at x
    simp only [List.head?_cons, Option.some.injEq] at x
    rw [x]; rfl
  · rw [data_nil hz] at x; simp at x
theorem signed_neg {s : ByteArray} (hz : 0 < s.size) (h : ((s[0].toNat : Int) == 45) = true) :
    signedRes s.data.toList = (match numberV (s.data.toList.drop 1) with | none => .tuple #[.int .i64 0, .bool false] | some n => .tuple #[.int .i64 (-n), .bool (decide (0 < n))]) := by
  unfold signedRes
  rw [if_pos]
  have e0 : s[0] = 45 := UInt8.toNat_inj.1 (by rw [beq_iff_eq] at h; have : (45 : UInt8).toNat = 45 := rfl; omega)
  rw [head_byte s hz, e0]; rfl

/-- How often a byte occurs. -/
def cntB (c : Int) : List UInt8 → Nat
  | [] => 0
  | b :: t => (if ((b.toNat : Int) == c) = true then 1 else 0) + cntB c t
/-- Where a byte occurs first (the length, if nowhere). -/
def posB (c : Int) : List UInt8 → Nat
  | [] => 0
  | b :: t => if ((b.toNat : Int) == c) = true then 0 else posB c t + 1
/-- What is before and behind the only place of a byte. -/
def pairRes (s : ByteArray) (c : Int) : Value :=
  if cntB c s.data.toList = 1 then .tuple #[.string (s.extract 0 (posB c s.data.toList)), .string (s.extract (posB c s.data.toList + 1) s.size), .bool true]
  else .tuple #[.string ⟨#[]⟩, .string ⟨#[]⟩, .bool false]

theorem cnt_app (c : Int) : ∀ (l m : List UInt8), cntB c (l ++ m) = cntB c l + cntB c m
  | [], m => by simp [cntB]
  | b :: t, m => by simp [cntB, cnt_app c t m]; omega
theorem cnt_le (c : Int) : ∀ (l : List UInt8), cntB c l ≤ l.length
  | [] => by simp [cntB]
  | b :: t => by have := cnt_le c t; simp only [cntB, List.length_cons]; split <;> omega
theorem pos_none (c : Int) : ∀ (l m : List UInt8), cntB c l = 0 → posB c (l ++ m) = l.length + posB c m
  | [], m, _ => by simp
  | b :: t, m, h => by
    unfold cntB at h
    split at h
    · omega
    · rename_i hb
      have := pos_none c t m (by omega)
      simp only [List.cons_append, posB, List.length_cons, hb, this]
      simp; omega
theorem pos_lt (c : Int) : ∀ (l : List UInt8), cntB c l ≠ 0 → posB c l < l.length
  | [], h => by simp [cntB] at h
  | b :: t, h => by
    unfold cntB at h
    unfold posB
    split
    · simp
    · rename_i hb
      rw [if_neg hb] at h
      have := pos_lt c t (by omega)
      simp only [List.length_cons]; omega

end Go.Proofs.YtcomjcflllfobaaDoor
