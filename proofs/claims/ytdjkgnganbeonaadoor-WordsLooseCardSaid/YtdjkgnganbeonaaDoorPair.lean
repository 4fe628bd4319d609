/- The program's Pair: it answers as the reference does, for every text and byte. -/
import Derived.Test.YtdjkgnganbeonaaDoorNumb
import Derived.Test.YtdjkgnganbeonaaDoorWMem
import Derived.Lib.IndexLaws
import Derived.Deep.RegionHeld3
namespace Go.Proofs.YtdjkgnganbeonaaDoor
open Go.RowKit

theorem wclone_any (s : ByteArray) (w : World) (hs : s.size ≤ 281474976710656) : Calls Tryd.prog 48 #[.string s] w fun e w' => e = .returned (.string s) ∧ Below w.heap.size w w' := by
  go_enter Tryd.func48, Tryd.ntmps48
  go_wp2_with fail
  refine (Tryd.stringslite_Clone s _ hs).mono ?_
  rintro e w1 ⟨rfl, hb⟩
  go_wp2_with fail
  go_ret
  exact ⟨rfl, hb⟩

theorem byte_is {b : UInt8} {c : Int} (h0 : 0 ≤ c) (h1 : c ≤ 255) : (b == c.toNat.toUInt8) = ((b.toNat : Int) == c) := by
  have e : (c.toNat.toUInt8).toNat = c.toNat := by
    show (UInt8.ofNat c.toNat).toNat = _
    rw [UInt8.toNat_ofNat']; exact Nat.mod_eq_of_lt (by omega)
  rw [Bool.eq_iff_iff, beq_iff_eq, beq_iff_eq]
  constructor
  · intro x; rw [x, e]; omega
  · intro x; exact UInt8.toNat_inj.1 (by rw [e]; omega)
theorem idx_pos {c : Int} (h0 : 0 ≤ c) (h1 : c ≤ 255) : ∀ l : List UInt8, Lib.indexByte l c.toNat.toUInt8 = if cntB c l = 0 then -1 else (posB c l : Int)
  | [] => rfl
  | b :: t => by
    have ih := idx_pos h0 h1 t
    unfold Lib.indexByte
    rw [byte_is h0 h1, ih]
    by_cases hb : ((b.toNat : Int) == c) = true
    · rw [if_pos hb, if_neg (by unfold cntB; rw [if_pos hb]; omega)]
      unfold posB; rw [if_pos hb]; rfl
    · rw [if_neg hb]
      have e1 : cntB c (b :: t) = cntB c t := by show (if _ then 1 else 0) + _ = _; rw [if_neg hb]; omega
      have e2 : posB c (b :: t) = posB c t + 1 := by show (if _ then 0 else _) = _; rw [if_neg hb]
      rw [e1, e2]
      by_cases hc : cntB c t = 0
      · rw [if_pos hc, if_pos hc]; rfl
      · rw [if_neg hc, if_neg hc]
        have : ((posB c t : Int) == -1) = false := by rw [beq_eq_false_iff_ne]; omega
        rw [this]; simp
theorem cnt_parts (c : Int) : ∀ l : List UInt8, cntB c l ≠ 0 → cntB c l = 1 + cntB c (l.drop (posB c l + 1)) ∧ ∃ b, l[posB c l]? = some b ∧ (b.toNat : Int) = c
  | [], h => by simp [cntB] at h
  | b :: t, h => by
    by_cases hb : ((b.toNat : Int) == c) = true
    · have e1 : cntB c (b :: t) = 1 + cntB c t := by show (if _ then 1 else 0) + _ = _; rw [if_pos hb]
      have e2 : posB c (b :: t) = 0 := by show (if _ then 0 else _) = _; rw [if_pos hb]
      rw [e1, e2]; exact ⟨rfl, b, rfl, by simpa using hb⟩
    · have e1 : cntB c (b :: t) = cntB c t := by show (if _ then 1 else 0) + _ = _; rw [if_neg hb]; omega
      have e2 : posB c (b :: t) = posB c t + 1 := by show (if _ then 0 else _) = _; rw [if_neg hb]
      rw [e1] at h
      obtain ⟨i1, i2⟩ := cnt_parts c t h
      rw [e1, e2]; exact ⟨i1, i2⟩
theorem cnt_zero (c : Int) : ∀ l : List UInt8, cntB c l = 0 ↔ ∀ (k : Nat) b, l[k]? = some b → (b.toNat : Int) ≠ c
  | [] => by simp [cntB]
  | b :: t => by
    have ih := cnt_zero c t
    by_cases hb : ((b.toNat : Int) == c) = true
    · have e1 : cntB c (b :: t) = 1 + cntB c t := by show (if _ then 1 else 0) + _ = _; rw [if_pos hb]
      rw [e1]
      constructor
      · intro h; omega
      · intro h; exact absurd (by simpa using hb) (h 0 b rfl)
    · have e1 : cntB c (b :: t) = cntB c t := by show (if _ then 1 else 0) + _ = _; rw [if_neg hb]; omega
      rw [e1, ih]
      constructor
      · intro h k x hx
        cases k with
        | zero => simp at hx; subst hx; simpa using hb
        | succ k => exact h k x (by simpa using hx)
      · intro h k x hx; exact h (k + 1) x (by simpa using hx)
theorem data_at (s : ByteArray) (j : Nat) (h : j < s.size) : s.data.toList[j]? = some (s.data[j]!) := by
  have h' : j < s.data.size := h
  rw [List.getElem?_eq_getElem (by simpa using h'), getElem!_pos s.data j h']; rfl
/-- The last place is the first just where there is one. -/
theorem last_is {s : ByteArray} {c : Int} (hn : cntB c s.data.toList ≠ 0) : ((posB c s.data.toList : Int) != Lib.lastIndexByte s c) = !decide (cntB c s.data.toList = 1) := by
  obtain ⟨i1, b, i2, i3⟩ := cnt_parts c _ hn
  have hlt := pos_lt c _ hn
  have hl : s.data.toList.length = s.size := by simp
  rw [hl] at hlt
  generalize hp : posB c s.data.toList = p at *
  rcases Lib.lastIndexByte_spec s c with ⟨_, q⟩ | ⟨i, hi, e, hc, q⟩
  · have := q p hlt
    rw [data_at s p hlt] at i2
    simp only [Option.some.injEq] at i2
    rw [i2] at this; exact absurd i3 this
  · rw [e]
    by_cases h1 : cntB c (s.data.toList.drop (p + 1)) = 0
    · have hip : i ≤ p := by
        apply Classical.byContradiction; intro x
        have := (cnt_zero c _).1 h1 (i - (p + 1)) (s.data[i]!) (by rw [List.getElem?_drop, show p + 1 + (i - (p + 1)) = i by omega]; exact data_at s i hi)
        exact this hc
      have hpi : ¬ i < p := by
        intro x
        have := q p x hlt
        rw [data_at s p hlt] at i2
        simp only [Option.some.injEq] at i2
        rw [i2] at this; exact this i3
      obtain rfl : i = p := by omega
      rw [i1, h1]; simp
    · have hne : i ≠ p := by
        intro x
        subst x
        apply h1
        rw [cnt_zero]
        intro k b hb
        rw [List.getElem?_drop] at hb
        have hk : i + 1 + k < s.size := by
          have := (List.getElem?_eq_some_iff.1 hb).1; rwa [hl] at this
        rw [data_at s _ hk] at hb
        simp only [Option.some.injEq] at hb
        rw [← hb]; exact q _ (by omega) hk
      rw [i1, decide_eq_false (by omega)]
      simp; omega

set_option maxRecDepth 100000 in
set_option maxHeartbeats 2000000 in
theorem wpair_any (s : ByteArray) (c : Int) (w : World) (hs : s.size ≤ 281474976710656) (c0 : 0 ≤ c) (c1 : c ≤ 255) : Calls Tryd.prog 23 #[.string s, .int .u8 c] w fun e w' => e = .returned (pairRes s c) ∧ Below w.heap.size w w' := by
  have I := Lib.hid (fun W => Tryd.strings_IndexByte s c W)
  have L := Lib.hid (fun W => Tryd.strings_LastIndexByte s c (by omega) W)
  rw [idx_pos c0 c1] at I
  have hl : s.data.toList.length = s.size := by simp
  by_cases h0 : cntB c s.data.toList = 0
  · rw [if_pos h0] at I
    have hfin := Lib.hid (show pairRes s c = .tuple #[.string ⟨#[]⟩, .string ⟨#[]⟩, .bool false] by unfold pairRes; rw [if_neg (by omega)])
    clear h0 L hl
    go_enter Tryd.func23, Tryd.ntmps23
    go_wp2_with fail
    refine (I.out _).mono ?_
    rintro e w1 ⟨rfl, rfl⟩
    go_wp2_with fail
    go_ret3
    rw [hfin.out]; exact ⟨rfl, w_refl _⟩
  · rw [if_neg h0] at I
    have hla := last_is h0
    have hplt := pos_lt c _ h0
    rw [hl] at hplt
    obtain ⟨z, hz⟩ : ∃ z, Lib.lastIndexByte s c = z := ⟨_, rfl⟩
    rw [hz] at hla L
    by_cases h1 : cntB c s.data.toList = 1
    · rw [decide_eq_true h1] at hla
      have hla2 : ((posB c s.data.toList : Int) != z) = false := hla
      have hfin := Lib.hid (show pairRes s c = .tuple #[.string (s.extract 0 (posB c s.data.toList)), .string (s.extract (posB c s.data.toList + 1) s.size), .bool true] by unfold pairRes; rw [if_pos h1])
      clear h0 hl h1 hla hz
      generalize posB c s.data.toList = p at *
      have p0 : ¬ (p : Int) < 0 := by omega
      have p1 : (0 : Int) ≤ (p : Int) := by omega
      have p2 : (p : Int) ≤ s.size := by omega
      have p3 : IntKind.i64.wrap ((p : Int) + 1) = (p : Int) + 1 := IntWalk.i64_in _ (by omega)
      have p4 : (0 : Int) ≤ (p : Int) + 1 := by omega
      have p5 : (p : Int) + 1 ≤ s.size := by omega
      have p6 : ((p : Int) + 1).toNat = p + 1 := by omega
      have C1 := Lib.hid (fun W => wclone_any (s.extract 0 p) W (by rw [ByteArray.size_extract]; omega))
      have C2 := Lib.hid (fun W => wclone_any (s.extract (p + 1) s.size) W (by rw [ByteArray.size_extract]; omega))
      go_enter Tryd.func23, Tryd.ntmps23
      go_wp2_with fail
      refine (I.out _).mono ?_
      rintro e w1 ⟨rfl, hw⟩
      obtain rfl := hw.symm
      clear hw
      go_wp2_with fail
      refine (L.out _).mono ?_
      rintro e w1 ⟨rfl, hw⟩
      obtain rfl := hw.symm
      clear hw
      go_wp2_with fail
      go_region_held3 (fun w' => Below w.heap.size w w')
        (first
          | exact (w_refl w).drew
          | exact w_below ‹_› hbx
          | assumption)
        (first
          | (go_at_call 48; ((with_reducible refine (C1.out _).mono ?_); rintro e wx ⟨rfl, hbx⟩))
          | (go_at_call 48; ((with_reducible refine (C2.out _).mono ?_); rintro e wx ⟨rfl, hbx⟩)))
      all_goals
        go_wp2_with fail
        go_ret3
        rw [hfin.out]; exact ⟨rfl, by assumption⟩
    · rw [decide_eq_false h1] at hla
      have hla2 : ((posB c s.data.toList : Int) != z) = true := hla
      have hfin := Lib.hid (show pairRes s c = .tuple #[.string ⟨#[]⟩, .string ⟨#[]⟩, .bool false] by unfold pairRes; rw [if_neg h1])
      clear h0 hl h1 hla hz
      generalize posB c s.data.toList = p at *
      have p0 : ¬ (p : Int) < 0 := by omega
      go_enter Tryd.func23, Tryd.ntmps23
      go_wp2_with fail
      refine (I.out _).mono ?_
      rintro e w1 ⟨rfl, hw⟩
      obtain rfl := hw.symm
      clear hw
      go_wp2_with fail
      refine (L.out _).mono ?_
      rintro e w1 ⟨rfl, hw⟩
      obtain rfl := hw.symm
      clear hw
      go_wp2_with fail
      go_ret3
      rw [hfin.out]; exact ⟨rfl, w_refl _⟩

end Go.Proofs.YtdjkgnganbeonaaDoor
