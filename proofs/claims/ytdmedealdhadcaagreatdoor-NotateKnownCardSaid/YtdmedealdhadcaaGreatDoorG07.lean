/- Signs and their texts are inverse to each other, as plain mathematics. Words of a line: what is asked, and what the reference's ends and quoted answer, for every line. Slices of words and of rows in memory: what they look like, and how they last. The reference's cut: the words of a line, for every line. -/
import Derived.Test.YtdmedealdhadcaaGreatDoorG04
import Derived.Test.YtdmedealdhadcaaGreatDoorG03
import Derived.WalkSpells
import Derived.OwnWalk
import Derived.Deep.AppendLies

namespace Go.Proofs.YtdmedealdhadcaaGreatDoor
open Go.RowKit
/-! ### Numbers -/
theorem itoa_nat : ∀ n ∈ List.range 101, numberV (Lib.itoa ((n : Nat) : Int)) = some (n : Int) ∧ (Lib.itoa ((n : Nat) : Int)).all dig = true ∧ Lib.itoa ((n : Nat) : Int) ≠ [] ∧ (Lib.itoa ((n : Nat) : Int)).length ≤ 3 := by decide +kernel
theorem itoa_int {n : Int} (h0 : 0 ≤ n) (h1 : n ≤ 100) : numberV (Lib.itoa n) = some n ∧ (Lib.itoa n).all dig = true ∧ Lib.itoa n ≠ [] ∧ (Lib.itoa n).length ≤ 3 := by
  obtain ⟨m, rfl⟩ : ∃ m : Nat, n = m := ⟨n.toNat, by omega⟩
  exact itoa_nat m (List.mem_range.2 (by omega))
theorem itoa_plc {n : Int} (h0 : -4 ≤ n) (h1 : n ≤ 12) : signO (Lib.itoa n) = (n, true) ∧ Lib.itoa n = (if n < 0 then [45] else []) ++ Lib.itoa (n.natAbs : Int) := by
  have c : n = -4 ∨ n = -3 ∨ n = -2 ∨ n = -1 ∨ n = 0 ∨ n = 1 ∨ n = 2 ∨ n = 3 ∨ n = 4 ∨ n = 5 ∨ n = 6 ∨ n = 7 ∨ n = 8 ∨ n = 9 ∨ n = 10 ∨ n = 11 ∨ n = 12 := by omega
  rcases c with rfl | rfl | rfl | rfl | rfl | rfl | rfl | rfl | rfl | rfl | rfl | rfl | rfl | rfl | rfl | rfl | rfl <;> decide +kernel
/-- No digit comes next. -/
def noDig (r : List UInt8) : Prop := r.head?.any dig = false
theorem take_dig : ∀ (ds : List UInt8) {r : List UInt8}, ds.all dig = true → noDig r → (ds ++ r).takeWhile dig = ds ∧ (ds ++ r).dropWhile dig = r
  | [], [], _, _ => ⟨rfl, rfl⟩
  | [], c :: t, _, h => by
    have hc : dig c = false := by simpa [noDig] using h
    simp [hc]
  | d :: ds, r, ha, h => by
    simp only [List.all_cons, Bool.and_eq_true] at ha
    obtain ⟨h1, h2⟩ := take_dig ds ha.2 h
    simp [ha.1, h1, h2]
theorem dig_not45 {c : UInt8} (h : dig c = true) : c ≠ 45 := by
  rintro rfl; revert h; decide
theorem head_not45 {ds r : List UInt8} (h : ds.all dig = true) (hn : ds ≠ []) : (ds ++ r).head? ≠ some 45 := by
  cases ds with
  | nil => exact absurd rfl hn
  | cons d t =>
    simp only [List.all_cons, Bool.and_eq_true] at h
    intro e
    simp only [List.cons_append, List.head?_cons, Option.some.injEq] at e
    exact dig_not45 h.1 e
theorem plc_back {n : Int} (h0 : -4 ≤ n) (h1 : n ≤ 12) {r : List UInt8} (hr : noDig r) : plcT (Lib.itoa n ++ r) = Lib.itoa n ∧ plcR (Lib.itoa n ++ r) = r := by
  obtain ⟨_, e⟩ := itoa_plc h0 h1
  obtain ⟨_, ha, hn, _⟩ := itoa_int (n := (n.natAbs : Int)) (by omega) (by omega)
  obtain ⟨t1, t2⟩ := take_dig _ ha hr
  by_cases hx : n < 0
  · rw [if_pos hx] at e
    rw [e]
    unfold plcT plcR
    rw [if_pos (by simp), if_pos (by simp)]
    simp [t1, t2]
  · rw [if_neg hx, List.nil_append] at e
    rw [e]
    have h45 := head_not45 (r := r) ha hn
    unfold plcT plcR
    rw [if_neg h45, if_neg h45]
    exact ⟨t1, t2⟩
/-! ### Pieces -/
theorem acc_back {a : Int} (h0 : -1 ≤ a) (h1 : a ≤ 2) {r : List UInt8} (hr : ∀ c t, r = c :: t → c ≠ 98 ∧ c ≠ 35 ∧ c ≠ 110) : accR (accL a ++ r) = (a, r) := by
  have c : a = -1 ∨ a = 0 ∨ a = 1 ∨ a = 2 := by omega
  rcases c with rfl | rfl | rfl | rfl
  · rfl
  · cases r with
    | nil => rfl
    | cons c t =>
      obtain ⟨x, y, z⟩ := hr c t rfl
      show accR (c :: t) = _
      unfold accR
      rw [tk_no x, tk_no y, tk_no z]
  · rfl
  · rfl
theorem stem_back {a : Int} (h0 : 0 ≤ a) (h1 : a ≤ 3) {r : List UInt8} (hr : ∀ c t, r = c :: t → c ≠ 94 ∧ c ≠ 118 ∧ c ≠ 62) : stemR (stemL a ++ r) = (a, r) := by
  have c : a = 0 ∨ a = 1 ∨ a = 2 ∨ a = 3 := by omega
  rcases c with rfl | rfl | rfl | rfl
  · cases r with
    | nil => rfl
    | cons c t =>
      obtain ⟨x, y, z⟩ := hr c t rfl
      show stemR (c :: t) = _
      unfold stemR
      rw [tk_no x, tk_no y, tk_no z]
  · rfl
  · rfl
  · rfl
theorem opt_back (b : Bool) (m : UInt8) {r : List UInt8} (hr : ∀ c t, r = c :: t → c ≠ m) : opt m (mkL b m ++ r) = (b, r) := by
  cases b with
  | true => show opt m (m :: r) = _; unfold opt; rw [tk_cons]
  | false =>
    show opt m r = _
    cases r with
    | nil => rfl
    | cons c t => unfold opt; rw [tk_no (hr c t rfl)]
theorem acc_split (l : List UInt8) : l = accL (accR l).1 ++ (accR l).2 := by
  unfold accR
  split
  · rename_i t h; rw [tk_some h]; rfl
  · split
    · rename_i t h; rw [tk_some h]; rfl
    · split
      · rename_i t h; rw [tk_some h]; rfl
      · rfl
theorem stem_split (l : List UInt8) : l = stemL (stemR l).1 ++ (stemR l).2 := by
  unfold stemR
  split
  · rename_i t h; rw [tk_some h]; rfl
  · split
    · rename_i t h; rw [tk_some h]; rfl
    · split
      · rename_i t h; rw [tk_some h]; rfl
      · rfl
theorem opt_split (m : UInt8) (l : List UInt8) : l = mkL (opt m l).1 m ++ (opt m l).2 := by
  unfold opt
  split
  · rename_i t h; rw [tk_some h]; rfl
  · rfl
theorem plc_split (l : List UInt8) : l = plcT l ++ plcR l := by
  unfold plcT plcR
  split
  · rename_i h
    cases l with
    | nil => cases h
    | cons c t =>
      simp only [List.head?_cons, Option.some.injEq] at h
      subst h
      simp
  · simp
theorem num_split (l : List UInt8) : l = l.takeWhile dig ++ l.dropWhile dig := by simp
theorem upto_split (m : UInt8) : ∀ (l : List UInt8) {r}, (upto m l).2 = some r → l = (upto m l).1 ++ m :: r
  | [], r, h => by cases h
  | c :: t, r, h => by
    unfold upto at h ⊢
    split
    · rename_i e
      rw [if_pos e] at h
      simp only [Option.some.injEq] at h
      subst h; rw [e]; rfl
    · rename_i e
      rw [if_neg e] at h
      show c :: t = c :: (upto m t).1 ++ m :: r
      rw [List.cons_append, ← upto_split m t h]
theorem upto_back (m : UInt8) : ∀ (a : List UInt8) (r : List UInt8), (∀ c ∈ a, c ≠ m) → upto m (a ++ m :: r) = (a, some r)
  | [], r, _ => by simp [upto]
  | c :: a, r, h => by
    have := upto_back m a r (fun x hx => h x (by simp [hx]))
    show upto m (c :: (a ++ m :: r)) = _
    unfold upto
    rw [if_neg (h c (by simp)), this]
/-! ### The fields of a valid sign -/
theorem one_zero {s : Sg} (h : oneE s = 0) : kOk s.kind ∧ s = useS s ∧ (s.kind = 5 → okM (mq s)) ∧ rngB s = true ∧ (s.obl && s.last) = false := by
  unfold oneE at h
  split at h
  · cases h
  rename_i h1
  split at h
  · cases h
  rename_i h2
  split at h
  · cases h
  rename_i h3
  split at h
  · cases h
  rename_i h4
  split at h
  · cases h
  rename_i h5
  refine ⟨Classical.byContradiction h1, (sgE_iff s (useS s)).1 (by simpa using h2), fun e => Classical.byContradiction fun x => h3 ⟨e, x⟩, by simpa using h4, by simpa using h5⟩
theorem val_back {v : Int} (h : 1 ≤ v ∧ v ≤ 8) : ∃ c, letV v = [c] ∧ valC c = v := by
  obtain ⟨h1, h2⟩ := h
  have c : v = 1 ∨ v = 2 ∨ v = 3 ∨ v = 4 ∨ v = 5 ∨ v = 6 ∨ v = 7 ∨ v = 8 := by omega
  rcases c with rfl | rfl | rfl | rfl | rfl | rfl | rfl | rfl <;> exact ⟨_, rfl, by decide⟩
theorem valC_rng (c : UInt8) : valC c = 0 ∨ (1 ≤ valC c ∧ valC c ≤ 8) := by
  have h : ∀ n, n < 256 → valC (UInt8.ofNat n) = 0 ∨ (1 ≤ valC (UInt8.ofNat n) ∧ valC (UInt8.ofNat n) ≤ 8) := by decide +kernel
  have := h c.toNat c.toNat_lt
  rwa [show UInt8.ofNat c.toNat = c by simp] at this
theorem let_val {c : UInt8} (h : valC c ≠ 0) : letV (valC c) = [c] := by
  have k : ∀ n, n < 256 → valC (UInt8.ofNat n) ≠ 0 → letV (valC (UInt8.ofNat n)) = [UInt8.ofNat n] := by decide +kernel
  have := k c.toNat c.toNat_lt
  rw [show UInt8.ofNat c.toNat = c by simp] at this
  exact this h
theorem rdVal_back {v : Int} (h : 1 ≤ v ∧ v ≤ 8) (r : List UInt8) (s : Sg) : rdVal (letV v ++ r, s) = some (r, { s with val := v }) := by
  obtain ⟨c, e, hc⟩ := val_back h
  rw [e]
  show (if valC c = 0 then none else some (r, { s with val := valC c })) = _
  rw [hc, if_neg (by omega)]
theorem rdPlc_back {n : Int} (h0 : -4 ≤ n) (h1 : n ≤ 12) {r : List UInt8} (hr : noDig r) (s : Sg) : rdPlc (Lib.itoa n ++ r, s) = some (r, { s with place := n }) := by
  obtain ⟨e1, e2⟩ := plc_back h0 h1 hr
  unfold rdPlc
  rw [e1, e2, (itoa_plc h0 h1).1]
  rfl
theorem rdNum_back {n : Int} (h0 : 0 ≤ n) (h1 : n ≤ 100) {r : List UInt8} (hr : noDig r) : numberV ((Lib.itoa n ++ r).takeWhile dig) = some n ∧ (Lib.itoa n ++ r).dropWhile dig = r := by
  obtain ⟨a, b, _, _⟩ := itoa_int h0 h1
  obtain ⟨t1, t2⟩ := take_dig _ b hr
  rw [t1, t2]
  exact ⟨a, rfl⟩
theorem tex_no41 : ∀ n ∈ List.range 16, ∀ c ∈ texL (ofN ((n : Nat) : Int)), c ≠ 41 := by decide +kernel
theorem okM_of {q : Q4} (h : okM q) : ∃ n : Nat, n < 16 ∧ q = ofN (n : Int) := by
  have hall : ∀ q ∈ mensL, ∃ n ∈ List.range 16, q = ofN ((n : Nat) : Int) := by decide
  obtain ⟨n, hn, e⟩ := hall q ((mens_iff q).2 h)
  exact ⟨n, List.mem_range.1 hn, e⟩
theorem par_back {q : Q4} (h : okM q) : parE (bytes (texL q)) = 0 ∧ parQ (bytes (texL q)) = q ∧ (∀ c ∈ texL q, c ≠ 41) := by
  obtain ⟨n, hn, rfl⟩ := okM_of h
  obtain ⟨e1, e2⟩ := par_some (s := bytes (texL (ofN (n : Int)))) hn (by simp [bytes])
  exact ⟨e2, e1, tex_no41 n (List.mem_range.2 hn)⟩
/-! ### Both ways -/
theorem fst_dig {a : Int} {b : Bool} {r : List UInt8} (h0 : -1 ≤ a) (h1 : a ≤ 2) (hr : noDig r) : noDig (accL a ++ mkL b 42 ++ r) := by
  have c : a = -1 ∨ a = 0 ∨ a = 1 ∨ a = 2 := by omega
  rcases c with rfl | rfl | rfl | rfl <;> cases b <;> first | exact hr | rfl
theorem head_reads {p a : Int} (c : Bool) {r : List UInt8} (hp : -4 ≤ p ∧ p ≤ 12) (ha : -1 ≤ a ∧ a ≤ 2) (hr : noDig r) (h1 : ∀ x t, r = x :: t → x ≠ 98 ∧ x ≠ 35 ∧ x ≠ 110 ∧ x ≠ 42) (s : Sg) :
    ((rdPlc (Lib.itoa p ++ accL a ++ mkL c 42 ++ r, s)).bind rdAcc).bind rdCol = some (r, { s with place := p, acc := a, col := c }) := by
  have e : Lib.itoa p ++ accL a ++ mkL c 42 ++ r = Lib.itoa p ++ (accL a ++ mkL c 42 ++ r) := by simp
  rw [e, rdPlc_back hp.1 hp.2 (fst_dig ha.1 ha.2 hr)]
  have ea : accR (accL a ++ mkL c 42 ++ r) = (a, mkL c 42 ++ r) := by
    rw [List.append_assoc]
    refine acc_back ha.1 ha.2 fun x t hx => ?_
    cases c with
    | true =>
      obtain ⟨rfl, _⟩ : 42 = x ∧ _ := List.cons.inj hx
      decide
    | false => obtain ⟨a, b, c, _⟩ := h1 x t hx; exact ⟨a, b, c⟩
  have ec : opt 42 (mkL c 42 ++ r) = (c, r) := opt_back c 42 fun x t hx => (h1 x t hx).2.2.2
  show (rdAcc _).bind rdCol = _
  unfold rdAcc
  rw [ea]
  show rdCol _ = _
  unfold rdCol
  show some ((opt 42 (mkL c 42 ++ r)).2, { s with place := p, acc := a, col := (opt 42 (mkL c 42 ++ r)).1 }) = _
  rw [ec]
theorem rng1 {s : Sg} (k : s.kind = 1) (h : rngB s = true) : (1 ≤ s.val ∧ s.val ≤ 8) ∧ (-4 ≤ s.place ∧ s.place ≤ 12) ∧ (-1 ≤ s.acc ∧ s.acc ≤ 2) := by
  unfold rngB at h; rw [if_pos k] at h
  simp only [plcB, Bool.and_eq_true, inB_iff] at h
  exact h
theorem rng2 {s : Sg} (k : s.kind = 2) (h : rngB s = true) : 1 ≤ s.val ∧ s.val ≤ 8 := by
  unfold rngB at h; rw [if_neg (by omega), if_pos k] at h
  exact inB_iff.1 h
theorem rng4 {s : Sg} (k : s.kind = 4) (h : rngB s = true) : ((-4 ≤ s.place ∧ s.place ≤ 12) ∧ (-1 ≤ s.acc ∧ s.acc ≤ 2)) ∧ (0 ≤ s.stem ∧ s.stem ≤ 3) := by
  unfold rngB at h; rw [if_neg (by omega), if_neg (by omega), if_pos k] at h
  simp only [plcB, Bool.and_eq_true, inB_iff] at h
  exact h
theorem rng6 {s : Sg} (k : s.kind = 6) (h : rngB s = true) : (1 ≤ s.n ∧ s.n ≤ 100) ∧ (1 ≤ s.d ∧ s.d ≤ 100) := by
  unfold rngB at h; rw [if_neg (by omega), if_neg (by omega), if_neg (by omega), if_pos k] at h
  simp only [Bool.and_eq_true, inB_iff] at h
  exact h
theorem rng8 {s : Sg} (k : s.kind = 8) (h : rngB s = true) : 0 ≤ s.n ∧ s.n ≤ 2 := by
  unfold rngB at h; rw [if_neg (by omega), if_neg (by omega), if_neg (by omega), if_neg (by omega), if_neg (by omega), if_pos k] at h
  exact inB_iff.1 h
theorem rng10 {s : Sg} (k : s.kind = 10) (h : rngB s = true) : 2 ≤ s.n ∧ s.n ≤ 4 := by
  unfold rngB at h; rw [if_neg (by omega), if_neg (by omega), if_neg (by omega), if_neg (by omega), if_neg (by omega), if_neg (by omega), if_pos k] at h
  exact inB_iff.1 h
theorem rng7 {s : Sg} (k : s.kind = 7) (h : rngB s = true) : (s.c0 = 0 ∨ s.c0 = 3 ∨ s.c0 = 4) ∧ (1 ≤ s.c1 ∧ s.c1 ≤ 5) := by
  unfold rngB at h; rw [if_neg (by omega), if_neg (by omega), if_neg (by omega), if_neg (by omega), if_pos k] at h
  rw [beq_iff_eq] at h
  exact chkC_zero h
theorem use_eq {s : Sg} {k : Nat} (hk : s.kind = (k : Int)) (h : s = useS s) : s = keepS (fdK k) s := by
  have e : s.kind.toNat = k := by rw [hk]; simp
  unfold useS at h
  rw [e] at h
  exact h
theorem kind_nat {s : Sg} (h : kOk s.kind) : ∃ k : Nat, 1 ≤ k ∧ k ≤ 12 ∧ s.kind = (k : Int) := ⟨s.kind.toNat, by unfold kOk at h; omega, by unfold kOk at h; omega, by unfold kOk at h; omega⟩
theorem tail_of {a : Int} (h0 : 0 ≤ a) (h1 : a ≤ 3) (o l : Bool) {x : UInt8} {t : List UInt8} (hx : stemL a ++ mkL o 126 ++ mkL l 33 = x :: t) : x = 94 ∨ x = 118 ∨ x = 62 ∨ x = 126 ∨ x = 33 := by
  have c : a = 0 ∨ a = 1 ∨ a = 2 ∨ a = 3 := by omega
  rcases c with rfl | rfl | rfl | rfl <;> cases o <;> cases l <;> simp [stemL, mkL] at hx <;> simp [← hx.1]
theorem tail_mk (o l : Bool) {x : UInt8} {t : List UInt8} (hx : mkL o 126 ++ mkL l 33 = x :: t) : x = 126 ∨ x = 33 := by
  cases o <;> cases l <;> simp [mkL] at hx <;> simp [← hx.1]
theorem tail_one (l : Bool) {x : UInt8} {t : List UInt8} (hx : mkL l 33 = x :: t) : x = 33 := by
  cases l <;> simp [mkL] at hx <;> simp [← hx.1]
/-- A valid sign is read from its text. -/
theorem word_read {s : Sg} (h : oneE s = 0) : readS (wordT s) = some s := by
  obtain ⟨hk, hu, hm, hr, hol⟩ := one_zero h
  obtain ⟨k, k1, k2, ek⟩ := kind_nat hk
  have e : s = { keepS (fdK k) s with kind := (k : Int) } := by rw [← ek]; exact use_eq ek hu
  have ew : wordT s = wordK k s := by unfold wordT; rw [show s.kind.toNat = k by omega]
  rw [ew]
  refine read_of (k := k) ?_
  have c : k = 1 ∨ k = 2 ∨ k = 3 ∨ k = 4 ∨ k = 5 ∨ k = 6 ∨ k = 7 ∨ k = 8 ∨ k = 9 ∨ k = 10 ∨ k = 11 ∨ k = 12 := by omega
  rcases c with rfl | rfl | rfl | rfl | rfl | rfl | rfl | rfl | rfl | rfl | rfl | rfl
  · obtain ⟨hv, hp, ha⟩ := rng1 ek hr
    show whole ((((rdVal (letV s.val ++ headL s, kS 1)).bind rdPlc).bind rdAcc).bind rdCol) = _
    rw [rdVal_back hv]
    have := head_reads (p := s.place) (a := s.acc) s.col (r := []) hp ha rfl (by simp) { kS 1 with val := s.val }
    rw [List.append_nil] at this
    show whole (((rdPlc (headL s, _)).bind rdAcc).bind rdCol) = _
    unfold headL
    rw [this]
    conv => rhs; rw [e]
    rfl
  · have hv := rng2 ek hr
    show whole ((rdTk 114 (114 :: letV s.val, kS 2)).bind rdVal) = _
    unfold rdTk
    rw [tk_cons]
    have := rdVal_back hv [] (kS 2)
    rw [List.append_nil] at this
    show whole (rdVal (letV s.val, _)) = _
    rw [this]
    conv => rhs; rw [e]
    rfl
  · conv => rhs; rw [e]
    rfl
  · obtain ⟨⟨hp, ha⟩, hs⟩ := rng4 ek hr
    show whole ((((((rdTk 116 (116 :: (headL s ++ stemL s.stem ++ mkL s.obl 126 ++ mkL s.last 33), kS 4)).bind rdPlc).bind rdAcc).bind rdCol).bind rdStem).bind rdObl |>.bind rdLast) = _
    unfold rdTk
    rw [tk_cons]
    have tail : ∀ x t, stemL s.stem ++ mkL s.obl 126 ++ mkL s.last 33 = x :: t → x = 94 ∨ x = 118 ∨ x = 62 ∨ x = 126 ∨ x = 33 := by
      exact fun x t hx => tail_of hs.1 hs.2 s.obl s.last hx
    have h1 := head_reads (p := s.place) (a := s.acc) s.col (r := stemL s.stem ++ mkL s.obl 126 ++ mkL s.last 33) hp ha (by
      cases hx : stemL s.stem ++ mkL s.obl 126 ++ mkL s.last 33 with
      | nil => rfl
      | cons x t => rcases tail x t hx with rfl | rfl | rfl | rfl | rfl <;> rfl) (fun x t hx => by rcases tail x t hx with rfl | rfl | rfl | rfl | rfl <;> decide) (kS 4)
    have eq1 : headL s ++ stemL s.stem ++ mkL s.obl 126 ++ mkL s.last 33 = Lib.itoa s.place ++ accL s.acc ++ mkL s.col 42 ++ (stemL s.stem ++ mkL s.obl 126 ++ mkL s.last 33) := by simp [headL]
    show whole ((((((rdPlc (headL s ++ stemL s.stem ++ mkL s.obl 126 ++ mkL s.last 33, kS 4)).bind rdAcc).bind rdCol).bind rdStem).bind rdObl).bind rdLast) = _
    rw [eq1, h1]
    have h2 : stemR (stemL s.stem ++ mkL s.obl 126 ++ mkL s.last 33) = (s.stem, mkL s.obl 126 ++ mkL s.last 33) := by
      rw [List.append_assoc]
      refine stem_back hs.1 hs.2 fun x t hx => ?_
      rcases tail_mk s.obl s.last hx with rfl | rfl <;> decide
    have h3 : opt 126 (mkL s.obl 126 ++ mkL s.last 33) = (s.obl, mkL s.last 33) := opt_back _ _ fun x t hx => by
      obtain rfl := tail_one s.last hx
      decide
    have h4 : opt 33 (mkL s.last 33) = (s.last, []) := by
      have := opt_back s.last 33 (r := []) (by simp)
      rwa [List.append_nil] at this
    show whole (((rdStem (_, _)).bind rdObl).bind rdLast) = _
    unfold rdStem
    rw [h2]
    show whole ((rdObl (_, _)).bind rdLast) = _
    unfold rdObl
    rw [h3]
    show whole (rdLast (_, _)) = _
    unfold rdLast
    rw [h4]
    conv => rhs; rw [e]
    rfl
  · have hq := hm ek
    obtain ⟨p1, p2, p3⟩ := par_back hq
    have hup := upto_back 41 (texL (mq s)) (mkL s.stk 124) p3
    have eq1 : texL (mq s) ++ [41] ++ mkL s.stk 124 = texL (mq s) ++ 41 :: mkL s.stk 124 := by simp
    show whole ((rdMens (40 :: (texL (mq s) ++ [41] ++ mkL s.stk 124), kS 5)).bind rdStk) = _
    unfold rdMens
    rw [tk_cons, eq1]
    show whole (((upto 41 (texL (mq s) ++ 41 :: mkL s.stk 124)).2.bind _).bind rdStk) = _
    rw [hup]
    show whole ((if parE (bytes (texL (mq s))) = 0 then some (mkL s.stk 124, putM (parQ (bytes (texL (mq s)))) (kS 5)) else none).bind rdStk) = _
    rw [if_pos p1, p2]
    have h4 : opt 124 (mkL s.stk 124) = (s.stk, []) := by
      have := opt_back s.stk 124 (r := []) (by simp)
      rwa [List.append_nil] at this
    show whole (rdStk (_, _)) = _
    unfold rdStk
    rw [h4]
    conv => rhs; rw [e]
    rfl
  · obtain ⟨hn, hd⟩ := rng6 ek hr
    obtain ⟨a1, a2⟩ := rdNum_back (n := s.n) (by omega) hn.2 (r := 47 :: Lib.itoa s.d) rfl
    obtain ⟨b1, b2⟩ := rdNum_back (n := s.d) (by omega) hd.2 (r := []) rfl
    rw [List.append_nil] at b1 b2
    show whole (((rdN (Lib.itoa s.n ++ [47] ++ Lib.itoa s.d, kS 6)).bind (rdTk 47)).bind rdD) = _
    rw [List.append_assoc]
    unfold rdN
    show whole ((((numberV ((Lib.itoa s.n ++ 47 :: Lib.itoa s.d).takeWhile dig)).map fun n => ((Lib.itoa s.n ++ 47 :: Lib.itoa s.d).dropWhile dig, { kS 6 with n := n })).bind (rdTk 47)).bind rdD) = _
    rw [a1, a2]
    show whole ((rdTk 47 (47 :: Lib.itoa s.d, _)).bind rdD) = _
    unfold rdTk
    rw [tk_cons]
    show whole (rdD (Lib.itoa s.d, _)) = _
    unfold rdD
    show whole ((numberV ((Lib.itoa s.d).takeWhile dig)).map fun n => ((Lib.itoa s.d).dropWhile dig, { kS 6 with n := s.n, d := n })) = _
    rw [b1, b2]
    conv => rhs; rw [e]
    rfl
  · obtain ⟨hc, hl⟩ := rng7 ek hr
    obtain ⟨b1, b2⟩ := rdNum_back (n := s.c1) (by omega) (by omega) (r := []) rfl
    rw [List.append_nil] at b1 b2
    show whole (((rdTk 64 (64 :: (clfL s.c0 ++ Lib.itoa s.c1), kS 7)).bind rdStep).bind rdLine) = _
    unfold rdTk
    rw [tk_cons]
    have hs : rdStep (clfL s.c0 ++ Lib.itoa s.c1, kS 7) = some (Lib.itoa s.c1, { kS 7 with c0 := s.c0 }) := by
      rcases hc with c | c | c <;> rw [c] <;> rfl
    show whole ((rdStep (clfL s.c0 ++ Lib.itoa s.c1, kS 7)).bind rdLine) = _
    rw [hs]
    show whole (rdLine (Lib.itoa s.c1, _)) = _
    unfold rdLine
    show whole ((numberV ((Lib.itoa s.c1).takeWhile dig)).map fun n => ((Lib.itoa s.c1).dropWhile dig, { kS 7 with c0 := s.c0, c1 := n })) = _
    rw [b1, b2]
    conv => rhs; rw [e]
    rfl
  · have hn := rng8 ek hr
    obtain ⟨b1, b2⟩ := rdNum_back (n := s.n) (by omega) (by omega) (r := []) rfl
    rw [List.append_nil] at b1 b2
    show whole ((rdTk 38 (38 :: Lib.itoa s.n, kS 8)).bind rdN) = _
    unfold rdTk
    rw [tk_cons]
    show whole (rdN (Lib.itoa s.n, _)) = _
    unfold rdN
    show whole ((numberV ((Lib.itoa s.n).takeWhile dig)).map fun n => ((Lib.itoa s.n).dropWhile dig, { kS 8 with n := n })) = _
    rw [b1, b2]
    conv => rhs; rw [e]
    rfl
  · conv => rhs; rw [e]
    rfl
  · have hn := rng10 ek hr
    obtain ⟨b1, b2⟩ := rdNum_back (n := s.n) (by omega) (by omega) (r := []) rfl
    rw [List.append_nil] at b1 b2
    show whole ((rdTk 93 (93 :: Lib.itoa s.n, kS 10)).bind rdN) = _
    unfold rdTk
    rw [tk_cons]
    show whole (rdN (Lib.itoa s.n, _)) = _
    unfold rdN
    show whole ((numberV ((Lib.itoa s.n).takeWhile dig)).map fun n => ((Lib.itoa s.n).dropWhile dig, { kS 10 with n := n })) = _
    rw [b1, b2]
    conv => rhs; rw [e]
    rfl
  · conv => rhs; rw [e]
    rfl
  · conv => rhs; rw [e]
    rfl
end Go.Proofs.YtdmedealdhadcaaGreatDoor

namespace Go.Proofs.YtdmedealdhadcaaGreatDoor
open Go.RowKit
/-- The byte at a place, -1 behind the end. -/
def bt (s : ByteArray) (j : Nat) : Int := if h : j < s.size then (s[j].toNat : Int) else -1
theorem bt_in {s : ByteArray} {j : Nat} (h : j < s.size) : bt s j = (s[j].toNat : Int) := by unfold bt; rw [dif_pos h]
theorem bt_out {s : ByteArray} {j : Nat} (h : ¬ j < s.size) : bt s j = -1 := by unfold bt; rw [dif_neg h]
theorem bt_lt {s : ByteArray} {j : Nat} (h : 0 ≤ bt s j) : j < s.size := by
  apply Classical.byContradiction; intro hx
  rw [bt_out hx] at h; omega
structure Wd where
  at_ : Int
  text : ByteArray
  quoted : Bool
def endsI (c : Int) : Bool := decide (c = -1 ∨ c = 32 ∨ c = 59)
/-- A quoted word from i to k, k excluded. -/
structure QuotedAt (s : ByteArray) (i k : Nat) : Prop where
  first : bt s i = 34
  before : i = 0 ∨ bt s (i - 1) = 32
  long : i + 2 ≤ k
  fits : k ≤ s.size
  inside : ∀ j, i < j → j < k - 1 → insideI (bt s j) = true
  last : bt s (k - 1) = 34
  ends : endsI (bt s k) = true
/-- A plain word from i to k, k excluded. -/
structure PlainAt (s : ByteArray) (i k : Nat) : Prop where
  long : i < k
  fits : k ≤ s.size
  plain : ∀ j, i ≤ j → j < k → plainI (bt s j) = true
  ends : plainI (bt s k) = false
/-- From a place of a line on: its words, and where the first thing is wrong. -/
inductive Cuts (s : ByteArray) (from_ : Int) : Nat → List Wd → Option Nat → Prop
  | stop {i : Nat} (h : i = s.size) : Cuts s from_ i [] none
  | note {i : Nat} (h : bt s i = 59) : Cuts s from_ i [] none
  | blank {i : Nat} {ws b} (h : bt s i = 32) (t : Cuts s from_ (i + 1) ws b) : Cuts s from_ i ws b
  | quote {i k : Nat} {ws b} (h : QuotedAt s i k) (t : Cuts s from_ k ws b) : Cuts s from_ i (⟨from_ + i, s.extract (i + 1) (k - 1), true⟩ :: ws) b
  | word {i k : Nat} {ws b} (h : PlainAt s i k) (t : Cuts s from_ k ws b) : Cuts s from_ i (⟨from_ + i, s.extract i k, false⟩ :: ws) b
  | badq {i : Nat} (h : bt s i = 34) (q : ∀ k, ¬ QuotedAt s i k) : Cuts s from_ i [] (some i)
  | bad {i : Nat} (h : 0 ≤ bt s i) (h1 : bt s i ≠ 59) (h2 : bt s i ≠ 32) (h3 : bt s i ≠ 34) (h4 : plainI (bt s i) = false) : Cuts s from_ i [] (some i)
theorem inside34 : insideI 34 = false := by decide
theorem quoted_one {s : ByteArray} {i k k' : Nat} (h : QuotedAt s i k) (h' : QuotedAt s i k') : k = k' := by
  have l1 := h.long
  have l2 := h'.long
  rcases Nat.lt_trichotomy k k' with x | x | x
  · have := h'.inside (k - 1) (by omega) (by omega)
    rw [h.last, inside34] at this; cases this
  · exact x
  · have := h.inside (k' - 1) (by omega) (by omega)
    rw [h'.last, inside34] at this; cases this
theorem plain_one {s : ByteArray} {i k k' : Nat} (h : PlainAt s i k) (h' : PlainAt s i k') : k = k' := by
  have l1 := h.long
  have l2 := h'.long
  rcases Nat.lt_trichotomy k k' with x | x | x
  · have := h'.plain k (by omega) x
    rw [h.ends] at this; cases this
  · exact x
  · have := h.plain k' (by omega) x
    rw [h'.ends] at this; cases this
theorem plain_first {s : ByteArray} {i k : Nat} (h : PlainAt s i k) : plainI (bt s i) = true := h.plain i (Nat.le_refl _) h.long
theorem plainI_iff {c : Int} : plainI c = true ↔ 33 ≤ c ∧ c ≤ 126 ∧ c ≠ 59 ∧ c ≠ 34 := by unfold plainI; exact decide_eq_true_iff
/-- There is one answer. -/
theorem Cuts.one {s : ByteArray} {f : Int} {i : Nat} {ws : List Wd} {b : Option Nat} (h : Cuts s f i ws b) : ∀ {ws' b'}, Cuts s f i ws' b' → ws = ws' ∧ b = b' := by
  induction h with
  | stop h =>
    rename_i i
    have hb : bt s i = -1 := bt_out (by omega)
    intro ws' b' k
    cases k with
    | stop _ => exact ⟨rfl, rfl⟩
    | note h1 => omega
    | blank h1 t => omega
    | quote h1 t => have := h1.first; omega
    | word h1 t => have := plainI_iff.1 (plain_first h1); omega
    | badq h1 q => omega
    | bad h0 => omega
  | note h =>
    rename_i i
    intro ws' b' k
    cases k with
    | stop h1 => have : bt s i = -1 := bt_out (by omega); omega
    | note _ => exact ⟨rfl, rfl⟩
    | blank h1 t => omega
    | quote h1 t => have := h1.first; omega
    | word h1 t => have := plainI_iff.1 (plain_first h1); omega
    | badq h1 q => omega
    | bad h0 h1 => exact absurd h h1
  | blank h t ih =>
    rename_i i _ _
    intro ws' b' k
    cases k with
    | stop h1 => have : bt s i = -1 := bt_out (by omega); omega
    | note h1 => omega
    | blank h1 t => exact ih t
    | quote h1 t => have := h1.first; omega
    | word h1 t => have := plainI_iff.1 (plain_first h1); omega
    | badq h1 q => omega
    | bad h0 h1 h2 => exact absurd h h2
  | quote h t ih =>
    rename_i i _ _ _
    have hf := h.first
    intro ws' b' k
    cases k with
    | stop h1 => have : bt s i = -1 := bt_out (by omega); omega
    | note h1 => omega
    | blank h1 t => omega
    | quote h1 t1 =>
      obtain rfl := quoted_one h h1
      obtain ⟨rfl, rfl⟩ := ih t1
      exact ⟨rfl, rfl⟩
    | word h1 t => have := plainI_iff.1 (plain_first h1); omega
    | badq h1 q => exact absurd h (q _)
    | bad h0 h1 h2 h3 => exact absurd hf h3
  | word h t ih =>
    rename_i i _ _ _
    have hf := plainI_iff.1 (plain_first h)
    intro ws' b' k
    cases k with
    | stop h1 => have : bt s i = -1 := bt_out (by omega); omega
    | note h1 => omega
    | blank h1 t => omega
    | quote h1 t1 => have := h1.first; omega
    | word h1 t1 =>
      obtain rfl := plain_one h h1
      obtain ⟨rfl, rfl⟩ := ih t1
      exact ⟨rfl, rfl⟩
    | badq h1 q => omega
    | bad h0 h1 h2 h3 h4 => rw [plain_first h] at h4; cases h4
  | badq h q =>
    rename_i i
    intro ws' b' k
    cases k with
    | stop h1 => have : bt s i = -1 := bt_out (by omega); omega
    | note h1 => omega
    | blank h1 t => omega
    | quote h1 t => exact absurd h1 (q _)
    | word h1 t => have := plainI_iff.1 (plain_first h1); omega
    | badq _ _ => exact ⟨rfl, rfl⟩
    | bad h0 h1 h2 h3 => exact absurd h h3
  | bad h0 h1 h2 h3 h4 =>
    rename_i i
    intro ws' b' k
    cases k with
    | stop h => have : bt s i = -1 := bt_out (by omega); omega
    | note h => exact absurd h h1
    | blank h t => exact absurd h h2
    | quote h t => exact absurd h.first h3
    | word h t => rw [plain_first h] at h4; cases h4
    | badq h q => exact absurd h h3
    | bad _ _ _ _ _ => exact ⟨rfl, rfl⟩
/-- Behind the bytes that may stand inside: the end of the line, or a byte that may not, decides. -/
theorem quoted_end {s : ByteArray} {i j : Nat} (hi : i < j) (hin : ∀ m, i < m → m < j → insideI (bt s m) = true) (hj : insideI (bt s j) = false) (k : Nat) (q : QuotedAt s i k) : k = j + 1 := by
  have l := q.long
  rcases Nat.lt_trichotomy (k - 1) j with x | x | x
  · have := hin (k - 1) (by omega) x
    rw [q.last, inside34] at this; cases this
  · omega
  · have := q.inside j hi x
    rw [hj] at this; cases this
end Go.Proofs.YtdmedealdhadcaaGreatDoor

namespace Go.Proofs.YtdmedealdhadcaaGreatDoor
open Go.RowKit
/-- A slice, nil or not: n elements of so many cells. -/
structure SliceP (w : World) (p : Option Addr) (cap n size : Nat) (xs : List Value) : Prop where
  fit : n ≤ cap
  max : cap ≤ 9223372036854775807
  nil : p = none → cap = 0
  len : xs.length = n * size
  at_ : 0 < n → ∃ b off, p = some ⟨b, off, none⟩ ∧ b < w.heap.size ∧ ∀ j u, xs[j]? = some u → w.cell? ⟨b, off + j, none⟩ = some u
theorem SliceP.later {w w1 : World} {p : Option Addr} {cap n size : Nat} {xs : List Value} (h : SliceP w p cap n size xs) (k : Below w.heap.size w w1) : SliceP w1 p cap n size xs :=
  ⟨h.fit, h.max, h.nil, h.len, fun h0 => by
    obtain ⟨b, off, e, hb, hc⟩ := h.at_ h0
    exact ⟨b, off, e, Nat.lt_of_lt_of_le hb k.size, fun j u hu => by rw [← hc j u hu]; exact k.cell (p := ⟨b, off + j, none⟩) hb⟩⟩
theorem SliceP.below {w w1 : World} {B : Nat} {p : Option Addr} {cap n size : Nat} {xs : List Value} (h : SliceP w p cap n size xs) (k : Below B w w1) (hB : w.heap.size ≤ B) : SliceP w1 p cap n size xs :=
  ⟨h.fit, h.max, h.nil, h.len, fun h0 => by
    obtain ⟨b, off, e, hb, hc⟩ := h.at_ h0
    exact ⟨b, off, e, Nat.lt_of_lt_of_le hb k.size, fun j u hu => by rw [← hc j u hu]; exact k.cell (p := ⟨b, off + j, none⟩) (by show b < B; omega)⟩⟩
theorem slice_of_own {w : World} {base size : Nat} {e : TypeId} {v : Value} {n : Nat} {xs : List Value} (h : w.ownsRow base e size v n xs) : ∃ p cap, v = .slice p n cap ∧ SliceP w p cap n size xs := by
  have hlen := h.1
  rcases h.2 with ⟨rfl, hn⟩ | ⟨g, cap, cur, rfl, hb, hg, hnc, hcm, hcs, ht⟩
  · exact ⟨none, 0, by rw [hn], by omega, by omega, fun _ => rfl, hlen, fun h0 => by omega⟩
  · unfold maxLen at hcm
    refine ⟨some ⟨g, 0, none⟩, cap, rfl, hnc, by omega, fun e => (by cases e), hlen, fun _ => ⟨g, 0, rfl, (Array.getElem?_eq_some_iff.1 hg).1, fun j u hu => ?_⟩⟩
    have hj := (List.getElem?_eq_some_iff.1 hu).1
    rw [Nat.zero_add, h.cellAt j (by omega), hu]
theorem w_own {w w1 : World} {base size B : Nat} {e : TypeId} {v : Value} {n : Nat} {xs : List Value} (h : w.ownsRow base e size v n xs) (k : Below B w w1) (hB : w.heap.size ≤ B) : w1.ownsRow base e size v n xs := by
  refine ⟨h.1, ?_⟩
  rcases h.2 with hn | ⟨g, cap, cur, hv, hb, hg, rest⟩
  · exact .inl hn
  · exact .inr ⟨g, cap, cur, hv, hb, by rw [k.block g (by have := (Array.getElem?_eq_some_iff.1 hg).1; omega)]; exact hg, rest⟩
theorem w_addr (b off j : Nat) : (⟨b, off, none⟩ : Addr).add j = ⟨b, off + j, none⟩ := by
  unfold Addr.add; split
  · rename_i h; subst h; rfl
  · rfl
def flatW : List Wd → List Value
  | [] => []
  | x :: t => .int .i64 x.at_ :: .string x.text :: .bool x.quoted :: flatW t
def noWd : Wd := ⟨0, ⟨#[]⟩, false⟩
theorem flatW_app : ∀ l m, flatW (l ++ m) = flatW l ++ flatW m
  | [], _ => rfl
  | x :: t, m => by show flatW (x :: (t ++ m)) = _; simp [flatW, flatW_app t m]
theorem flatW_one : ∀ (l : List Wd), ∀ u ∈ flatW l, u.oneCell' = true
  | [], u, h => by simp [flatW] at h
  | x :: t, u, h => by
    simp only [flatW, List.mem_cons] at h
    rcases h with rfl | rfl | rfl | h
    · rfl
    · rfl
    · rfl
    · exact flatW_one t u h
theorem flatW_get : ∀ (l : List Wd) (k : Nat), k < l.length → (flatW l)[k * 3]? = some (.int .i64 (l.getD k noWd).at_) ∧ (flatW l)[k * 3 + 1]? = some (.string (l.getD k noWd).text) ∧ (flatW l)[k * 3 + 2]? = some (.bool (l.getD k noWd).quoted)
  | [], k, h => by simp at h
  | x :: t, 0, _ => ⟨rfl, rfl, rfl⟩
  | x :: t, k + 1, h => by
    have := flatW_get t k (by simpa using h)
    rw [show (k + 1) * 3 = k * 3 + 1 + 1 + 1 by omega]
    simpa [flatW] using this
/-- A new word, as its block holds it. -/
theorem new_word (w : World) (a : Int) (t : ByteArray) (q : Bool) (ty : TypeId) : ∀ j u, (flatW [⟨a, t, q⟩])[j]? = some u → (w.alloc (.cells #[.int .i64 a, .string t, .bool q] ty)).cell? ((⟨w.heap.size, 0, none⟩ : Addr).add j) = some u := by
  intro j u hu
  rw [w_addr]
  match j, hu with
  | 0, hu => simp [flatW] at hu; subst hu; simp [go_sem]
  | 1, hu => simp [flatW] at hu; subst hu; simp [go_sem]
  | 2, hu => simp [flatW] at hu; subst hu; simp [go_sem]
  | j + 3, hu => simp [flatW] at hu
theorem info_word : (Tryz.prog.info? 101).map (fun i => (i.zero, i.size, i.bytes)) = some (some (.agg #[.int .i64 0, .string ⟨#[]⟩, .bool false]), 3, 32) := by kernel_rfl
theorem info_row : (Tryz.prog.info? 62).map (fun i => (i.zero, i.size, i.bytes)) = some (some (.agg #[.int .i64 0, .slice none 0 0]), 2, 32) := by kernel_rfl
/-- Draws change nothing that is read. -/
theorem bel_drewN {B : Nat} {a w : World} (h : Below B a w) (n : Nat) : Below B a (w.drewN n) := ⟨h.os, h.tape, h.output, h.size, h.block⟩
end Go.Proofs.YtdmedealdhadcaaGreatDoor

namespace Go.Proofs.YtdmedealdhadcaaGreatDoor
open Go.RowKit
/-- What the words of a line come back as. -/
def CutPost (s : ByteArray) (f : Int) (w : World) (e : Ending) (w' : World) : Prop :=
  ∃ ws b, Cuts s f 0 ws b ∧ ws.length ≤ s.size ∧ Below w.heap.size w w' ∧
    match b with
    | none => ∃ v, e = .returned (.tuple #[v, .int .i64 (-1)]) ∧ w'.ownsRow w.heap.size 101 3 v ws.length (flatW ws)
    | some j => e = .returned (.tuple #[.slice none 0 0, .int .i64 (j : Nat)]) ∧ j < s.size
/-- The words so far, at a place. -/
structure CutInv (s : ByteArray) (f : Int) (w wr : World) (i : Nat) (acc : List Wd) (v : Value) : Prop where
  own : wr.ownsRow w.heap.size 101 3 v acc.length (flatW acc)
  bel : Below w.heap.size w wr
  cuts : ∀ ws b, Cuts s f i ws b → Cuts s f 0 (acc ++ ws) b
theorem CutInv.blank {s : ByteArray} {f : Int} {w wr : World} {i : Nat} {acc : List Wd} {v : Value} (h : CutInv s f w wr i acc v) (hb : bt s i = 32) : CutInv s f w wr (i + 1) acc v :=
  ⟨h.own, h.bel, fun ws b t => h.cuts ws b (.blank hb t)⟩
theorem CutInv.stop {s : ByteArray} {f : Int} {w wr : World} {i : Nat} {acc : List Wd} {v : Value} (h : CutInv s f w wr i acc v) (hl : acc.length ≤ s.size) (hc : Cuts s f i [] none) :
    CutPost s f w (.returned (.tuple #[v, .int .i64 (-1)])) wr :=
  ⟨acc, none, by have := h.cuts [] none hc; rwa [List.append_nil] at this, hl, h.bel, v, rfl, h.own⟩
theorem CutInv.bad {s : ByteArray} {f : Int} {w wr : World} {i : Nat} {acc : List Wd} {v : Value} (h : CutInv s f w wr i acc v) (hl : acc.length ≤ s.size) (hi : i < s.size) (hc : Cuts s f i [] (some i)) :
    CutPost s f w (.returned (.tuple #[.slice none 0 0, .int .i64 i])) wr :=
  ⟨acc, some i, by have := h.cuts [] (some i) hc; rwa [List.append_nil] at this, hl, h.bel, rfl, hi⟩
theorem CutInv.more {s : ByteArray} {f : Int} {w wr w2 : World} {i k : Nat} {acc : List Wd} {v v' : Value} {x : Wd} (h : CutInv s f w wr i acc v)
    (hown : w2.ownsRow w.heap.size 101 3 v' (acc ++ [x]).length (flatW (acc ++ [x]))) (hb : Below w.heap.size w w2) (hc : ∀ ws b, Cuts s f k ws b → Cuts s f i (x :: ws) b) : CutInv s f w w2 k (acc ++ [x]) v' :=
  ⟨hown, hb, fun ws b t => by have := h.cuts (x :: ws) b (hc ws b t); rwa [List.append_assoc]⟩
end Go.Proofs.YtdmedealdhadcaaGreatDoor
