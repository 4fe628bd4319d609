/- Reading what is written, as plain mathematics. -/
import Derived.Test.YtdjkgnganbeonaaDoorSame
import Derived.Test.YtdjkgnganbeonaaDoorCalc
namespace Go.Proofs.YtdjkgnganbeonaaDoor
open Go.RowKit

/-- Words without their offsets. -/
def bareW (ws : List Wd) : List (ByteArray × Bool) := ws.map fun x => (x.text, x.quoted)
def bareR (rs : List Rw) : List (List (ByteArray × Bool)) := rs.map fun r => bareW r.words

theorem bareW_len {a b : List Wd} (h : bareW a = bareW b) : a.length = b.length := by
  have := congrArg List.length h; simpa [bareW] using this
theorem bareW_get {a b : List Wd} (h : bareW a = bareW b) (m : Nat) (hm : m < a.length) : (a.getD m noWd).text = (b.getD m noWd).text ∧ (a.getD m noWd).quoted = (b.getD m noWd).quoted := by
  have hl := bareW_len h
  have e : (bareW a)[m]? = (bareW b)[m]? := by rw [h]
  unfold bareW at e
  rw [List.getElem?_map, List.getElem?_map, List.getElem?_eq_getElem hm, List.getElem?_eq_getElem (by omega : m < b.length)] at e
  simp only [Option.map_some, Option.some.injEq, Prod.mk.injEq] at e
  rw [List.getD, List.getD, List.getElem?_eq_getElem hm, List.getElem?_eq_getElem (by omega : m < b.length)]
  exact e
theorem bareR_get {a b : List Rw} (h : bareR a = bareR b) (k : Nat) (hk : k < a.length) : bareW (a.getD k noRw).words = bareW (b.getD k noRw).words := by
  have hl : a.length = b.length := by have := congrArg List.length h; simpa [bareR] using this
  have e : (bareR a)[k]? = (bareR b)[k]? := by rw [h]
  unfold bareR at e
  rw [List.getElem?_map, List.getElem?_map, List.getElem?_eq_getElem hk, List.getElem?_eq_getElem (by omega : k < b.length)] at e
  simp only [Option.map_some, Option.some.injEq] at e
  rw [List.getD, List.getD, List.getElem?_eq_getElem hk, List.getElem?_eq_getElem (by omega : k < b.length)]
  exact e
/-- Rows with the same words are alike without their offsets. -/
theorem same_of_bare {a b : List Rw} (h : bareR a = bareR b) : SameR false a b :=
  ⟨by have := congrArg List.length h; simpa [bareR] using this, fun k hk => bareW_len (bareR_get h k hk), fun e => (by cases e),
    fun k hk m hm => (bareW_get (bareR_get h k hk) m hm).1, fun k hk m hm => (bareW_get (bareR_get h k hk) m hm).2, fun e => (by cases e)⟩

/-! ### The text of rows depends on the words alone -/
theorem wordL_bare {x y : Wd} (h : (x.text, x.quoted) = (y.text, y.quoted)) : wordL x = wordL y ∧ okW x = okW y := by
  obtain ⟨_, t, q⟩ := x
  obtain ⟨_, t', q'⟩ := y
  simp only [Prod.mk.injEq] at h
  obtain ⟨rfl, rfl⟩ := h
  exact ⟨rfl, rfl⟩
theorem tailL_bare : ∀ {a b : List Wd}, bareW a = bareW b → tailL a = tailL b ∧ a.all okW = b.all okW
  | [], [], _ => ⟨rfl, rfl⟩
  | x :: s, y :: t, h => by
    simp only [bareW, List.map_cons, List.cons.injEq] at h
    obtain ⟨h1, h2⟩ := h
    obtain ⟨e1, e2⟩ := wordL_bare h1
    obtain ⟨e3, e4⟩ := tailL_bare (a := s) (b := t) h2
    exact ⟨by simp [tailL, e1, e3], by simp [e2, e4]⟩
  | [], _ :: _, h => by simp [bareW] at h
  | _ :: _, [], h => by simp [bareW] at h
theorem lineL_bare : ∀ {a b : List Wd}, bareW a = bareW b → lineL a = lineL b
  | [], [], _ => rfl
  | x :: s, y :: t, h => by
    simp only [bareW, List.map_cons, List.cons.injEq] at h
    obtain ⟨h1, h2⟩ := h
    show wordL x ++ tailL s = wordL y ++ tailL t
    rw [(wordL_bare h1).1, (tailL_bare (a := s) (b := t) h2).1]
  | [], _ :: _, h => by simp [bareW] at h
  | _ :: _, [], h => by simp [bareW] at h
theorem rowE_bare {a b : List Wd} (h : bareW a = bareW b) : rowE a = rowE b := by
  have e0 : (a = [] ↔ b = []) := by
    have := bareW_len h
    constructor
    · rintro rfl; exact List.length_eq_zero_iff.1 this.symm
    · rintro rfl; exact List.length_eq_zero_iff.1 this
  unfold rowE
  rw [lineL_bare h, (tailL_bare h).2]
  simp only [e0]
theorem textG_bare : ∀ {a b : List Rw} (out : List UInt8), bareR a = bareR b → textG out a = textG out b
  | [], [], _, _ => rfl
  | x :: s, y :: t, out, h => by
    simp only [bareR, List.map_cons, List.cons.injEq] at h
    obtain ⟨h1, h2⟩ := h
    unfold textG
    rw [rowE_bare h1, lineL_bare h1, textG_bare (a := s) (b := t) _ h2]
  | [], _ :: _, _, h => by simp [bareR] at h
  | _ :: _, [], _, h => by simp [bareR] at h

/-- The text of rows without an error. -/
def bodyL : List Rw → List UInt8
  | [] => []
  | r :: t => lineL r.words ++ [10] ++ bodyL t
theorem bodyL_app : ∀ a b : List Rw, bodyL (a ++ b) = bodyL a ++ bodyL b
  | [], _ => rfl
  | r :: t, b => by show lineL r.words ++ [10] ++ bodyL (t ++ b) = _; rw [bodyL_app t b]; simp [bodyL]
theorem textG_good : ∀ (rs : List Rw) (out : List UInt8), (∀ r ∈ rs, rowE r.words = 0) → (out ++ bodyL rs).length ≤ 20000 → textG out rs = (out ++ bodyL rs, 0)
  | [], out, _, _ => by simp [textG, bodyL]
  | r :: t, out, h, hl => by
    unfold textG
    have e : out ++ bodyL (r :: t) = (out ++ (lineL r.words ++ [10])) ++ bodyL t := by simp [bodyL]
    rw [e] at hl ⊢
    rw [if_neg (by rw [h r (by simp)]; decide), if_neg (by rw [List.length_append] at hl; omega)]
    exact textG_good t _ (fun x hx => h x (by simp [hx])) hl
theorem textG_parts : ∀ (rs : List Rw) (out : List UInt8), (∀ r ∈ rs, rowE r.words ≠ 3) → out.length ≤ 20000 → ((textG out rs).2 = 4 ∨ ((textG out rs).2 = 0 ∧ (textG out rs).1 = out ++ bodyL rs ∧ (out ++ bodyL rs).length ≤ 20000 ∧ ∀ r ∈ rs, rowE r.words = 0))
  | [], out, _, h0 => by right; simp [textG, bodyL]; exact h0
  | r :: t, out, h, h0 => by
    unfold textG
    by_cases h1 : rowE r.words = 0
    · rw [if_neg (by rw [h1]; decide)]
      by_cases h2 : 20000 < (out ++ (lineL r.words ++ [10])).length
      · rw [if_pos h2]; left; rfl
      · rw [if_neg h2]
        have e : out ++ bodyL (r :: t) = (out ++ (lineL r.words ++ [10])) ++ bodyL t := by simp [bodyL]
        rw [e]
        rcases textG_parts t (out ++ (lineL r.words ++ [10])) (fun x hx => h x (by simp [hx])) (by omega) with h3 | ⟨h3, h4, h5, h6⟩
        · exact .inl h3
        · refine .inr ⟨h3, h4, h5, fun x hx => ?_⟩
          rcases List.mem_cons.1 hx with rfl | hx
          · exact h1
          · exact h6 x hx
    · rw [if_pos h1]
      left
      have h3 := h r (by simp)
      show rowE r.words = 4
      unfold rowE at h1 h3 ⊢
      split at h1
      · rename_i hc; rw [if_pos hc] at h3; exact absurd rfl h3
      · split at h1
        · rename_i h7 h8; rw [if_neg h7, if_pos h8]
        · exact absurd rfl h1

/-! ### The words of a line -/
/-- The end of a line: blanks, then nothing or a comment. -/
inductive EndL : List UInt8 → Prop
  | nil : EndL []
  | note (l : List UInt8) : EndL (59 :: l)
  | blank {l : List UInt8} (h : EndL l) : EndL (32 :: l)

theorem drop_bt {s : ByteArray} {L : List UInt8} (hs : s.data.toList = L) {i : Nat} {c : UInt8} {R : List UInt8} (h : L.drop i = c :: R) : i < s.size ∧ bt s i = (c.toNat : Int) ∧ L.drop (i + 1) = R := by
  have hi : i < L.length := by
    apply Classical.byContradiction; intro hx
    rw [List.drop_of_length_le (by omega)] at h; cases h
  have hsz : s.size = L.length := by rw [← hs]; simp
  have hi' : i < s.size := by omega
  have e : L.drop i = L[i] :: L.drop (i + 1) := List.drop_eq_getElem_cons hi
  rw [e] at h
  simp only [List.cons.injEq] at h
  refine ⟨hi', ?_, h.2⟩
  rw [bt_in hi']
  have : s[i] = L[i] := by subst hs; simp [ByteArray.getElem_eq_getElem_data]
  rw [this, h.1]
theorem bt_end {s : ByteArray} {L : List UInt8} (hs : s.data.toList = L) {i : Nat} (h : L.drop i = []) : bt s i = -1 := by
  have hsz : s.size = L.length := by rw [← hs]; simp
  exact bt_out (by have := List.drop_eq_nil_iff.1 h; omega)
theorem mid_bt {s : ByteArray} {L : List UInt8} (hs : s.data.toList = L) : ∀ (M : List UInt8) {i : Nat} {R : List UInt8}, L.drop i = M ++ R → L.drop (i + M.length) = R ∧ i + M.length ≤ max s.size i ∧ ∀ j, i ≤ j → j < i + M.length → ∃ c ∈ M, bt s j = (c.toNat : Int)
  | [], i, R, h => ⟨h, by simp; omega, fun j h1 h2 => by simp at h2; omega⟩
  | c :: M, i, R, h => by
    obtain ⟨h1, h2, h3⟩ := drop_bt hs h
    obtain ⟨h4, h5, h6⟩ := mid_bt hs M h3
    refine ⟨by rw [← h4]; congr 1; simp; omega, by simp; omega, fun j ha hb => ?_⟩
    by_cases hj : j = i
    · subst hj; exact ⟨c, by simp, h2⟩
    · obtain ⟨d, hd, e⟩ := h6 j (by omega) (by simp at hb; omega)
      exact ⟨d, by simp [hd], e⟩

theorem endL_cuts {s : ByteArray} {L : List UInt8} (hs : s.data.toList = L) (f : Int) {P : List UInt8} (hP : EndL P) : ∀ {i : Nat}, i ≤ L.length → L.drop i = P → Cuts s f i [] none := by
  induction hP with
  | nil =>
    intro i hi h
    have hsz : s.size = L.length := by rw [← hs]; simp
    exact .stop (by have := List.drop_eq_nil_iff.1 h; omega)
  | note l =>
    intro i hi h
    exact .note (drop_bt hs h).2.1
  | blank hl ih =>
    intro i hi h
    obtain ⟨h1, h2, h3⟩ := drop_bt hs h
    have hsz : s.size = L.length := by rw [← hs]; simp
    exact .blank h2 (ih (by omega) h3)

/-- Behind a word there is an end. -/
theorem tail_end (t : List Wd) {P : List UInt8} (hP : EndL P) : tailL t ++ P = [] ∨ ∃ c R, tailL t ++ P = c :: R ∧ (c = 32 ∨ c = 59) := by
  cases t with
  | cons x t => exact .inr ⟨32, _, rfl, .inl rfl⟩
  | nil =>
    cases hP with
    | nil => exact .inl rfl
    | note l => exact .inr ⟨59, l, rfl, .inr rfl⟩
    | blank h => exact .inr ⟨32, _, rfl, .inl rfl⟩

theorem extract_list {s : ByteArray} {L M : List UInt8} (hs : s.data.toList = L) {i : Nat} {R : List UInt8} (h : L.drop i = M ++ R) : (s.extract i (i + M.length)).data.toList = M := by
  have : (s.extract i (i + M.length)).data.toList = (L.drop i).take M.length := by
    subst hs
    rw [ByteArray.data_extract, Array.toList_extract]
    simp [List.extract]
  rw [this, h, List.take_left]
theorem bytes_list {a b : ByteArray} (h : a.data.toList = b.data.toList) : a = b := by
  have := bytes_of h
  rw [this]

/-- One word, with what stands behind it. -/
theorem word_cuts {s : ByteArray} {L : List UInt8} (hs : s.data.toList = L) (f : Int) (x : Wd) (hx : okW x = true) {i : Nat} {R : List UInt8} (h : L.drop i = wordL x ++ R) (hR : R = [] ∨ ∃ c R', R = c :: R' ∧ (c = 32 ∨ c = 59)) (hb : i = 0 ∨ bt s (i - 1) = 32) (hi : i ≤ L.length)
    {ws : List Wd} {b : Option Nat} (k : Cuts s f (i + (wordL x).length) ws b) : Cuts s f i (⟨f + i, x.text, x.quoted⟩ :: ws) b := by
  have hsz : s.size = L.length := by rw [← hs]; simp
  obtain ⟨m1, m2, m3⟩ := mid_bt hs _ h
  have hend : bt s (i + (wordL x).length) = -1 ∨ bt s (i + (wordL x).length) = 32 ∨ bt s (i + (wordL x).length) = 59 := by
    rcases hR with rfl | ⟨c, R', rfl, hc⟩
    · exact .inl (bt_end hs m1)
    · have := (drop_bt hs m1).2.1
      rcases hc with rfl | rfl
      · exact .inr (.inl this)
      · exact .inr (.inr this)
  obtain ⟨a, t, q⟩ := x
  cases q with
  | true =>
    have ew : wordL ⟨a, t, true⟩ = 34 :: (t.data.toList ++ [34]) := rfl
    have el : (wordL ⟨a, t, true⟩).length = t.data.toList.length + 2 := by rw [ew]; simp
    rw [ew] at h
    obtain ⟨b0, b1, b2⟩ := drop_bt hs (show L.drop i = 34 :: (t.data.toList ++ ([34] ++ R)) by rw [h]; simp)
    obtain ⟨n1, n2, n3⟩ := mid_bt hs _ b2
    obtain ⟨c0, c1, c2⟩ := drop_bt hs (show L.drop (i + 1 + t.data.toList.length) = 34 :: R by rw [n1]; rfl)
    have hall : t.data.toList.all (fun c => insideI c.toNat) = true := hx
    have hq : QuotedAt s i (i + (wordL ⟨a, t, true⟩).length) := by
      refine ⟨b1, hb, by rw [el]; omega, by rw [el]; omega, fun j h1 h2 => ?_, ?_, ?_⟩
      · rw [el] at h2
        obtain ⟨c, hc, e⟩ := n3 j (by omega) (by omega)
        rw [e]
        exact List.all_eq_true.1 hall c hc
      · rw [el, show i + (t.data.toList.length + 2) - 1 = i + 1 + t.data.toList.length by omega]
        exact c1
      · unfold endsI
        exact decide_eq_true hend
    have ht : t = s.extract (i + 1) (i + (wordL ⟨a, t, true⟩).length - 1) := by
      apply bytes_list
      have := extract_list hs b2
      rw [el, show i + (t.data.toList.length + 2) - 1 = i + 1 + t.data.toList.length by omega, this]
    have := Cuts.quote hq k
    rw [← ht] at this
    exact this
  | false =>
    have ew : wordL ⟨a, t, false⟩ = t.data.toList := rfl
    have hx' : (t.data.toList.all (fun c => plainI c.toNat) && decide (0 < t.size)) = true := hx
    rw [Bool.and_eq_true, decide_eq_true_eq] at hx'
    have hts : t.data.toList.length = t.size := by simp
    rw [ew] at h k m2 m3 hend
    have hp : PlainAt s i (i + t.data.toList.length) := by
      refine ⟨by omega, by omega, fun j h1 h2 => ?_, ?_⟩
      · obtain ⟨c, hc, e⟩ := m3 j h1 h2
        rw [e]
        exact List.all_eq_true.1 hx'.1 c hc
      · rcases hend with e | e | e <;> rw [e] <;> decide
    have ht : t = s.extract i (i + t.data.toList.length) := by
      apply bytes_list
      rw [extract_list hs h]
    have := Cuts.word hp k
    rw [← ht] at this
    exact this

theorem tail_cuts {s : ByteArray} {L : List UInt8} (hs : s.data.toList = L) (f : Int) {P : List UInt8} (hP : EndL P) : ∀ (t : List Wd) {i : Nat}, t.all okW = true → i ≤ L.length → L.drop i = tailL t ++ P → ∃ ws, Cuts s f i ws none ∧ bareW ws = bareW t
  | [], i, _, hi, h => ⟨[], endL_cuts hs f hP hi h, rfl⟩
  | x :: t, i, ha, hi, h => by
    simp only [List.all_cons, Bool.and_eq_true] at ha
    have hsz : s.size = L.length := by rw [← hs]; simp
    obtain ⟨b0, b1, b2⟩ := drop_bt hs (show L.drop i = 32 :: (wordL x ++ (tailL t ++ P)) by rw [h]; simp [tailL])
    obtain ⟨m1, m2, _⟩ := mid_bt hs _ b2
    obtain ⟨ws, h1, h2⟩ := tail_cuts hs f hP t ha.2 (by omega) m1
    refine ⟨_, .blank b1 (word_cuts hs f x ha.1 b2 (tail_end t hP) (.inr (by rw [Nat.add_sub_cancel]; exact b1)) (by omega) h1), ?_⟩
    show _ :: bareW ws = _ :: bareW t
    rw [h2]

/-- A line: blanks, the words, an end. -/
theorem line_cuts (f : Int) {P : List UInt8} (hP : EndL P) (ws : List Wd) (ha : ws.all okW = true) (n : Nat) (s : ByteArray) (hs : s.data.toList = List.replicate n 32 ++ (lineL ws ++ P)) : ∃ ws', Cuts s f 0 ws' none ∧ bareW ws' = bareW ws := by
  obtain ⟨L, hL⟩ : ∃ L, s.data.toList = L := ⟨_, rfl⟩
  have hsz : s.size = L.length := by rw [← hL]; simp
  rw [hL] at hs
  have key : ∀ m, m ≤ n → ∃ ws', Cuts s f (n - m) ws' none ∧ bareW ws' = bareW ws := by
    intro m
    induction m with
    | zero =>
      intro _
      have hd : L.drop n = lineL ws ++ P := by
        have e : (List.replicate n (32 : UInt8)).length = n := by simp
        have := @List.drop_left _ (List.replicate n (32 : UInt8)) (lineL ws ++ P)
        rw [e] at this
        rw [hs, this]
      have hn : n ≤ L.length := by rw [hs]; simp
      rw [Nat.sub_zero]
      cases ws with
      | nil => exact ⟨[], endL_cuts hL f hP hn hd, rfl⟩
      | cons x t =>
        simp only [List.all_cons, Bool.and_eq_true] at ha
        have hd2 : L.drop n = wordL x ++ (tailL t ++ P) := by rw [hd]; simp [lineL]
        obtain ⟨m1, m2, _⟩ := mid_bt hL _ hd2
        obtain ⟨ws, h1, h2⟩ := tail_cuts hL f hP t ha.2 (by omega) m1
        have hbef : n = 0 ∨ bt s (n - 1) = 32 := by
          by_cases h0 : n = 0
          · exact .inl h0
          · right
            have := (mid_bt hL (List.replicate n 32) (i := 0) (by rw [List.drop_zero]; exact hs)).2.2 (n - 1) (by omega) (by simp; omega)
            obtain ⟨c, hc, e⟩ := this
            rw [List.mem_replicate] at hc
            rw [e, hc.2]; rfl
        refine ⟨_, word_cuts hL f x ha.1 hd2 (tail_end t hP) hbef hn h1, ?_⟩
        show _ :: bareW ws = _ :: bareW t
        rw [h2]
    | succ m ih =>
      intro hm
      obtain ⟨ws', h1, h2⟩ := ih (by omega)
      refine ⟨ws', .blank ?_ (by rw [show n - (m + 1) + 1 = n - m by omega]; exact h1), h2⟩
      have := (mid_bt hL (List.replicate n 32) (i := 0) (by rw [List.drop_zero]; exact hs)).2.2 (n - (m + 1)) (by omega) (by simp; omega)
      obtain ⟨c, hc, e⟩ := this
      rw [List.mem_replicate] at hc
      rw [e, hc.2]; rfl
  have := key n (Nat.le_refl _)
  rwa [Nat.sub_self] at this

/-! ### The rows of a text -/
/-- A piece of a text, from one line's beginning to another's, reads as these rows. -/
def Reads (l : List UInt8) (bs : List (List (ByteArray × Bool))) : Prop :=
  ∀ (T : ByteArray) (A R : List UInt8), T.data.toList = A ++ (l ++ R) → ∀ rs2 b, RowsR T (A.length + l.length) rs2 b → ∃ rs1, RowsR T A.length (rs1 ++ rs2) b ∧ bareR rs1 = bs

theorem Reads.nil : Reads [] [] := fun _ _ _ _ _ _ h => ⟨[], h, rfl⟩
theorem Reads.app {l1 l2 : List UInt8} {b1 b2} (h1 : Reads l1 b1) (h2 : Reads l2 b2) : Reads (l1 ++ l2) (b1 ++ b2) := by
  intro T A R hT rs2 b h
  obtain ⟨r2, k2, e2⟩ := h2 T (A ++ l1) R (by rw [hT]; simp) rs2 b (by rw [List.length_append] at h ⊢; rwa [Nat.add_assoc])
  obtain ⟨r1, k1, e1⟩ := h1 T A (l2 ++ R) (by rw [hT]; simp) (r2 ++ rs2) b (by rw [List.length_append] at k2; exact k2)
  exact ⟨r1 ++ r2, by rw [List.append_assoc]; exact k1, by unfold bareR at *; rw [List.map_append, e1, e2]⟩
/-- A line and its end. -/
theorem Reads.line {l : List UInt8} (hn : ∀ c ∈ l, c ≠ 10) (hl : l.length ≤ 1000) {bs : List (ByteArray × Bool)} (h : ∀ (f : Int) (s : ByteArray), s.data.toList = l → ∃ ws, Cuts s f 0 ws none ∧ bareW ws = bs) : Reads (l ++ [10]) (if bs = [] then [] else [bs]) := by
  intro T A R hT rs2 b k
  have hd : T.data.toList.drop A.length = l ++ (10 :: R) := by rw [hT, List.drop_left]; simp
  obtain ⟨m1, m2, m3⟩ := mid_bt rfl l hd
  obtain ⟨n1, n2, n3⟩ := drop_bt rfl m1
  have hline : LineAt T A.length (A.length + l.length) := by
    refine ⟨by omega, by omega, fun m h1 h2 e => ?_, .inr n2⟩
    obtain ⟨c, hc, e2⟩ := m3 m h1 h2
    rw [e2] at e
    refine hn c hc (UInt8.toNat_inj.1 ?_)
    show c.toNat = 10
    omega
  have hk : A.length + (l ++ [10]).length = A.length + l.length + 1 := by simp; omega
  rw [hk] at k
  obtain ⟨ws, c1, c2⟩ := h A.length (T.extract A.length (A.length + l.length)) (extract_list rfl hd)
  by_cases hws : ws = []
  · subst hws
    obtain rfl : bs = [] := c2.symm
    exact ⟨[], .skip hline (by omega) c1 k, rfl⟩
  · have hbs : bs ≠ [] := by
      rintro rfl
      exact hws (by simpa [bareW] using c2)
    rw [if_neg hbs]
    exact ⟨[⟨A.length, ws⟩], .row hline (by omega) c1 hws k, by simp [bareR, c2]⟩
/-- A whole text. -/
theorem Reads.whole {l : List UInt8} {bs} (h : Reads l bs) (hl : l.length ≤ 20000) {rs : List Rw} {b : Option (Int × Int)} (k : RowsRes ⟨l.toArray⟩ rs b) : b = none ∧ bareR rs = bs := by
  have hsz : (⟨l.toArray⟩ : ByteArray).size = l.length := by show l.toArray.size = _; simp
  have hlast : RowsR ⟨l.toArray⟩ l.length [] none := by
    refine .skip (t := l.length) ⟨by omega, by omega, fun m h1 h2 => by omega, .inl hsz.symm⟩ (by omega) (.stop ?_) (.stop (by omega))
    rw [ByteArray.size_extract]; omega
  obtain ⟨rs1, k1, e1⟩ := h ⟨l.toArray⟩ [] [] (by simp) [] none (by simpa using hlast)
  rw [List.append_nil] at k1
  obtain ⟨r1, r2⟩ := k.one (show RowsRes ⟨l.toArray⟩ rs1 none from .inr ⟨by omega, rs1, k1, by simp⟩)
  rw [r1]
  exact ⟨r2, e1⟩

theorem word_no10 (x : Wd) (hx : okW x = true) : ∀ c ∈ wordL x, c ≠ 10 := by
  obtain ⟨a, t, q⟩ := x
  intro c hc e
  subst e
  cases q with
  | true =>
    have hall : t.data.toList.all (fun c => insideI c.toNat) = true := hx
    have hc' : (10 : UInt8) ∈ 34 :: (t.data.toList ++ [34]) := hc
    simp only [List.mem_cons, List.mem_append, List.not_mem_nil, or_false] at hc'
    rcases hc' with e | h | e
    · revert e; decide
    · exact absurd (List.all_eq_true.1 hall _ h) (by decide)
    · revert e; decide
  | false =>
    have hx' : (t.data.toList.all (fun c => plainI c.toNat) && decide (0 < t.size)) = true := hx
    rw [Bool.and_eq_true] at hx'
    exact absurd (List.all_eq_true.1 hx'.1 _ hc) (by decide)
theorem tail_no10 : ∀ (t : List Wd), t.all okW = true → ∀ c ∈ tailL t, c ≠ 10
  | [], _, c, hc => by simp [tailL] at hc
  | x :: t, ha, c, hc => by
    simp only [List.all_cons, Bool.and_eq_true] at ha
    simp only [tailL, List.mem_cons, List.mem_append] at hc
    rcases hc with rfl | hc | hc
    · decide
    · exact word_no10 x ha.1 c hc
    · exact tail_no10 t ha.2 c hc
theorem line_no10 (ws : List Wd) (ha : ws.all okW = true) : ∀ c ∈ lineL ws, c ≠ 10 := by
  cases ws with
  | nil => intro c hc; simp [lineL] at hc
  | cons x t =>
    simp only [List.all_cons, Bool.and_eq_true] at ha
    intro c hc
    simp only [lineL, List.mem_append] at hc
    rcases hc with hc | hc
    · exact word_no10 x ha.1 c hc
    · exact tail_no10 t ha.2 c hc

/-- A decorated line of words. -/
theorem Reads.row (n : Nat) (ws : List Wd) (ha : ws.all okW = true) {P : List UInt8} (hP : EndL P) (hp : ∀ c ∈ P, c ≠ 10) (hl : n + (lineL ws).length + P.length ≤ 1000) :
    Reads (List.replicate n 32 ++ (lineL ws ++ P) ++ [10]) (if bareW ws = [] then [] else [bareW ws]) := by
  refine Reads.line (fun c hc => ?_) (by simp; omega) (fun f s hs => line_cuts f hP ws ha n s hs)
  simp only [List.mem_append] at hc
  rcases hc with hc | hc | hc
  · rw [List.mem_replicate] at hc; rw [hc.2]; decide
  · exact line_no10 ws ha c hc
  · exact hp c hc

theorem rowE_zero {ws : List Wd} (h : rowE ws = 0) : ws ≠ [] ∧ ws.all okW = true ∧ (lineL ws).length ≤ 1000 := by
  unfold rowE at h
  split at h
  · cases h
  · rename_i h1
    split at h
    · cases h
    · exact ⟨fun e => h1 (.inl e), by cases e : ws.all okW with | true => rfl | false => exact absurd (.inr e) h1, by omega⟩
theorem bareW_nil {ws : List Wd} (h : bareW ws = []) : ws = [] := by simpa [bareW] using h
/-- The body of rows reads as the rows. -/
theorem Reads.body : ∀ (rs : List Rw), (∀ r ∈ rs, rowE r.words = 0) → Reads (bodyL rs) (bareR rs)
  | [], _ => Reads.nil
  | r :: t, h => by
    obtain ⟨h1, h2, h3⟩ := rowE_zero (h r (by simp))
    have e := Reads.row 0 r.words h2 EndL.nil (by simp) (by simp; omega)
    rw [if_neg (fun x => h1 (bareW_nil x))] at e
    have := Reads.app e (Reads.body t (fun x hx => h x (by simp [hx])))
    simpa [bodyL, bareR] using this

end Go.Proofs.YtdjkgnganbeonaaDoor
