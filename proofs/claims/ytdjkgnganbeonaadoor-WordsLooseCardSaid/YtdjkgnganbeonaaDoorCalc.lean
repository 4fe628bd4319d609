/- The rows of a text, reckoned: what a text's rows are, for texts that are written out. -/
import Derived.Test.YtdjkgnganbeonaaDoorQLen
import Derived.Test.YtdjkgnganbeonaaDoorWSpec
namespace Go.Proofs.YtdjkgnganbeonaaDoor
open Go.RowKit

def cutF (s : ByteArray) (f : Int) : Nat → Nat → List Wd × Option Nat
  | 0, _ => ([], none)
  | n + 1, i =>
    if s.size ≤ i then ([], none) else if bt s i = 59 then ([], none) else if bt s i = 32 then cutF s f n (i + 1)
    else if bt s i = 34 then
      if (i = 0 ∨ bt s (i - 1) = 32) ∧ bt s (i + 1 + runN quotableC (s.data.toList.drop (i + 1))) = 34 ∧ endsI (bt s (i + 1 + runN quotableC (s.data.toList.drop (i + 1)) + 1)) = true then
        (⟨f + i, s.extract (i + 1) (i + 1 + runN quotableC (s.data.toList.drop (i + 1))), true⟩ :: (cutF s f n (i + 1 + runN quotableC (s.data.toList.drop (i + 1)) + 1)).1, (cutF s f n (i + 1 + runN quotableC (s.data.toList.drop (i + 1)) + 1)).2)
      else ([], some i)
    else if plainI (bt s i) = true then
      (⟨f + i, s.extract i (i + runN plainC (s.data.toList.drop i)), false⟩ :: (cutF s f n (i + runN plainC (s.data.toList.drop i))).1, (cutF s f n (i + runN plainC (s.data.toList.drop i))).2)
    else ([], some i)

theorem cutF_ok (s : ByteArray) (f : Int) : ∀ n i, i ≤ s.size → s.size < n + i → Cuts s f i (cutF s f n i).1 (cutF s f n i).2
  | 0, i, h, h' => by omega
  | n + 1, i, h, h' => by
    unfold cutF
    by_cases h0 : s.size ≤ i
    · rw [if_pos h0]; exact .stop (by omega)
    rw [if_neg h0]
    have hlt : i < s.size := by omega
    by_cases h1 : bt s i = 59
    · rw [if_pos h1]; exact .note h1
    rw [if_neg h1]
    by_cases h2 : bt s i = 32
    · rw [if_pos h2]; exact .blank h2 (cutF_ok s f n (i + 1) (by omega) (by omega))
    rw [if_neg h2]
    by_cases h3 : bt s i = 34
    · rw [if_pos h3]
      obtain ⟨j, hj, hjs, hin, hout⟩ := run_from quotableC s (i + 1) (by omega)
      rw [← hj]
      have hin' : ∀ m, i < m → m < j → insideI (bt s m) = true := fun m a b => by rw [← cls_quotable]; exact hin m (by omega) b
      have hout' : insideI (bt s j) = false := by
        by_cases hh : j < s.size
        · rw [← cls_quotable]; exact hout hh
        · rw [bt_out hh]; rfl
      have hlast := fun k q => quoted_end (s := s) (i := i) (by omega) hin' hout' k q
      by_cases h4 : (i = 0 ∨ bt s (i - 1) = 32) ∧ bt s j = 34 ∧ endsI (bt s (j + 1)) = true
      · rw [if_pos h4]
        obtain ⟨a, b, c⟩ := h4
        have hjl : j < s.size := bt_lt (by omega)
        have q : QuotedAt s i (j + 1) := ⟨h3, a, by omega, by omega, fun m x y => hin' m x (by omega), by simpa using b, c⟩
        have := Cuts.quote q (cutF_ok s f n (j + 1) (by omega) (by omega))
        simpa using this
      · rw [if_neg h4]
        refine .badq h3 fun k q => h4 ?_
        obtain rfl := hlast k q
        exact ⟨q.before, by simpa using q.last, q.ends⟩
    rw [if_neg h3]
    by_cases h5 : plainI (bt s i) = true
    · rw [if_pos h5]
      obtain ⟨k, hk, hks, hin, hout⟩ := run_from plainC s i h
      rw [← hk]
      have hout' : plainI (bt s k) = false := by
        by_cases hh : k < s.size
        · rw [← cls_plain]; exact hout hh
        · rw [bt_out hh]; rfl
      have hik : i < k := by
        apply Classical.byContradiction; intro x
        rw [show k = i by omega, h5] at hout'; cases hout'
      exact .word ⟨hik, hks, fun m a b => by rw [← cls_plain]; exact hin m a b, hout'⟩ (cutF_ok s f n k hks (by omega))
    · rw [if_neg h5]
      exact .bad (by rw [bt_in hlt]; omega) h1 h2 h3 (by simpa using h5)

def lineN : List UInt8 → Nat
  | [] => 0
  | c :: t => if c.toNat = 10 then 0 else lineN t + 1
theorem lineN_spec : ∀ l : List UInt8, (∀ m b, m < lineN l → l[m]? = some b → (b.toNat : Int) ≠ 10) ∧ (∀ b, l[lineN l]? = some b → (b.toNat : Int) = 10) ∧ lineN l ≤ l.length
  | [] => ⟨fun m b h => by simp [lineN] at h, fun b h => by simp at h, Nat.le_refl _⟩
  | c :: t => by
    obtain ⟨i1, i2, i3⟩ := lineN_spec t
    by_cases hc : c.toNat = 10
    · have e : lineN (c :: t) = 0 := if_pos hc
      rw [e]
      exact ⟨fun m b h => by omega, fun b h => by simp at h; subst h; omega, Nat.zero_le _⟩
    · have e : lineN (c :: t) = lineN t + 1 := if_neg hc
      rw [e]
      refine ⟨fun m b h hb => ?_, fun b h => i2 b (by simpa using h), by simp; omega⟩
      cases m with
      | zero => simp at hb; subst hb; omega
      | succ m => exact i1 m b (by omega) (by simpa using hb)
theorem line_from (T : ByteArray) (i : Nat) (hi : i ≤ T.size) : LineAt T i (i + lineN (T.data.toList.drop i)) := by
  obtain ⟨i1, i2, i3⟩ := lineN_spec (T.data.toList.drop i)
  have hl : (T.data.toList.drop i).length = T.size - i := by simp
  rw [hl] at i3
  have at_ : ∀ m (hm : i + m < T.size), (T.data.toList.drop i)[m]? = some T[i + m] := fun m hm => by
    rw [List.getElem?_drop, List.getElem?_eq_getElem (by simpa using hm)]; rfl
  refine ⟨by omega, by omega, fun m a b => ?_, ?_⟩
  · have hm : i + (m - i) < T.size := by omega
    have := i1 (m - i) _ (by omega) (at_ (m - i) hm)
    rw [← bt_in hm, show i + (m - i) = m by omega] at this
    exact this
  · by_cases h : i + lineN (T.data.toList.drop i) < T.size
    · right; rw [bt_in h]; exact i2 _ (at_ _ h)
    · left; omega

def rowsF (T : ByteArray) : Nat → Nat → List Rw × Option (Int × Int)
  | 0, _ => ([], none)
  | n + 1, i =>
    if T.size < i then ([], none)
    else if 1000 < lineN (T.data.toList.drop i) then ([], some (4, (i : Int)))
    else match cutF (T.extract i (i + lineN (T.data.toList.drop i))) i (lineN (T.data.toList.drop i) + 1) 0 with
      | (_, some j) => ([], some (3, (i : Int) + j))
      | ([], none) => rowsF T n (i + lineN (T.data.toList.drop i) + 1)
      | (x :: ws, none) => (⟨i, x :: ws⟩ :: (rowsF T n (i + lineN (T.data.toList.drop i) + 1)).1, (rowsF T n (i + lineN (T.data.toList.drop i) + 1)).2)
theorem rowsF_ok (T : ByteArray) : ∀ n i, T.size + 1 < n + i → RowsR T i (rowsF T n i).1 (rowsF T n i).2
  | 0, i, h => .stop (by omega)
  | n + 1, i, h => by
    unfold rowsF
    by_cases h0 : T.size < i
    · rw [if_pos h0]; exact .stop h0
    rw [if_neg h0]
    have hl := line_from T i (by omega)
    by_cases h1 : 1000 < lineN (T.data.toList.drop i)
    · rw [if_pos h1]; exact .long hl (by omega)
    rw [if_neg h1]
    have hfit := hl.fits
    have hsz : (T.extract i (i + lineN (T.data.toList.drop i))).size = lineN (T.data.toList.drop i) := by rw [ByteArray.size_extract]; omega
    have hc := cutF_ok (T.extract i (i + lineN (T.data.toList.drop i))) i (lineN (T.data.toList.drop i) + 1) 0 (by omega) (by omega)
    have ih := rowsF_ok T n (i + lineN (T.data.toList.drop i) + 1) (by omega)
    revert hc
    generalize cutF (T.extract i (i + lineN (T.data.toList.drop i))) i (lineN (T.data.toList.drop i) + 1) 0 = r
    intro hc
    obtain ⟨ws, b⟩ := r
    cases b with
    | some j => exact .bad hl (by omega) hc
    | none =>
      cases ws with
      | nil => exact .skip hl (by omega) hc ih
      | cons x ws => exact .row hl (by omega) hc (by simp) ih
/-- What a short text's rows are. -/
theorem rows_calc (T : ByteArray) (n : Nat) (hT : T.size ≤ 20000) (hn : T.size + 1 < n) {rs b} (h : RowsRes T rs b) : b = (rowsF T n 0).2 ∧ rs = if (rowsF T n 0).2 = none then (rowsF T n 0).1 else [] := by
  have h' : RowsRes T (if (rowsF T n 0).2 = none then (rowsF T n 0).1 else []) (rowsF T n 0).2 := .inr ⟨hT, _, rowsF_ok T n 0 (by omega), rfl⟩
  obtain ⟨e1, e2⟩ := h.one h'
  exact ⟨e2, e1⟩

def shownB : ByteArray := ⟨#[112, 97, 114, 116, 32, 34, 67, 97, 110, 116, 117, 115, 32, 73, 34, 32, 59, 32, 116, 111, 112, 10, 98, 52, 32, 115, 45, 50, 42]⟩
def shownR : List Rw := [⟨0, [⟨0, ⟨#[112, 97, 114, 116]⟩, false⟩, ⟨5, ⟨#[67, 97, 110, 116, 117, 115, 32, 73]⟩, true⟩]⟩, ⟨22, [⟨22, ⟨#[98, 52]⟩, false⟩, ⟨25, ⟨#[115, 45, 50, 42]⟩, false⟩]⟩]
theorem shown_calc : rowsF shownB 31 0 = (shownR, none) := by kernel_rfl
theorem shown_res {rs b} (h : RowsRes shownB rs b) : rs = shownR ∧ b = none := by
  obtain ⟨e1, e2⟩ := rows_calc shownB 31 (by decide) (by decide) h
  rw [shown_calc] at e1 e2
  exact ⟨by rw [e2]; rfl, e1⟩

end Go.Proofs.YtdjkgnganbeonaaDoor
