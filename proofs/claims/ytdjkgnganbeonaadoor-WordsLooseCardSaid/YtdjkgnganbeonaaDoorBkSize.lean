/- What is read is of a bounded size, and can be written. -/
import Derived.Test.YtdjkgnganbeonaaDoorBkMath
namespace Go.Proofs.YtdjkgnganbeonaaDoor
open Go.RowKit

theorem extract_all {s : ByteArray} {f : UInt8 → Bool} (i k : Nat) (hk : k ≤ s.size) (h : ∀ j, (hj : j < s.size) → i ≤ j → j < k → f s[j] = true) : (s.extract i k).data.toList.all f = true := by
  rw [List.all_eq_true]
  intro c hc
  obtain ⟨m, hm, e⟩ := List.getElem_of_mem hc
  have hm' : m < min (k - i) (s.size - i) := by simpa using hm
  have hj : i + m < s.size := by omega
  have e2 : c = s[i + m] := by
    rw [← e]
    simp [ByteArray.data_extract, ByteArray.getElem_eq_getElem_data]
  rw [e2]
  exact h (i + m) hj (by omega) (by omega)

/-- Words of a line can be written, and are no longer than the line. -/
theorem cuts_ok {s : ByteArray} {f : Int} {i : Nat} {ws : List Wd} {b : Option Nat} (h : Cuts s f i ws b) : ws.all okW = true ∧ ws.length ≤ s.size - i ∧ ∀ x ∈ ws, x.text.size ≤ s.size := by
  induction h with
  | stop h => exact ⟨rfl, by simp, by simp⟩
  | note h => exact ⟨rfl, by simp, by simp⟩
  | blank h t ih => exact ⟨ih.1, by have := ih.2.1; omega, ih.2.2⟩
  | quote h t ih =>
    rename_i i k ws b
    have l1 := h.long
    have l2 := h.fits
    refine ⟨?_, by have := ih.2.1; simp; omega, fun x hx => ?_⟩
    · simp only [List.all_cons, Bool.and_eq_true]
      refine ⟨?_, ih.1⟩
      show (s.extract (i + 1) (k - 1)).data.toList.all (fun c => insideI c.toNat) = true
      refine extract_all _ _ (by omega) fun j hj h1 h2 => ?_
      have := h.inside j (by omega) (by omega)
      rwa [bt_in hj] at this
    · rcases List.mem_cons.1 hx with rfl | hx
      · show (s.extract (i + 1) (k - 1)).size ≤ _
        rw [ByteArray.size_extract]; omega
      · exact ih.2.2 x hx
  | word h t ih =>
    rename_i i k ws b
    have l1 := h.long
    have l2 := h.fits
    refine ⟨?_, by have := ih.2.1; simp; omega, fun x hx => ?_⟩
    · simp only [List.all_cons, Bool.and_eq_true]
      refine ⟨?_, ih.1⟩
      show ((s.extract i k).data.toList.all (fun c => plainI c.toNat) && decide (0 < (s.extract i k).size)) = true
      rw [Bool.and_eq_true]
      refine ⟨extract_all _ _ (by omega) fun j hj h1 h2 => ?_, decide_eq_true (by rw [ByteArray.size_extract]; omega)⟩
      have := h.plain j (by omega) (by omega)
      rwa [bt_in hj] at this
    · rcases List.mem_cons.1 hx with rfl | hx
      · show (s.extract i k).size ≤ _
        rw [ByteArray.size_extract]; omega
      · exact ih.2.2 x hx
  | badq h q => exact ⟨rfl, by simp, by simp⟩
  | bad h0 => exact ⟨rfl, by simp, by simp⟩

/-- Rows of a text can be written one by one, and are no more than the text. -/
theorem rows_ok {s : ByteArray} {i : Nat} {rs : List Rw} {b : Option (Int × Int)} (h : RowsR s i rs b) : rs.length ≤ s.size + 1 - i ∧ ∀ r ∈ rs, r.words ≠ [] ∧ r.words.all okW = true ∧ r.words.length ≤ s.size ∧ ∀ x ∈ r.words, x.text.size ≤ s.size := by
  induction h with
  | stop h => exact ⟨by simp, by simp⟩
  | long h hl => exact ⟨by simp, by simp⟩
  | bad h hl c => exact ⟨by simp, by simp⟩
  | skip h hl c r ih => exact ⟨by have := ih.1; have := h.le; omega, ih.2⟩
  | row h hl c hne r ih =>
    rename_i i t ws rs b
    have l1 := h.le
    have l2 := h.fits
    refine ⟨by have := ih.1; simp; omega, fun x hx => ?_⟩
    rcases List.mem_cons.1 hx with rfl | hx
    · obtain ⟨c1, c2, c3⟩ := cuts_ok c
      have e : (s.extract i t).size = t - i := by rw [ByteArray.size_extract]; omega
      rw [e] at c2 c3
      exact ⟨hne, c1, by show ws.length ≤ _; omega, fun x hx => by have := c3 x hx; omega⟩
    · exact ih.2 x hx

/-- Rows that can be written and are not many. -/
def Good (rs : List Rw) : Prop := Modest rs ∧ ∀ r ∈ rs, rowE r.words ≠ 3
theorem RowsRes.good {s : ByteArray} {rs : List Rw} {b : Option (Int × Int)} (h : RowsRes s rs b) (hs : s.size ≤ 3000) : Good rs := by
  have nil : Good [] := ⟨⟨by simp, by simp⟩, by simp⟩
  rcases h with ⟨_, rfl, _⟩ | ⟨_, rs', hr, rfl⟩
  · exact nil
  · split
    · obtain ⟨h1, h2⟩ := rows_ok hr
      refine ⟨⟨by omega, fun r hr => ⟨by have := (h2 r hr).2.2.1; omega, fun x hx => by have := (h2 r hr).2.2.2 x hx; omega⟩⟩, fun r hr e => ?_⟩
      obtain ⟨k1, k2, _⟩ := h2 r hr
      unfold rowE at e
      rw [if_neg (by rintro (x | x); exact k1 x; rw [k2] at x; cases x)] at e
      split at e <;> cases e
    · exact nil
theorem bareR_all {a b : List Rw} (h : bareR a = bareR b) {p q : List (ByteArray × Bool) → Prop} (hpq : ∀ l, p l → q l) (ha : ∀ r ∈ a, p (bareW r.words)) : ∀ r ∈ b, q (bareW r.words) := by
  intro r hr
  have : bareW r.words ∈ bareR b := List.mem_map.2 ⟨r, hr, rfl⟩
  rw [← h] at this
  obtain ⟨x, hx, e⟩ := List.mem_map.1 this
  rw [← e]
  exact hpq _ (ha x hx)
theorem modest_of_bare {a b : List Rw} (h : bareR a = bareR b) (hm : Modest a) : Modest b := by
  have hl : a.length = b.length := by have := congrArg List.length h; simpa [bareR] using this
  refine ⟨by have := hm.1; omega, fun r hr => ?_⟩
  have := bareR_all h (p := fun l => l.length ≤ 100000 ∧ ∀ x ∈ l, x.1.size ≤ 100000) (q := fun l => l.length ≤ 100000 ∧ ∀ x ∈ l, x.1.size ≤ 100000) (fun _ x => x) (fun x hx => ⟨by unfold bareW; rw [List.length_map]; exact (hm.2 x hx).1, fun y hy => by
    obtain ⟨z, hz, rfl⟩ := List.mem_map.1 hy
    exact (hm.2 x hx).2 z hz⟩) r hr
  refine ⟨by have := this.1; unfold bareW at this; rwa [List.length_map] at this, fun x hx => ?_⟩
  exact this.2 (x.text, x.quoted) (List.mem_map.2 ⟨x, hx, rfl⟩)

/-- What is written is read again. -/
theorem back_rows {rs : List Rw} (h : ∀ r ∈ rs, rowE r.words ≠ 3) (h0 : (textG [] rs).2 = 0) {rs' : List Rw} {b : Option (Int × Int)} (k : RowsRes ⟨(textG [] rs).1.toArray⟩ rs' b) : b = none ∧ bareR rs' = bareR rs ∧ (textG [] rs).1.length ≤ 20000 := by
  rcases textG_parts rs [] h (by simp) with e | ⟨_, e2, e3, e4⟩
  · rw [h0] at e; cases e
  · rw [List.nil_append] at e2 e3
    rw [e2] at k ⊢
    obtain ⟨k1, k2⟩ := (Reads.body rs e4).whole e3 k
    exact ⟨k1, k2, e3⟩
theorem err_of {rs : List Rw} (h : ∀ r ∈ rs, rowE r.words ≠ 3) : (textG [] rs).2 = 0 ∨ (textG [] rs).2 = 4 := by
  rcases textG_parts rs [] h (by simp) with e | ⟨e, _⟩
  · exact .inr e
  · exact .inl e

end Go.Proofs.YtdjkgnganbeonaaDoor
