/- What an argument that is a list of rows looks like in memory. -/
import Derived.Test.YtdjkgnganbeonaaDoorWSpec
import Derived.Deep.SlicePairs
import Derived.WideOpen
import Derived.Deep.DeepHandedRow
namespace Go.Proofs.YtdjkgnganbeonaaDoor
open Go.ChangeShapes Go.WideShapes Go.ChangeAt Go.RowKit Go.Deep

theorem spot_none {w : World} {a : Addr} {v : Value} (h : w.cell? a = some v) : a.spot = none := by
  unfold World.cell? at h
  split at h
  · split at h
    · cases h
    · rename_i h2; simpa using h2
  · cases h
theorem add_plain {b off : Nat} (j : Nat) : (⟨b, off, none⟩ : Addr).add j = ⟨b, off + j, none⟩ := w_addr b off j
theorem addr_plain {a : Addr} (h : a.spot = none) : ∃ b off, a = ⟨b, off, none⟩ := by
  obtain ⟨b, off, sp⟩ := a
  obtain rfl : sp = none := h
  exact ⟨b, off, rfl⟩
theorem add_zero' (a : Addr) (n : Nat) : a.add (0 * n) = a := by rw [Nat.zero_mul]; rfl
theorem three_of {α : Type} {l : List α} (h : l.length = 3) : ∃ a b c, l = [a, b, c] := by
  match l, h with
  | [a, b, c], _ => exact ⟨a, b, c, rfl⟩

theorem size_word : Tryd.prog.cellsOf 53 = 3 := by kernel_rfl
theorem size_row : Tryd.prog.cellsOf 44 = 2 := by kernel_rfl
theorem size_int : Tryd.prog.cellsOf 3 = 1 := by kernel_rfl
theorem size_string : Tryd.prog.cellsOf 9 = 1 := by kernel_rfl
theorem size_bool : Tryd.prog.cellsOf 4 = 1 := by kernel_rfl
theorem size_words : Tryd.prog.cellsOf 42 = 1 := by kernel_rfl

instance : Inhabited Wd := ⟨noWd⟩
theorem flatW_at (l : List Wd) (j : Nat) (u : Value) (h : (flatW l)[j]? = some u) : ∃ k, k < l.length ∧ ((j = k * 3 ∧ u = .int .i64 (l.getD k noWd).at_) ∨ (j = k * 3 + 1 ∧ u = .string (l.getD k noWd).text) ∨ (j = k * 3 + 2 ∧ u = .bool (l.getD k noWd).quoted)) := by
  have hj := (List.getElem?_eq_some_iff.1 h).1
  rw [flatW_len] at hj
  have hk : j / 3 < l.length := by omega
  obtain ⟨e0, e1, e2⟩ := flatW_get l (j / 3) hk
  refine ⟨j / 3, hk, ?_⟩
  have h3 : j % 3 = 0 ∨ j % 3 = 1 ∨ j % 3 = 2 := by omega
  rcases h3 with h3 | h3 | h3
  · left
    have e : j = j / 3 * 3 := by omega
    refine ⟨e, ?_⟩
    rw [← e, h] at e0; exact Option.some.inj e0
  · right; left
    have e : j = j / 3 * 3 + 1 := by omega
    refine ⟨e, ?_⟩
    rw [← e, h] at e1; exact Option.some.inj e1
  · right; right
    have e : j = j / 3 * 3 + 2 := by omega
    refine ⟨e, ?_⟩
    rw [← e, h] at e2; exact Option.some.inj e2
theorem flatR_get2 : ∀ (l : List (Int × Value)) (k : Nat), k < l.length → (flatR l)[k * 2]? = some (.int .i64 (l.getD k (0, .bool false)).1) ∧ (flatR l)[k * 2 + 1]? = some (l.getD k (0, .bool false)).2
  | [], k, h => by simp at h
  | x :: t, 0, _ => ⟨rfl, rfl⟩
  | x :: t, k + 1, h => by
    have := flatR_get2 t k (by simpa using h)
    rw [show (k + 1) * 2 = k * 2 + 1 + 1 by omega]
    simpa [flatR] using this
theorem flatR_at (l : List (Int × Value)) (j : Nat) (u : Value) (h : (flatR l)[j]? = some u) : ∃ k, k < l.length ∧ ((j = k * 2 ∧ u = .int .i64 (l.getD k (0, .bool false)).1) ∨ (j = k * 2 + 1 ∧ u = (l.getD k (0, .bool false)).2)) := by
  have hj := (List.getElem?_eq_some_iff.1 h).1
  rw [flatR_len] at hj
  have hk : j / 2 < l.length := by omega
  obtain ⟨e0, e1⟩ := flatR_get2 l (j / 2) hk
  refine ⟨j / 2, hk, ?_⟩
  have h3 : j % 2 = 0 ∨ j % 2 = 1 := by omega
  rcases h3 with h3 | h3
  · left
    have e : j = j / 2 * 2 := by omega
    refine ⟨e, ?_⟩
    rw [← e, h] at e0; exact Option.some.inj e0
  · right
    have e : j = j / 2 * 2 + 1 := by omega
    refine ⟨e, ?_⟩
    rw [← e, h] at e1; exact Option.some.inj e1

section
variable {H : Type} {enc : TypeId × Value → H} {W : World}

/-- A cell that is a slice of words. -/
theorem open_words {n : Nat} {v : Value} {y : DataW H × List MemPlace} (h : DataW.trod enc Tryd.prog W 0 (fun _ => true) true n 42 [v] = some y) :
    ∃ ws, WordsV W v ws ∧ ∀ x ∈ ws, x.text.size ≤ maxLen := by
  rcases open_slice Tryd.underlying42 h with ⟨hcs, hx⟩ | ⟨a, len, cap, m, k, D, Pl, hcs, hb, hl, hm, hmm, hx, hall⟩
  · simp only [List.cons.injEq, and_true] at hcs
    subst hcs
    exact ⟨[], ⟨none, 0, rfl, ⟨by simp, by omega, fun _ => rfl, rfl, fun h0 => by simp at h0⟩⟩, by simp⟩
  · simp only [List.cons.injEq, and_true] at hcs
    subst hcs
    have hm2 : m = cap := by rw [hmm]; simp
    have each : ∀ i, i < m → ∃ z : Wd, W.cell? (a.add (i * 3)) = some (.int .i64 z.at_) ∧ W.cell? (a.add (i * 3 + 1)) = some (.string z.text) ∧ W.cell? (a.add (i * 3 + 2)) = some (.bool z.quoted) ∧ z.text.size ≤ maxLen := by
      intro i hi
      obtain ⟨cs', h1, h2⟩ := hall i hi
      rw [size_word] at h1
      obtain ⟨_, hlen, hcell⟩ := World.cells?_some h1
      obtain ⟨xs, k, hk, hxy, _, hxl, hf⟩ := DataW.trod_struct Tryd.underlying53 h2
      obtain ⟨v0, v1, v2, rfl⟩ := three_of hlen
      obtain ⟨y0, y1, y2, rfl⟩ := three_of (show xs.length = 3 from hxl)
      have g0 := hf 0 _ rfl
      have g1 := hf 1 _ rfl
      have g2 := hf 2 _ rfl
      simp [size_int, size_string, size_bool] at g0 g1 g2
      have e0 := hcell 0 (by omega)
      have e1 := hcell 1 (by omega)
      have e2 := hcell 2 (by omega)
      rw [add_add] at e0 e1 e2
      obtain ⟨x, ex, _, _⟩ := DataW.trod_int Tryd.underlying3 g0
      obtain ⟨t, et, _, ht⟩ := DataW.trod_string Tryd.underlying9 g1
      obtain ⟨q, eq, _⟩ := DataW.trod_bool Tryd.underlying4 g2
      simp only [List.cons.injEq, and_true] at ex et eq
      subst ex et eq
      exact ⟨⟨x, t, q⟩, by simpa using e0, by simpa using e1, by simpa using e2, ht⟩
    obtain ⟨z, hz⟩ := choose_lt each
    have hlen : ((List.range len).map z).length = len := by simp
    have hgetD : ∀ k, k < len → ((List.range len).map z).getD k noWd = z k := fun k hk => by simp [hk]
    have hm' := hm
    unfold maxLen at hm'
    refine ⟨(List.range len).map z, ⟨some a, cap, by rw [hlen], ⟨by omega, by omega, fun e => (by cases e), flatW_len _, fun h0 => ?_⟩⟩, fun x hx => ?_⟩
    · rw [hlen] at h0
      obtain ⟨b, off, rfl⟩ := addr_plain (by have := spot_none (hz 0 (by omega)).1; rwa [add_zero'] at this)
      refine ⟨b, off, rfl, World.block_lt_of_cell? _ _ (hz 0 (by omega)).1, fun j u hu => ?_⟩
      obtain ⟨k, hk, hc⟩ := flatW_at _ j u hu
      rw [hlen] at hk
      rw [hgetD k hk] at hc
      obtain ⟨z0, z1, z2, _⟩ := hz k (by omega)
      rw [add_plain] at z0 z1 z2
      rcases hc with ⟨rfl, rfl⟩ | ⟨rfl, rfl⟩ | ⟨rfl, rfl⟩
      · exact z0
      · exact z1
      · exact z2
    · obtain ⟨k, hk, rfl⟩ := List.mem_map.1 hx
      exact (hz k (by have := List.mem_range.1 hk; omega)).2.2.2

theorem allR_range (o : Option Nat) (vs : Nat → Int × Value) (rs : Nat → Rw) : ∀ (n s : Nat), (∀ i, s ≤ i → i < s + n → (vs i).1 = (rs i).at_ ∧ WordsV W (vs i).2 (rs i).words ∧ (0 < (rs i).words.length → (vs i).2.ownBlock ≠ o)) →
    AllR W o ((List.range' s n).map vs) ((List.range' s n).map rs)
  | 0, _, _ => trivial
  | n + 1, s, h => ⟨h s (by omega) (by omega), allR_range o vs rs n (s + 1) fun i h1 h2 => h i (by omega) (by omega)⟩

/-- An argument that is a slice of rows. -/
theorem open_rows {base : Nat} {r : Reach} {v : Value} {d : DataW H} {ps : List MemPlace} (hw : Value.okWide Tryd.prog W r base 23 v)
    (h : DataW.Trod enc Tryd.prog W 0 (fun _ => true) true 23 v d ps) : ∃ rs, RowsV W v rs ∧ ∀ r ∈ rs, ∀ x ∈ r.words, x.text.size ≤ maxLen := by
  obtain ⟨a0, len, cap, rfl⟩ := okWide_slice Tryd.underlying23 hw
  obtain ⟨fuel, hf⟩ := h
  rcases open_slice_pairs Tryd.underlying23 Tryd.underlying44 size_row rfl rfl (by kernel_rfl) (by kernel_rfl) hf with ⟨hcs, hx⟩ | ⟨a, len', cap', m, n, V0, V1, D0, D1, P0, P1, hcs, hb, hl, hm, hmm, hx, hall⟩
  · simp [Value.cells] at hcs
    obtain ⟨rfl, rfl, rfl⟩ := hcs
    exact ⟨[], ⟨none, 0, [], none, rfl, ⟨by simp, by omega, fun _ => rfl, rfl, fun h0 => by simp at h0⟩, trivial⟩, by simp⟩
  · simp [Value.cells] at hcs
    obtain ⟨rfl, rfl, rfl⟩ := hcs
    have hm2 : m = cap := by rw [hmm]; simp
    have each : ∀ i, i < m → ∃ z : Rw, V0 i = .int .i64 z.at_ ∧ WordsV W (V1 i) z.words ∧ ∀ x ∈ z.words, x.text.size ≤ maxLen := by
      intro i hi
      obtain ⟨_, _, t0, t1⟩ := hall i hi
      obtain ⟨x, ex, _, _⟩ := DataW.trod_int Tryd.underlying3 t0
      obtain ⟨ws, hws, hsz⟩ := open_words t1
      simp only [List.cons.injEq, and_true] at ex
      exact ⟨⟨x, ws⟩, ex, hws, hsz⟩
    haveI : Inhabited Rw := ⟨⟨0, []⟩⟩
    obtain ⟨z, hz⟩ := choose_lt each
    have hlen : ((List.range len).map z).length = len := by simp
    have hm' := hm
    unfold maxLen at hm'
    refine ⟨(List.range len).map z, ⟨some a, cap, (List.range len).map fun i => ((z i).at_, V1 i), none, by rw [hlen], ⟨by omega, by omega, fun e => (by cases e), by rw [flatR_len]; simp, fun h0 => ?_⟩, ?_⟩, fun r hr => ?_⟩
    · rw [hlen] at h0
      obtain ⟨b, off, rfl⟩ := addr_plain (by have := spot_none (hall 0 (by omega)).1; rwa [add_zero'] at this)
      refine ⟨b, off, rfl, World.block_lt_of_cell? _ _ (hall 0 (by omega)).1, fun j u hu => ?_⟩
      obtain ⟨k, hk, hc⟩ := flatR_at _ j u hu
      have hk' : k < len := by simpa using hk
      have hg : (((List.range len).map fun i => ((z i).at_, V1 i)).getD k (0, .bool false)) = ((z k).at_, V1 k) := by simp [hk']
      rw [hg] at hc
      obtain ⟨z0, z1, _⟩ := hall k (by omega)
      rw [add_plain] at z0 z1
      rw [(hz k (by omega)).1] at z0
      rcases hc with ⟨rfl, rfl⟩ | ⟨rfl, rfl⟩
      · exact z0
      · rw [← Nat.add_assoc] at z1
        exact z1
    · rw [List.range_eq_range']
      refine allR_range none _ _ _ _ fun i _ hi => ⟨rfl, (hz i (by omega)).2.1, fun h0 e => ?_⟩
      obtain ⟨b, eb, _⟩ := (hz i (by omega)).2.1.block h0
      rw [eb] at e
      cases e
    · obtain ⟨k, hk, rfl⟩ := List.mem_map.1 hr
      exact (hz k (by have := List.mem_range.1 hk; omega)).2.2
end

end Go.Proofs.YtdjkgnganbeonaaDoor
