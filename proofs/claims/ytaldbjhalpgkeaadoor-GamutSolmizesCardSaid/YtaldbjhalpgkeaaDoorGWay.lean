/- The ways in which the pitches of a place are sung, hexachord by hexachord; and of these the ways of one pitch. -/
import Derived.Test.YtaldbjhalpgkeaaDoorGSpec
namespace Go.Proofs.YtaldbjhalpgkeaaDoor

/-- The way of hexachord i + 1 at a place, whatever its syllable. -/
def wayAt (n : Int) (i : Nat) : Sy := ((i : Int) + 1, n - beginI (i + 1) + 1)
def sylB (s : Sy) : Bool := decide (1 ≤ s.2 ∧ s.2 ≤ 6)
/-- The ways of a place among the first k hexachords. -/
def waysAtK (n : Int) (k : Nat) : List Sy := ((List.range k).map (wayAt n)).filter sylB
abbrev waysAtL (n : Int) : List Sy := waysAtK n 7
theorem waysAt_zero (n : Int) : waysAtK n 0 = [] := rfl
theorem waysAt_snoc (n : Int) (k : Nat) : waysAtK n (k + 1) = waysAtK n k ++ if sylB (wayAt n k) = true then [wayAt n k] else [] := by
  unfold waysAtK
  rw [List.range_succ, List.map_append, List.filter_append]
  congr 1
  simp only [List.map_cons, List.map_nil, List.filter_cons, List.filter_nil]
/-- What comes behind the first k. -/
theorem waysAt_tail (n : Int) : ∀ (j k : Nat), k + j = 7 → ∃ post, waysAtL n = waysAtK n k ++ post
  | 0, k, h => ⟨[], by rw [List.append_nil]; have : k = 7 := by omega
                       subst this; rfl⟩
  | j + 1, k, h => by
    obtain ⟨post, e⟩ := waysAt_tail n j (k + 1) (by omega)
    rw [waysAt_snoc, List.append_assoc] at e
    exact ⟨_, e⟩
theorem waysAt_post (n : Int) {k : Nat} (hk : k < 7) (h : sylB (wayAt n k) = true) : ∃ post, waysAtL n = waysAtK n k ++ wayAt n k :: post := by
  obtain ⟨post, e⟩ := waysAt_tail n (7 - (k + 1)) (k + 1) (by omega)
  rw [waysAt_snoc, if_pos h, List.append_assoc] at e
  exact ⟨post, e⟩
theorem waysAt_ok {n : Int} {s : Sy} (h : s ∈ waysAtL n) : okS s := by
  unfold waysAtL waysAtK at h
  rw [List.mem_filter, List.mem_map] at h
  obtain ⟨⟨i, hi, rfl⟩, hs⟩ := h
  rw [List.mem_range] at hi
  unfold sylB at hs
  have hs' := of_decide_eq_true hs
  refine ⟨?_, hs'⟩
  show 1 ≤ (i : Int) + 1 ∧ (i : Int) + 1 ≤ 7
  omega
def pitN (u : Nat) : Pi3 := ((u % 7 : Nat), (u / 7 % 9 : Nat), ((u / 63 : Nat) : Int) - 1)
theorem pit_nat {p : Pi3} (h : okP p) : ∃ u : Fin 189, pitN u.val = p := by
  obtain ⟨s, o, a⟩ := p
  obtain ⟨⟨h1, h2⟩, ⟨h3, h4⟩, h5, h6⟩ := h
  simp only at h1 h2 h3 h4 h5 h6
  refine ⟨⟨(63 * (a + 1) + 7 * o + s).toNat, by omega⟩, ?_⟩
  unfold pitN
  simp only [Prod.mk.injEq]
  refine ⟨by omega, by omega, by omega⟩
theorem ways_fin : ∀ u : Fin 189, (waysAtL (numI (pitN u.val) - 18)).filter (fun s => decide (madeS s = pitN u.val)) = waysL (pitN u.val) := by decide +kernel
/-- The ways of a pitch are those of its place that make it. -/
theorem ways_eq {p : Pi3} (h : okP p) : (waysAtL (numI p - 18)).filter (fun s => decide (madeS s = p)) = waysL p := by
  obtain ⟨u, rfl⟩ := pit_nat h
  exact ways_fin u

end Go.Proofs.YtaldbjhalpgkeaaDoor
