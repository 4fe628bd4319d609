/- Lists of times as arguments and in new memory: what the kit's OwnTimes and SameTimes do with them, for every list. -/
import Derived.Test.YtjgkliiofechfaaDoorTot
import Derived.Test.YtjgkliiofechfaaDoorNums
import Derived.Deep.DeepCutAuto
import Derived.BigQuiet
namespace Go.Proofs.YtjgkliiofechfaaDoor
open Go.RowKit

/-- The list as cells. -/
def flatT : List (Int × Int) → List Value
  | [] => []
  | (a, b) :: t => .int .i64 a :: .int .i64 b :: flatT t

theorem flat_len : ∀ l, (flatT l).length = l.length * 2
  | [] => rfl
  | (a, b) :: t => by
    have := flat_len t
    simp only [flatT, List.length_cons]; omega
theorem flat_num : ∀ (l : List (Int × Int)) (k : Nat), k < l.length → (flatT l)[k * 2]? = some (.int .i64 (l.getD k (0, 0)).1)
  | [], k, h => by simp at h
  | (a, b) :: t, 0, _ => rfl
  | (a, b) :: t, k + 1, h => by
    have := flat_num t k (by simpa using h)
    rw [show (k + 1) * 2 = k * 2 + 1 + 1 by omega]
    simpa [flatT] using this
theorem flat_den : ∀ (l : List (Int × Int)) (k : Nat), k < l.length → (flatT l)[k * 2 + 1]? = some (.int .i64 (l.getD k (0, 0)).2)
  | [], k, h => by simp at h
  | (a, b) :: t, 0, _ => rfl
  | (a, b) :: t, k + 1, h => by
    have := flat_den t k (by simpa using h)
    rw [show (k + 1) * 2 + 1 = k * 2 + 1 + 1 + 1 by omega]
    simpa [flatT] using this
theorem flat_one : ∀ (l : List (Int × Int)), ∀ u ∈ flatT l, u.oneCell' = true
  | [], u, h => by simp [flatT] at h
  | (a, b) :: t, u, h => by
    simp only [flatT, List.mem_cons] at h
    rcases h with rfl | rfl | h
    · rfl
    · rfl
    · exact flat_one t u h
theorem flat_app : ∀ (l m : List (Int × Int)), flatT (l ++ m) = flatT l ++ flatT m
  | [], _ => rfl
  | (a, b) :: t, m => by
    show flatT ((a, b) :: (t ++ m)) = _
    simp [flatT, flat_app t m]

theorem add_none (b off j : Nat) : (⟨b, off, none⟩ : Addr).add j = ⟨b, off + j, none⟩ := by
  unfold Addr.add; split
  · rename_i h; subst h; rfl
  · rfl

theorem flat_cells {w : World} {b off : Nat} {l : List (Int × Int)} (h : TimesAt w b off l) : ∀ j u, (flatT l)[j]? = some u → w.cell? ((⟨b, off, none⟩ : Addr).add j) = some u := by
  intro j u hu
  have hj : j < l.length * 2 := by rw [← flat_len]; exact (List.getElem?_eq_some_iff.1 hu).1
  rw [add_none]
  rcases Nat.mod_two_eq_zero_or_one j with e | e
  · obtain ⟨k, rfl⟩ : ∃ k, j = k * 2 := ⟨j / 2, by omega⟩
    rw [h.num k (by omega), ← flat_num l k (by omega), hu]
  · obtain ⟨k, rfl⟩ : ∃ k, j = k * 2 + 1 := ⟨j / 2, by omega⟩
    rw [← Nat.add_assoc, h.den k (by omega), ← flat_den l k (by omega), hu]

theorem TimesAt.below {w w1 : World} {b off B : Nat} {l : List (Int × Int)} (h : TimesAt w b off l) (k : Below B w w1) (hB : b < B) : TimesAt w1 b off l :=
  ⟨Nat.lt_of_lt_of_le h.inb k.size, fun i hi => by rw [← h.num i hi]; exact k.cell (p := ⟨b, off + i * 2, none⟩) hB, fun i hi => by rw [← h.den i hi]; exact k.cell (p := ⟨b, off + i * 2 + 1, none⟩) hB⟩
theorem TimesAt.later {w w1 : World} {b off : Nat} {l : List (Int × Int)} (h : TimesAt w b off l) (k : Below w.heap.size w w1) : TimesAt w1 b off l := h.below k h.inb

/-- A slice of times, nil or not. -/
structure TimesP (w : World) (p : Option Addr) (cap : Nat) (l : List (Int × Int)) : Prop where
  fit : l.length ≤ cap
  max : cap ≤ 9223372036854775807
  nil : p = none → cap = 0
  at_ : 0 < l.length → ∃ b off, p = some ⟨b, off, none⟩ ∧ TimesAt w b off l

theorem TimesP.later {w w1 : World} {p : Option Addr} {cap : Nat} {l : List (Int × Int)} (h : TimesP w p cap l) (k : Below w.heap.size w w1) : TimesP w1 p cap l :=
  ⟨h.fit, h.max, h.nil, fun h0 => by obtain ⟨b, off, e, t⟩ := h.at_ h0; exact ⟨b, off, e, t.later k⟩⟩

/-- A list that the call owns. -/
theorem of_own {w : World} {base : Nat} {v : Value} {l : List (Int × Int)} (h : w.ownsRow base 23 2 v l.length (flatT l)) : ∃ p cap, v = .slice p l.length cap ∧ TimesP w p cap l := by
  rcases h.2 with ⟨rfl, hn⟩ | ⟨g, cap, cur, rfl, hb, hg, hnc, hcm, hcs, ht⟩
  · exact ⟨none, 0, by rw [hn], by omega, by omega, fun _ => rfl, fun h0 => by omega⟩
  · unfold maxLen at hcm
    refine ⟨some ⟨g, 0, none⟩, cap, rfl, hnc, by omega, fun e => (by cases e), fun _ => ⟨g, 0, rfl, (Array.getElem?_eq_some_iff.1 hg).1, fun k hk => ?_, fun k hk => ?_⟩⟩
    · rw [Nat.zero_add, h.cellAt (k * 2) (by omega), flat_num l k hk]
    · rw [Nat.zero_add, h.cellAt (k * 2 + 1) (by omega), flat_den l k hk]

theorem info_time : (Tryd.prog.info? 23).map (fun i => (i.zero, i.size, i.bytes)) = some (some (.agg #[.int .i64 0, .int .i64 0]), 2, 16) := by kernel_rfl

set_option maxHeartbeats 1000000 in
theorem own_any (p : Option Addr) (cap : Nat) (l : List (Int × Int)) (w : World) (hv : TimesP w p cap l) (hl : l.length ≤ 100000) :
    Calls Tryd.prog 28 #[.slice p l.length cap] w fun e w' => ∃ v, e = .returned v ∧ w'.ownsRow w.heap.size 23 2 v l.length (flatT l) ∧ Below w.heap.size w w' := by
  obtain ⟨i0, hi0, hz0, hz1, hz2⟩ := info_parts info_time
  have hlit := Lib.hid (World.ownsRow_lit (base := w.heap.size) (e := 23) (size := 2) w #[] 0 (Nat.le_refl _) (by unfold maxLen; omega) rfl)
  by_cases h0 : 0 < l.length
  · obtain ⟨b, off, rfl, ht⟩ := hv.at_ h0
    have hc := Lib.hid (flat_cells (ht.later (ba (br w) (.cells #[] 23))))
    go_enter Tryd.func28, Tryd.ntmps28
    go_wp2_with (at_builtin; refine wpList_append_own _ rfl _ _ 34 rfl w.heap.size 23 i0 (.agg #[.int .i64 0, .int .i64 0]) 2 16 Tryd.underlying34 hi0 hz0 hz1 hz2 rfl (by decide) _ _ _ rfl hlit.out ⟨b, off, none⟩ l.length cap (flatT l) rfl (flat_len l) hc.out (flat_one l) (by unfold maxLen; omega) (by omega) (by simp) ?_)
    intro v' w1 hown hgrow _
    have hb := Lib.hid ((ba (br w) (.cells #[] 23)).grown hgrow (by simp) (fun k hk => by simp [Value.ownBlock] at hk; omega))
    have HO := Lib.hid hown
    clear hown hgrow
    go_wp2_with fail
    go_ret
    exact ⟨_, rfl, HO.out, hb.out⟩
  · obtain rfl : l = [] := List.length_eq_zero_iff.1 (by omega)
    have hnil := hv.nil
    clear hv h0
    cases p with
    | none =>
      obtain rfl := hnil rfl
      have hrun := run_append_owned_none (P := Tryd.prog) (w.alloc (.cells #[] 23)) w.heap.size 34 34 23 i0 2 Tryd.underlying34 hi0 _ 0 [] hlit.out
      clear hnil
      go_enter Tryd.func28, Tryd.ntmps28
      go_wp2_with fail
      go_ret
      exact ⟨_, rfl, hlit.out, ba (br w) _⟩
    | some a =>
      clear hnil
      go_enter Tryd.func28, Tryd.ntmps28
      go_wp2_with (at_builtin; refine wpList_append_own _ rfl _ _ 34 rfl w.heap.size 23 i0 (.agg #[.int .i64 0, .int .i64 0]) 2 16 Tryd.underlying34 hi0 hz0 hz1 hz2 rfl (by decide) _ _ _ rfl hlit.out a 0 cap [] rfl rfl (fun j u hu => by simp at hu) (fun u hu => by simp at hu) (by unfold maxLen; omega) (by omega) (by simp) ?_)
      intro v' w1 hown hgrow _
      have hb := Lib.hid ((ba (br w) (.cells #[] 23)).grown hgrow (by simp) (fun k hk => by simp [Value.ownBlock] at hk; omega))
      have HO := Lib.hid hown
      clear hown hgrow
      go_wp2_with fail
      go_ret
      exact ⟨_, rfl, HO.out, hb.out⟩

theorem getD_eq_of (l : List (Int × Int)) (k : Nat) : l.getD k (0, 0) = ((l.getD k (0, 0)).1, (l.getD k (0, 0)).2) := rfl

set_option maxHeartbeats 1000000 in
theorem same_any (p q : Option Addr) (cp cq : Nat) (l : List (Int × Int)) (w : World) (hp : TimesP w p cp l) (hq : TimesP w q cq l) :
    Calls Tryd.prog 31 #[.slice p l.length cp, .slice q l.length cq] w fun e w' => e = .returned (.bool true) ∧ Below w.heap.size w w' := by
  have f1 := hp.fit
  have f2 := hq.fit
  have m1 := hp.max
  have m2 := hq.max
  have HP := Lib.hid hp
  have HQ := Lib.hid hq
  clear hp hq
  go_enter Tryd.func31, Tryd.ntmps31
  go_wp2_with fail
  go_loopw [5] (fun i wr => ∃ k : Nat, k ≤ l.length ∧ i = .int .i64 k ∧ Hid (Below w.heap.size w wr)) (fun i _ => l.length - (intOf i).toNat)
  case atStart => exact ⟨0, by omega, rfl, Lib.hid (br w)⟩
  case round =>
    obtain ⟨k, hk, rfl, hb⟩ := hrel
    by_cases hlt : k < l.length
    · obtain ⟨b, off, rfl, ht⟩ := HP.out.at_ (by omega)
      obtain ⟨b', off', rfl, ht'⟩ := HQ.out.at_ (by omega)
      have c1 := (ht.later hb.out).num k hlt
      have c2 := (ht.later hb.out).den k hlt
      have c3 := (ht'.later hb.out).num k hlt
      have c4 := (ht'.later hb.out).den k hlt
      clear ht ht'
      generalize (l.getD k (0, 0)).1 = n at *
      generalize (l.getD k (0, 0)).2 = d at *
      go_wp2_with fail
      go_quiet (fail)
      go_wp2_with fail
      go_roundw
      case rel => exact ⟨k + 1, by omega, by go_num, Lib.hid (below_drewN hb.out _)⟩
      case measure => simp [intOf]; omega
    · obtain rfl : k = l.length := by omega
      go_wp2_with fail
      go_ret
      exact ⟨rfl, hb.out⟩

end Go.Proofs.YtjgkliiofechfaaDoor
