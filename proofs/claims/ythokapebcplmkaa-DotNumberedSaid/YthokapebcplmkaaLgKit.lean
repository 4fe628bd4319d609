/- What the statements of stage 7 do by themselves: copies and equality of lists, the kit's Mod, At and Has. -/
import Derived.Test.YthokapebcplmkaaLgLst
import Derived.Test.YthokapebcplmkaaLgSpec
namespace Go.Proofs.Ythokapebcplmkaa
open Go.RowKit

theorem met_re {J : Act → World → Prop} {a b : Act} {w : World} (h : a = b) (k : Met J b w) : Met J a w := h ▸ k

theorem samei_any (p q : Option Addr) (cp cq : Nat) (l : List Int) (w : World) (hp : SlP w 1 p l.length cp (ints l)) (hq : SlP w 1 q l.length cq (ints l)) :
    Calls Try.prog 17 #[.slice p l.length cp, .slice q l.length cq] w fun e w' => e = .returned (.bool true) ∧ Below w.heap.size w w' := by
  have f1 := hp.fit
  have f2 := hq.fit
  have m1 := hp.max
  have m2 := hq.max
  have HP := Lib.hid hp
  have HQ := Lib.hid hq
  clear hp hq
  go_enter Try.func17, Try.ntmps17
  go_wp2_with fail
  go_loopw [5] (fun i wr => ∃ k : Nat, k ≤ l.length ∧ i = .int .i64 k ∧ Hid (Below w.heap.size w wr)) (fun i _ => l.length - (intOf i).toNat)
  case atStart => exact ⟨0, by omega, rfl, Lib.hid (w_refl w)⟩
  case round =>
    obtain ⟨k, hk, rfl, hb⟩ := hrel
    by_cases hlt : k < l.length
    · have hlt' : (k : Int) < l.length := by omega
      obtain ⟨s, hs⟩ : ∃ s, (ints l)[k]? = some (.int .i64 s) := ⟨l[k], by rw [List.getElem?_map, List.getElem?_eq_getElem hlt]; rfl⟩
      obtain ⟨b, off, rfl, _, hc⟩ := (HP.out.later hb.out).at_ (by omega)
      obtain ⟨b', off', rfl, _, hd⟩ := (HQ.out.later hb.out).at_ (by omega)
      have c0 := hc _ _ hs
      have d0 := hd _ _ hs
      have hb9 := Lib.hid hb.out.drew
      clear hs hc hd
      go_wp2_with fail
      go_region
      all_goals
        go_wp2_with fail
        go_roundw
        case rel => exact ⟨k + 1, by omega, by go_num, hb9⟩
        case measure => simp [intOf]; omega
    · obtain rfl : k = l.length := by omega
      go_wp2_with fail
      go_ret
      exact ⟨rfl, hb.out⟩

set_option maxHeartbeats 400000 in
theorem mod_pos (a m : Int) (w : World) (ha : 0 ≤ a) (ha1 : a ≤ 9223372036854775807) (hm : 1 ≤ m) (hm1 : m ≤ 1099511627776) :
    Calls Try.prog 60 #[.int .i64 a, .int .i64 m] w fun e w' => e = .returned (.int .i64 (a % m)) ∧ w = w' := by
  have r0 := Int.emod_nonneg a (show m ≠ 0 by omega)
  have r1 := Int.emod_lt_of_pos a (show 0 < m by omega)
  go_enter Try.func60, Try.ntmps60
  go_wp2
  go_ret
  exact ⟨rfl, rfl⟩

set_option maxHeartbeats 400000 in
theorem mod_neg (a m : Int) (w : World) (ha : a < 0) (ha1 : -9223372036854775808 ≤ a) (hm : 1 ≤ m) (hm1 : m ≤ 1099511627776) :
    Calls Try.prog 60 #[.int .i64 a, .int .i64 m] w fun e w' => e = .returned (.int .i64 (a % m)) ∧ w = w' := by
  have r0 := Int.emod_nonneg a (show m ≠ 0 by omega)
  have r1 := Int.emod_lt_of_pos a (show 0 < m by omega)
  have t0 : a.tmod m ≤ 0 := by
    have := Int.tmod_nonneg (a := -a) m (by omega)
    rw [Int.neg_tmod] at this; omega
  have t1 : -m < a.tmod m := by
    have := Int.tmod_lt_of_pos (-a) (show 0 < m by omega)
    rw [Int.neg_tmod] at this; omega
  by_cases hd : m ∣ a
  · have e := Lib.hid (Int.tmod_eq_emod (a := a) (b := m))
    have e2 := Lib.hid (show a.tmod m = a % m by rw [e.out, if_pos (.inr hd)]; simp)
    have e3 : 0 ≤ a.tmod m := by rw [e2.out]; exact r0
    clear e hd
    go_enter Try.func60, Try.ntmps60
    go_wp2
    go_ret
    rw [e2.out]; exact ⟨rfl, rfl⟩
  · have e := Lib.hid (Int.tmod_eq_emod (a := a) (b := m))
    have e2 := Lib.hid (show a.tmod m + m = a % m by rw [e.out, if_neg (by omega)]; omega)
    have e3 : a.tmod m < 0 := by have := e2.out; omega
    clear e hd
    go_enter Try.func60, Try.ntmps60
    go_wp2
    go_ret
    rw [e2.out]; exact ⟨rfl, rfl⟩

theorem mod_any (a m : Int) (w : World) (ha : -9223372036854775808 ≤ a) (ha1 : a ≤ 9223372036854775807) (hm : 1 ≤ m) (hm1 : m ≤ 1099511627776) :
    Calls Try.prog 60 #[.int .i64 a, .int .i64 m] w fun e w' => e = .returned (.int .i64 (a % m)) ∧ w = w' := by
  by_cases h : 0 ≤ a
  · exact mod_pos a m w h ha1 hm hm1
  · exact mod_neg a m w (by omega) ha hm hm1

set_option maxRecDepth 100000 in
set_option maxHeartbeats 2000000 in
theorem owni_any (p : Option Addr) (cap : Nat) (l : List Int) (hl : l.length ≤ 1000) (w : World) (h : SlP w 1 p l.length cap (ints l)) :
    Calls Try.prog 23 #[.slice p l.length cap] w fun e w' => ∃ v, e = .returned v ∧ OwnL w w' 3 1 v l.length (ints l) := by
  obtain ⟨i0, hi0, hz0, hz1, hz2⟩ := info_parts info_int
  have f1 := h.fit
  have f2 := h.max
  have HS := Lib.hid h
  clear h
  go_enter Try.func23, Try.ntmps23
  go_wp2_with (at_builtin; refine wpList_append_sl rfl _ _ 32 rfl w.heap.size 3 i0 (.int .i64 0) 1 8 Try.underlying32 hi0 hz0 hz1 hz2 rfl (by decide) _ 0 (ints []) rfl (World.ownsRow_lit w #[] 0 (Nat.le_refl _) (by unfold maxLen; omega) rfl) p l.length cap (ints l) rfl (HS.out.later (w_alloc (w_refl w) _)) (by unfold maxLen; omega) (by omega) (by simp) ?_)
  intro v' w1 hown hgrow
  have HN := Lib.hid (show OwnL w w1 3 1 v' l.length (ints l) by
    have HA : OwnL w (w.alloc (.cells #[] 3)) 3 1 (.slice (some ⟨w.heap.size, 0, none⟩) 0 0) 0 (ints []) := ⟨w_alloc (w_refl w) _, World.ownsRow_lit w #[] 0 (Nat.le_refl _) (by unfold maxLen; omega) rfl⟩
    have := HA.app (w_refl _) hown hgrow
    first | exact this | (rw [Nat.zero_add] at this; exact this))
  clear hown hgrow
  go_wp2_with fail
  go_ret
  exact ⟨_, rfl, HN.out⟩

theorem has_any (p : Option Addr) (cap : Nat) (l : List Int) (x : Int) (w : World) (h : SlP w 1 p l.length cap (ints l)) :
    Calls Try.prog 40 #[.slice p l.length cap, .int .i64 x] w fun e w' => e = .returned (.bool (decide (x ∈ l))) ∧ w = w' := by
  have f1 := h.fit
  have f2 := h.max
  have HS := Lib.hid h
  have HY := Lib.hid (show ∀ k : Nat, l[k]? = some x → decide (x ∈ l) = true from fun k hk => decide_eq_true (List.mem_of_getElem? hk))
  have HZ := Lib.hid (show (∀ (k : Nat) (z : Int), k < l.length → l[k]? = some z → z ≠ x) → decide (x ∈ l) = false from fun hn => decide_eq_false (fun hm => by
    obtain ⟨k, hk, e⟩ := List.getElem_of_mem hm
    exact hn k x hk (by rw [List.getElem?_eq_getElem hk, e]) rfl))
  clear h
  generalize decide (x ∈ l) = B at *
  go_enter Try.func40, Try.ntmps40
  go_wp2_with fail
  go_loopw [5] (fun i wr => ∃ k : Nat, k ≤ l.length ∧ i = .int .i64 k ∧ Hid (∀ (j : Nat) (z : Int), j < k → l[j]? = some z → z ≠ x) ∧ w = wr) (fun i _ => l.length - (intOf i).toNat)
  case atStart => exact ⟨0, by omega, rfl, Lib.hid (fun j z hj => by omega), rfl⟩
  case round =>
    obtain ⟨k, hk, rfl, hall, rfl⟩ := hrel
    by_cases hlt : k < l.length
    · have hlt' : (k : Int) < l.length := by omega
      obtain ⟨s, hs⟩ : ∃ s, l[k]? = some s := ⟨l[k], List.getElem?_eq_getElem hlt⟩
      obtain ⟨b, off, rfl, _, hc⟩ := HS.out.at_ (by omega)
      have c0 := hc k (.int .i64 s) (by rw [List.getElem?_map, hs]; rfl)
      clear hc
      by_cases e : s = x
      · have hB := Lib.hid (HY.out k (by rw [hs, e]))
        have q : (s == x) = true := by simp [e]
        clear HY HZ hall hs e
        go_wp2_with fail
        go_ret
        exact ⟨by rw [hB.out]; rfl, rfl⟩
      · have q : (s == x) = false := by simp [e]
        have hall2 := Lib.hid (show ∀ (j : Nat) (z : Int), j < k + 1 → l[j]? = some z → z ≠ x from fun j z hj hz => by
          by_cases ej : j = k
          · subst ej; rw [hs] at hz; injection hz with hz; rw [← hz]; exact e
          · exact hall.out j z (by omega) hz)
        clear HY HZ hall hs e
        go_wp2_with fail
        go_roundw
        case rel => exact ⟨k + 1, by omega, by go_num, hall2, trivial⟩
        case measure => simp [intOf]; omega
    · obtain rfl : k = l.length := by omega
      have hB := Lib.hid (HZ.out hall.out)
      clear HY HZ hall
      go_wp2_with fail
      go_ret
      exact ⟨by rw [hB.out]; rfl, rfl⟩

end Go.Proofs.Ythokapebcplmkaa
