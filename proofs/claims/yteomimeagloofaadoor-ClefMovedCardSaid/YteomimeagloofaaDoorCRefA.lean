/- The reference's small functions of layer 6: checks, the lowest pitch, flats, ledger lines. -/
import Derived.Test.YteomimeagloofaaDoorCSpec
namespace Go.Proofs.YteomimeagloofaaDoor
open Go.RowKit

/-- Block b holds two numbers that may be written. -/
structure Two2 (w : World) (b : Nat) (c : Cl) : Prop where
  inb : b < w.heap.size
  c0 : w.cell? ⟨b, 0, none⟩ = some (.int .i64 c.1)
  c1 : w.cell? ⟨b, 1, none⟩ = some (.int .i64 c.2)
  f0 : w.frozen? ⟨b, 0, none⟩ = false
  f1 : w.frozen? ⟨b, 1, none⟩ = false
theorem Two2.made (w : World) (c : Cl) (t : TypeId) : Two2 (w.alloc (.cells #[.int .i64 c.1, .int .i64 c.2] t)) w.heap.size c := ⟨by simp, by go_simp, by go_simp, by go_simp, by go_simp⟩
theorem Two2.later {w w1 : World} {b : Nat} {c : Cl} (h : Two2 w b c) (k : Below w.heap.size w w1) : Two2 w1 b c :=
  ⟨Nat.lt_of_lt_of_le h.inb k.size, (k.cell (p := ⟨b, 0, none⟩) h.inb).trans h.c0, (k.cell (p := ⟨b, 1, none⟩) h.inb).trans h.c1,
    (k.frozen (p := ⟨b, 0, none⟩) h.inb).trans h.f0, (k.frozen (p := ⟨b, 1, none⟩) h.inb).trans h.f1⟩
abbrev cO (c : Cl) : Obj := .cells #[.int .i64 c.1, .int .i64 c.2] 23
theorem not_step {s : Int} (h : ¬ stepOk s) : (s != 0) = true ∧ (s != 3) = true ∧ (s != 4) = true ∧ (s == 0) = false ∧ (s == 3) = false ∧ (s == 4) = false := by
  unfold stepOk at h
  have h0 : s ≠ 0 := fun e => h (.inl e)
  have h3 : s ≠ 3 := fun e => h (.inr (.inl e))
  have h4 : s ≠ 4 := fun e => h (.inr (.inr e))
  simp [h0, h3, h4]

set_option maxHeartbeats 2000000 in
theorem rcchk_any (c : Cl) (w : World) : Calls Tryd.prog 13 #[cv c] w fun e w' => e = .returned (.int .i64 (chkC c)) ∧ Below w.heap.size w w' := by
  by_cases hs : stepOk c.1
  · by_cases hl : 1 ≤ c.2 ∧ c.2 ≤ 5
    · rw [chkC_ok ⟨hs, hl⟩]
      obtain ⟨s, l⟩ := c
      obtain ⟨h1, h2⟩ := hl
      simp only at h1 h2 hs
      rcases hs with rfl | rfl | rfl
      all_goals
        go_enter Tryd.func13, Tryd.ntmps13
        go_wp2_with fail
        go_ret
        exact ⟨rfl, w_alloc (w_refl w) _⟩
    · rw [chkC_line hs hl]
      obtain ⟨s, l⟩ := c
      simp only at hl hs
      by_cases h1 : l < 1
      · clear hl
        rcases hs with rfl | rfl | rfl
        all_goals
          go_enter Tryd.func13, Tryd.ntmps13
          go_wp2_with fail
          go_ret
          exact ⟨rfl, w_alloc (w_refl w) _⟩
      · have h2 : 5 < l := by omega
        clear hl
        rcases hs with rfl | rfl | rfl
        all_goals
          go_enter Tryd.func13, Tryd.ntmps13
          go_wp2_with fail
          go_ret
          exact ⟨rfl, w_alloc (w_refl w) _⟩
  · rw [chkC_step hs]
    obtain ⟨s, l⟩ := c
    obtain ⟨e1, e2, e3, e4, e5, e6⟩ := not_step hs
    simp only at e1 e2 e3 e4 e5 e6
    clear hs
    go_enter Tryd.func13, Tryd.ntmps13
    go_wp2_with fail
    go_ret
    exact ⟨rfl, w_alloc (w_refl w) _⟩

set_option maxHeartbeats 2000000 in
theorem rkey_any (c : Cl) (k : Int) (w : World) : Calls Tryd.prog 33 #[cv c, .int .i64 k] w fun e w' => e = .returned (.int .i64 (keyE c k)) ∧ Below w.heap.size w w' := by
  have C := Lib.hid (fun W => rcchk_any c W)
  by_cases h : chkC c = 0
  · have hc := chkC_zero h
    rw [h] at C
    by_cases hk : 0 ≤ k ∧ k ≤ 2
    · rw [keyE_ok hc hk]
      obtain ⟨h1, h2⟩ := hk
      obtain ⟨s, l⟩ := c
      clear h hc
      go_enter Tryd.func33, Tryd.ntmps33
      go_wp2_with fail
      refine (C.out _).mono ?_
      rintro e w1 ⟨rfl, hb⟩
      have hB := Lib.hid (w_below (w_alloc (w_refl w) _) hb)
      clear hb C
      go_wp2_with fail
      go_ret
      exact ⟨rfl, hB.out⟩
    · rw [keyE_out hc hk]
      obtain ⟨s, l⟩ := c
      clear h hc
      by_cases h1 : k < 0
      · clear hk
        go_enter Tryd.func33, Tryd.ntmps33
        go_wp2_with fail
        refine (C.out _).mono ?_
        rintro e w1 ⟨rfl, hb⟩
        have hB := Lib.hid (w_below (w_alloc (w_refl w) _) hb)
        clear hb C
        go_wp2_with fail
        go_ret
        exact ⟨rfl, hB.out⟩
      · have h2 : 2 < k := by omega
        clear hk
        go_enter Tryd.func33, Tryd.ntmps33
        go_wp2_with fail
        refine (C.out _).mono ?_
        rintro e w1 ⟨rfl, hb⟩
        have hB := Lib.hid (w_below (w_alloc (w_refl w) _) hb)
        clear hb C
        go_wp2_with fail
        go_ret
        exact ⟨rfl, hB.out⟩
  · rw [keyE_no h]
    have e1 : (chkC c == 0) = false := by simp [h]
    have e2 : (chkC c != 0) = true := by simp [h]
    clear h
    generalize chkC c = E at *
    obtain ⟨s, l⟩ := c
    go_enter Tryd.func33, Tryd.ntmps33
    go_wp2_with fail
    refine (C.out _).mono ?_
    rintro e w1 ⟨rfl, hb⟩
    have hB := Lib.hid (w_below (w_alloc (w_refl w) _) hb)
    clear hb C
    go_wp2_with fail
    go_ret
    exact ⟨rfl, hB.out⟩

theorem ron_any (x : Int) (w : World) : Calls Tryd.prog 34 #[.int .i64 x] w fun e w' => e = .returned (.bool (decide (onP x))) ∧ w = w' := by
  by_cases h : onP x
  · rw [decide_eq_true h]
    obtain ⟨h1, h2⟩ := h
    go_enter Tryd.func34, Tryd.ntmps34
    go_wp2_with fail
    go_ret
    exact ⟨rfl, rfl⟩
  · rw [decide_eq_false h]
    unfold onP at h
    by_cases h1 : x < -4
    · clear h
      have h2 : ¬ (-4 ≤ x) := by omega
      go_enter Tryd.func34, Tryd.ntmps34
      go_wp2_with fail
      go_ret
      exact ⟨rfl, rfl⟩
    · have h2 : -4 ≤ x := by omega
      have h3 : ¬ (x ≤ 12) := by omega
      clear h
      go_enter Tryd.func34, Tryd.ntmps34
      go_wp2_with fail
      go_ret
      exact ⟨rfl, rfl⟩

theorem rlow_any (c : Cl) (h : okC c) (w : World) : Calls Tryd.prog 35 #[cv c] w fun e w' => e = .returned (.int .i64 (lowC c)) ∧ Below w.heap.size w w' := by
  have hx : Hid (∀ x, lowC c = x → Ending.returned (Value.int .i64 x) = .returned (.int .i64 (lowC c))) := Lib.hid (fun x e => by rw [e])
  obtain ⟨s, l⟩ := c
  obtain ⟨hs, h1, h2⟩ := h
  simp only at hs h1 h2
  rcases hs with rfl | rfl | rfl
  all_goals
    go_enter Tryd.func35, Tryd.ntmps35
    go_wp2_with fail
    go_ret
    exact ⟨hx.out _ (by simp [lowC]), w_alloc (w_refl w) _⟩

theorem rflat_any (k s : Int) (hk : 0 ≤ k ∧ k ≤ 2) (w : World) : Calls Tryd.prog 36 #[.int .i64 k, .int .i64 s] w fun e w' => e = .returned (.int .i64 (flatI k s)) ∧ w = w' := by
  have hkk : k = 0 ∨ k = 1 ∨ k = 2 := by omega
  clear hk
  by_cases h6 : s = 6
  · subst h6
    rcases hkk with rfl | rfl | rfl
    all_goals
      go_enter Tryd.func36, Tryd.ntmps36
      go_wp2_with fail
      go_ret
      exact ⟨rfl, rfl⟩
  · by_cases h2 : s = 2
    · subst h2
      rcases hkk with rfl | rfl | rfl
      all_goals
        go_enter Tryd.func36, Tryd.ntmps36
        go_wp2_with fail
        go_ret
        exact ⟨rfl, rfl⟩
    · have e : flatI k s = 0 := if_neg (by omega)
      rw [e]
      have e6 : (s == 6) = false := by simp [h6]
      have e2 : (s == 2) = false := by simp [h2]
      rcases hkk with rfl | rfl | rfl
      all_goals
        go_enter Tryd.func36, Tryd.ntmps36
        go_wp2_with fail
        go_ret
        exact ⟨rfl, rfl⟩

set_option maxHeartbeats 2000000 in
theorem rled_any (x : Int) (h : onP x) (w : World) : Calls Tryd.prog 38 #[.int .i64 x] w fun e w' => e = .returned (.int .i64 (ledI x)) ∧ w = w' := by
  obtain ⟨h1, h2⟩ := h
  have hl1 := Lib.hid (show x < -1 → ledI x = (-x) / 2 from fun h => if_pos h)
  have hl2 := Lib.hid (show -1 ≤ x → 9 < x → ledI x = x / 2 - 4 from fun h k => by unfold ledI; rw [if_neg (by omega), if_pos k])
  have hl3 := Lib.hid (show -1 ≤ x → x ≤ 9 → ledI x = 0 from fun h k => by unfold ledI; rw [if_neg (by omega), if_neg (by omega)])
  generalize ledI x = L at *
  go_enter Tryd.func38, Tryd.ntmps38
  go_wp2_with fail
  go_loopw [3, 4] (fun s3 s4 wr => ∃ k : Nat, s3 = .int .i64 k ∧ s4 = .int .i64 (-2 - 2 * (k : Int)) ∧ (k = 0 ∨ x ≤ -2 - 2 * (k : Int) + 2) ∧ w = wr) (fun _ s4 _ => (intOf s4 + 6).toNat)
  case atStart => exact ⟨0, rfl, rfl, .inl rfl, rfl⟩
  case round =>
    obtain ⟨k, rfl, rfl, hk, rfl⟩ := hrel
    obtain ⟨g, hg⟩ : ∃ g, -2 - 2 * (k : Int) = g := ⟨_, rfl⟩
    rw [hg] at hk ⊢
    by_cases hlt : x ≤ g
    · go_wp2_with fail
      go_roundw
      case rel => exact ⟨k + 1, by go_num, by rw [show -2 - 2 * ((k + 1 : Nat) : Int) = g - 2 by omega], .inr (by omega), trivial⟩
      case measure => simp [intOf]; omega
    · obtain ⟨kk, hkk⟩ : ∃ kk, (k : Int) = kk := ⟨_, rfl⟩
      rw [hkk]
      go_wp2_with fail
      go_loopw [3, 5] (fun s3 s5 wr => ∃ j : Nat, s3 = .int .i64 (kk + (j : Int)) ∧ s5 = .int .i64 (10 + 2 * (j : Int)) ∧ (j = 0 ∨ 10 + 2 * (j : Int) - 2 ≤ x) ∧ w = wr) (fun _ s5 _ => (14 - intOf s5).toNat)
      case atStart => exact ⟨0, by simp, rfl, .inl rfl, rfl⟩
      case round =>
        obtain ⟨j, rfl, rfl, hj, rfl⟩ := hrel
        obtain ⟨f, hf⟩ : ∃ f, 10 + 2 * (j : Int) = f := ⟨_, rfl⟩
        obtain ⟨n, hn⟩ : ∃ n, kk + (j : Int) = n := ⟨_, rfl⟩
        rw [hf] at hj ⊢
        rw [hn]
        by_cases hl2' : f ≤ x
        · go_wp2_with fail
          go_roundw
          case rel => exact ⟨j + 1, by rw [show kk + ((j + 1 : Nat) : Int) = n + 1 by omega], by rw [show 10 + 2 * ((j + 1 : Nat) : Int) = f + 2 by omega], .inr (by omega), trivial⟩
          case measure => simp [intOf]; omega
        · have hL : n = L := by
            by_cases a1 : x < -1
            · have := hl1.out a1; omega
            · by_cases a2 : 9 < x
              · have := hl2.out (by omega) a2; omega
              · have := hl3.out (by omega) (by omega); omega
          subst hL
          go_wp2_with fail
          go_ret
          exact ⟨rfl, rfl⟩

set_option maxHeartbeats 2000000 in
theorem rledgers_any (x : Int) (w : World) : Calls Tryd.prog 15 #[.int .i64 x] w fun e w' => e = .returned (.tuple #[.int .i64 (ledV x), .int .i64 (ledE x)]) ∧ w = w' := by
  have O := Lib.hid (fun W => ron_any x W)
  by_cases h : onP x
  · rw [show ledV x = ledI x from if_pos h, show ledE x = 0 from if_pos h]
    rw [decide_eq_true h] at O
    have L := Lib.hid (fun W => rled_any x h W)
    clear h
    go_enter Tryd.func15, Tryd.ntmps15
    go_wp2_with fail
    refine (O.out _).mono ?_
    rintro e w1 ⟨rfl, rfl⟩
    go_wp2_with fail
    refine (L.out _).mono ?_
    rintro e w1 ⟨rfl, rfl⟩
    go_wp2_with fail
    go_ret2
    exact ⟨rfl, rfl⟩
  · rw [show ledV x = 0 from if_neg h, show ledE x = 2 from if_neg h]
    rw [decide_eq_false h] at O
    clear h
    go_enter Tryd.func15, Tryd.ntmps15
    go_wp2_with fail
    refine (O.out _).mono ?_
    rintro e w1 ⟨rfl, rfl⟩
    go_wp2_with fail
    go_ret2
    exact ⟨rfl, rfl⟩

end Go.Proofs.YteomimeagloofaaDoor
