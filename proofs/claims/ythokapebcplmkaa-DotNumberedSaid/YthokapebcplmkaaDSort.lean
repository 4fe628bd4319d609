/- The library's Sort over a list of at most two ints. -/
import Derived.Test.YthokapebcplmkaaDMem
namespace Go.Proofs.Ythokapebcplmkaa
open Go.RowKit

theorem nan_any (x : Int) (w : World) : Calls Try.prog 92 #[.int .i64 x] w fun e w' => e = .returned (.bool false) ∧ w = w' := by
  have h : (x != x) = false := by simp
  go_enter Try.func92, Try.ntmps92
  go_wp2_with fail
  go_ret
  exact ⟨rfl, rfl⟩
theorem less_any (x y : Int) (w : World) : Calls Try.prog 82 #[.int .i64 x, .int .i64 y] w fun e w' => e = .returned (.bool (decide (x < y))) ∧ w = w' := by
  have N := Lib.hid (fun W => nan_any x W)
  go_enter Try.func82, Try.ntmps82
  go_wp2_with fail
  refine (N.out _).mono ?_
  rintro e w1 ⟨rfl, rfl⟩
  go_wp2_with fail
  go_ret
  exact ⟨rfl, rfl⟩

theorem grown_bel {w a : World} {r : Option Nat} (h : Below w.heap.size w a) : w.grownBy a r := ⟨h.os, h.tape, h.output, h.size, fun k hk _ => h.block k hk⟩
theorem grow_set {w a : World} {g : Nat} (h : w.grownBy a (some g)) (j : Nat) (u : Value) : w.grownBy (a.setCell ⟨g, j, none⟩ u) (some g) :=
  ⟨h.os, h.tape, h.output, by simpa using h.size, fun k hk hne => (Below.heap_setCell _ _ _ _ (fun e => hne (by rw [e]))).trans (h.block k hk hne)⟩
theorem grow_bel {w a b : World} {r : Option Nat} (h : w.grownBy a r) (k : Below a.heap.size a b) : w.grownBy b r :=
  ⟨k.os.trans h.os, k.tape.trans h.tape, k.output.trans h.output, Nat.le_trans h.size k.size, fun j hj hne => (k.block j (Nat.lt_of_lt_of_le hj h.size)).trans (h.block j hj hne)⟩

/-- One element or none: nothing is done. -/
theorem ins1_any (v : Value) (n : Int) (hn : n ≤ 1) (hn0 : 0 ≤ n) (w : World) : Calls Try.prog 76 #[v, .int .i64 0, .int .i64 n] w fun e w' => e = .returned (.tuple #[]) ∧ w = w' := by
  have hlt : ¬ (1 : Int) < n := by omega
  go_enter Try.func76, Try.ntmps76
  go_wp2_with fail
  go_loopw [6, 7] (fun i j wr => i = .int .i64 1 ∧ j = undef ∧ w = wr) (fun _ _ _ => 0)
  case atStart => exact ⟨rfl, rfl, rfl⟩
  case round =>
    obtain ⟨rfl, rfl, rfl⟩ := hrel
    go_wp2_with fail
    refine bodyPost_end (results_none rfl _ _ _) rfl ⟨rfl, rfl⟩

/-- Two elements: they are swapped where the second one is smaller. -/
theorem ins2_no (x y : Int) (hxy : ¬ y < x) (g c base : Nat) (w : World) (h : w.ownsRow base 3 1 (.slice (some ⟨g, 0, none⟩) 2 c) 2 (ints [x, y])) :
    Calls Try.prog 76 #[.slice (some ⟨g, 0, none⟩) 2 c, .int .i64 0, .int .i64 2] w fun e w' => e = .returned (.tuple #[]) ∧ Below w.heap.size w w' := by
  have N := Lib.hid (fun W => less_any y x W)
  have hd : decide (y < x) = false := decide_eq_false hxy
  rw [hd] at N
  have c0 := h.cellAt 0 (by omega)
  have c1 := h.cellAt 1 (by omega)
  simp at c0 c1
  clear h hd
  go_enter Try.func76, Try.ntmps76
  go_wp2_with fail
  go_loopw [6, 7] (fun i j wr => (i = .int .i64 1 ∧ j = undef ∨ i = .int .i64 2 ∧ j = .int .i64 1) ∧ Hid (Below w.heap.size w wr)) (fun i _ _ => 2 - (intOf i).toNat)
  case atStart => exact ⟨.inl ⟨rfl, rfl⟩, Lib.hid (w_refl w)⟩
  case round =>
    rename World => wr
    obtain ⟨⟨rfl, rfl⟩ | ⟨rfl, rfl⟩, hb⟩ := hrel
    · go_wp2_with fail
      go_loopw [7] (fun j wy => j = .int .i64 1 ∧ Hid (Below w.heap.size w wy)) (fun _ _ => 0)
      case atStart => exact ⟨rfl, hb⟩
      case round =>
        rename World => wy
        obtain ⟨rfl, hb2⟩ := hrel
        have d0 := (hb2.out.cell (p := ⟨g, 0, none⟩) (World.block_lt_of_cell? w _ c0)).trans c0
        have d1 := (hb2.out.cell (p := ⟨g, 1, none⟩) (World.block_lt_of_cell? w _ c1)).trans c1
        clear c0 c1
        go_wp2_with fail
        go_quiet ((go_at_call 82; exact Calls.quiet_of_same ((N.out _).mono (fun _ _ h => ⟨h.1, h.2.symm⟩))))
        go_wp2_with fail
        exact ⟨⟨.inr ⟨rfl, rfl⟩, Lib.hid (below_drewN hb2.out _)⟩, by decide⟩
    · go_wp2_with fail
      refine bodyPost_end (results_none rfl _ _ _) rfl ⟨rfl, hb.out⟩

set_option maxHeartbeats 1000000 in
theorem ins2_yes (x y : Int) (hxy : y < x) (g c base : Nat) (w : World) (h : w.ownsRow base 3 1 (.slice (some ⟨g, 0, none⟩) 2 c) 2 (ints [x, y])) :
    Calls Try.prog 76 #[.slice (some ⟨g, 0, none⟩) 2 c, .int .i64 0, .int .i64 2] w fun e w' => e = .returned (.tuple #[]) ∧ w'.ownsRow base 3 1 (.slice (some ⟨g, 0, none⟩) 2 c) 2 (ints [y, x]) ∧ w.grownBy w' (some g) := by
  have N := Lib.hid (fun W => less_any y x W)
  have hd : decide (y < x) = true := decide_eq_true hxy
  rw [hd] at N
  have H := Lib.hid h
  clear h hd
  go_enter Try.func76, Try.ntmps76
  go_wp2_with fail
  go_loopw [6, 7] (fun i j wr => (i = .int .i64 1 ∧ j = undef ∧ Hid (w = wr)) ∨ (i = .int .i64 2 ∧ j = .int .i64 0 ∧ Hid (wr.ownsRow base 3 1 (.slice (some ⟨g, 0, none⟩) 2 c) 2 (ints [y, x]) ∧ w.grownBy wr (some g)))) (fun i _ _ => 2 - (intOf i).toNat)
  case atStart => exact .inl ⟨rfl, rfl, Lib.hid rfl⟩
  case round =>
    rename World => wr
    rcases hrel with ⟨rfl, rfl, hb⟩ | ⟨rfl, rfl, hb⟩
    · obtain rfl := hb.out
      clear hb
      go_wp2_with fail
      go_loopw [7] (fun j wy => (j = .int .i64 1 ∧ Hid (w = wy)) ∨ (j = .int .i64 0 ∧ Hid (wy.ownsRow base 3 1 (.slice (some ⟨g, 0, none⟩) 2 c) 2 (ints [y, x]) ∧ w.grownBy wy (some g)))) (fun j _ => (intOf j).toNat)
      case atStart => exact .inl ⟨rfl, Lib.hid rfl⟩
      case round =>
        rename World => wy
        rcases hrel with ⟨rfl, hb⟩ | ⟨rfl, hb⟩
        · obtain rfl := hb.out
          clear hb
          have d0 : w.cell? ⟨g, 0, none⟩ = some (.int .i64 x) := H.out.cellAt 0 (by omega)
          have d1 : w.cell? ⟨g, 1, none⟩ = some (.int .i64 y) := H.out.cellAt 1 (by omega)
          have e0 := H.out.frozenAt 0
          have e1 := H.out.frozenAt 1
          go_wp2_with fail
          go_quiet ((go_at_call 82; exact Calls.quiet_of_same ((N.out _).mono (fun _ _ h => ⟨h.1, h.2.symm⟩))))
          go_wp2_with fail
          go_region
          all_goals
            go_wp2_with fail
            exact ⟨.inr ⟨rfl, Lib.hid ⟨own_set (own_set (own_keep H.out (below_drewN (w_refl w) _) (Nat.le_refl _)) 1 _) 0 _, grow_set (grow_set (grown_bel (below_drewN (w_refl w) _)) 1 _) 0 _⟩⟩, by decide⟩
        · go_wp2_with fail
          go_quiet (fail)
          go_wp2_with fail
          exact ⟨.inr ⟨rfl, rfl, Lib.hid ⟨own_keep hb.out.1 (below_drewN (w_refl wy) _) (Nat.le_refl _), grow_bel hb.out.2 (below_drewN (w_refl wy) _)⟩⟩, by decide⟩
    · go_wp2_with fail
      refine bodyPost_end (results_none rfl _ _ _) rfl ⟨rfl, hb.out⟩
/-- Up to twelve elements: insertion sort. -/
theorem pdq_any (v : Value) (n : Int) (hn : n ≤ 2) (hn0 : 0 ≤ n) (m : Int) (w : World) (Q : Ending → World → Prop) (h : Calls Try.prog 76 #[v, .int .i64 0, .int .i64 n] w Q)
    (hQ : ∀ e W, Q e W → e = .returned (.tuple #[])) : Calls Try.prog 72 #[v, .int .i64 0, .int .i64 n, .int .i64 m] w Q := by
  have H := Lib.hid h
  have HQ := Lib.hid hQ
  have h12 : n ≤ 12 := by omega
  have hw : IntKind.i64.wrap (n - 0) = n := by rw [IntWalk.i64_in _ (by omega)]; omega
  clear h hQ
  go_enter Try.func72, Try.ntmps72
  go_wp2_with fail
  go_loopw [1, 2, 3, 8, 9, 10, 11, 12, 13, 14, 15, 16, 17, 18] (fun s1 s2 s3 s8 s9 s10 s11 s12 s13 s14 s15 s16 s17 s18 wr => s1 = .int .i64 0 ∧ s2 = .int .i64 n ∧ s3 = .int .i64 m ∧ s8 = .bool true ∧ s9 = .bool true ∧ s10 = undef ∧ s11 = undef ∧ s12 = undef ∧ s13 = undef ∧ s14 = undef ∧ s15 = undef ∧ s16 = undef ∧ s17 = undef ∧ s18 = undef ∧ w = wr) (fun _ _ _ _ _ _ _ _ _ _ _ _ _ _ _ => 0)
  case atStart => exact ⟨rfl, rfl, rfl, rfl, rfl, rfl, rfl, rfl, rfl, rfl, rfl, rfl, rfl, rfl, rfl⟩
  case round =>
    obtain ⟨rfl, rfl, rfl, rfl, rfl, rfl, rfl, rfl, rfl, rfl, rfl, rfl, rfl, rfl, rfl⟩ := hrel
    go_wp2_with fail
    refine H.out.mono ?_
    intro e w1 hq
    obtain rfl := HQ.out e w1 hq
    go_wp2_with fail
    refine bodyPost_ret (results_none rfl _ _ _) rfl ?_
    exact hq
set_option maxRecDepth 100000 in
theorem len64_any (n : Int) (hn : n = 0 ∨ n = 1 ∨ n = 2) (w : World) : Calls Try.prog 86 #[.int .u64 n] w fun e w' => ∃ m, e = .returned (.int .i64 m) ∧ w = w' := by
  rcases hn with rfl | rfl | rfl
  all_goals
    go_enter Try.func86, Try.ntmps86
    go_wp2_with fail
    go_ret
    exact ⟨_, rfl, rfl⟩
theorem len_any (n : Int) (hn : n = 0 ∨ n = 1 ∨ n = 2) (w : World) : Calls Try.prog 73 #[.int .u64 n] w fun e w' => ∃ m, e = .returned (.int .i64 m) ∧ w = w' := by
  have L := Lib.hid (len64_any n hn w)
  clear hn
  go_enter Try.func73, Try.ntmps73
  go_wp2_with fail
  refine L.out.mono ?_
  rintro e w1 ⟨m, rfl, rfl⟩
  go_wp2_with fail
  go_ret
  exact ⟨m, rfl, rfl⟩
/-- A list of at most two ints, sorted. -/
def srt : List Int → List Int
  | [x, y] => if y < x then [y, x] else [x, y]
  | zs => zs
theorem srt_len (zs : List Int) : (srt zs).length = zs.length := by
  unfold srt
  split
  · split <;> rfl
  · rfl
theorem sort_go (v : Value) (n : Nat) (hv : ∃ p c, v = .slice p n c) (hn : n ≤ 2) (w : World) (Q : Ending → World → Prop) (h : Calls Try.prog 76 #[v, .int .i64 0, .int .i64 (n : Int)] w Q)
    (hQ : ∀ e W, Q e W → e = .returned (.tuple #[])) : Calls Try.prog 65 #[v] w Q := by
  obtain ⟨p, c, rfl⟩ := hv
  have PD := Lib.hid (fun m => pdq_any _ (n : Int) (by omega) (by omega) m w Q h hQ)
  have LN := Lib.hid (len_any (n : Int) (by omega) w)
  have HQ := Lib.hid hQ
  have e : IntKind.u64.wrap (n : Int) = (n : Int) := by
    have : n = 0 ∨ n = 1 ∨ n = 2 := by omega
    rcases this with rfl | rfl | rfl <;> rfl
  clear h hQ
  go_enter Try.func65, Try.ntmps65
  go_wp2_with fail
  refine LN.out.mono ?_
  rintro e w1 ⟨m, rfl, rfl⟩
  go_wp2_with fail
  refine (PD.out m).mono ?_
  intro e w1 hq
  obtain rfl := HQ.out e w1 hq
  go_wp2_with fail
  refine bodyPost_end (results_none rfl _ _ _) rfl ?_
  exact hq
theorem sort_any (zs : List Int) (hz : zs.length ≤ 2) (p : Option Addr) (c : Nat) (w0 w : World) (h : OwnL w0 w 3 1 (.slice p zs.length c) zs.length (ints zs)) :
    Calls Try.prog 65 #[.slice p zs.length c] w fun e w' => e = .returned (.tuple #[]) ∧ OwnL w0 w' 3 1 (.slice p zs.length c) zs.length (ints (srt zs)) := by
  refine sort_go _ zs.length ⟨p, c, rfl⟩ hz w _ ?_ (fun _ _ h => h.1)
  by_cases h1 : zs.length ≤ 1
  · have e : srt zs = zs := by
      match zs, h1 with
      | [], _ => rfl
      | [x], _ => rfl
    rw [e]
    refine (ins1_any _ (zs.length : Int) (by omega) (by omega) w).mono ?_
    rintro e w1 ⟨rfl, rfl⟩
    exact ⟨rfl, h⟩
  · obtain ⟨x, y, rfl⟩ : ∃ x y, zs = [x, y] := by
      match zs, hz, h1 with
      | [], _, h1 => exact absurd (Nat.zero_le _) h1
      | [x], _, h1 => exact absurd (Nat.le_refl _) h1
      | [x, y], _, _ => exact ⟨x, y, rfl⟩
    obtain ⟨g, rfl, _⟩ := own_some h.row (by simp)
    by_cases hxy : y < x
    · have e : srt [x, y] = [y, x] := if_pos hxy
      rw [e]
      refine (ins2_yes x y hxy g c w0.heap.size w h.row).mono ?_
      rintro e w1 ⟨rfl, h2, h3⟩
      refine ⟨rfl, h.bel.grown h3 h.bel.size (fun j e => ?_), h2⟩
      injection e with e
      subst e
      exact (h.row.lt g rfl).1
    · have e : srt [x, y] = [x, y] := if_neg hxy
      rw [e]
      refine (ins2_no x y hxy g c w0.heap.size w h.row).mono ?_
      rintro e w1 ⟨rfl, h2⟩
      exact ⟨rfl, h.later h2⟩
end Go.Proofs.Ythokapebcplmkaa
