/- The program's rules for the value of a note, asked in their order. -/
import Derived.Test.YtedkcnphplpacaaLgProgA
namespace Go.Proofs.Ytedkcnphplpacaa
open Go.RowKit
attribute [local go_sem] sgA_g0 sgA_g1 sgA_g2 sgA_g3 sgA_g4 sgA_g5 sgA_g6 sgA_g7 sgA_g8 sgA_g9 sgA_g10 sgA_g11 sgA_g12 sgA_g13 sgA_g14 sgA_g15 sgA_g16

theorem sg_at {w : World} {b off cap n : Nat} {l : List Sg} (h : SlP w 17 (some ⟨b, off, none⟩) n cap (flatG l)) (hn : n = l.length) {i : Nat} (hi : i < l.length) : SgAt w b (off + i * 17) (l.getD i zS) := by
  subst hn
  obtain ⟨_, _, e9, _, hx⟩ := h.sg (sg_some hi)
  injection e9 with e9
  injection e9 with e9 e10 _
  subst e9 e10
  exact hx

set_option maxHeartbeats 4000000 in
theorem pright_any (l : List Sg) (i : Nat) (hi : i < l.length) (_hm : l.length ≤ 1000) (p : Option Addr) (cap : Nat) (w : World) (h : SlP w 17 p l.length cap (flatG l)) :
    Calls Try.prog 58 #[.slice p l.length cap, .int .i64 i] w fun e w' => e = .returned (.tuple #[.int .i64 2, .bool ((l.getD i zS).stem == 3)]) ∧ Below w.heap.size w w' := by
  have f1 := h.fit
  have f2 := h.max
  obtain ⟨b, off, rfl, _, hs⟩ := h.sg (sg_some hi)
  have hlt : (i : Int) < l.length := by omega
  have hi0 : (0 : Int) ≤ i := by omega
  generalize l.getD i zS = s at *
  have n5 := hs.e5
  clear h hs
  go_enter Try.func58, Try.ntmps58
  go_wp2_with fail
  go_quiet (fail)
  go_wp2_with fail
  go_ret2
  exact ⟨rfl, ⟨rfl, rfl, rfl, Nat.le_refl _, fun _ _ => rfl⟩⟩

set_option maxHeartbeats 4000000 in
theorem poppo_any (l : List Sg) (i : Nat) (hi : i < l.length) (hm : l.length ≤ 1000) (p : Option Addr) (cap : Nat) (w : World) (h : SlP w 17 p l.length cap (flatG l)) :
    Calls Try.prog 59 #[.slice p l.length cap, .int .i64 i] w fun e w' => e = .returned (.tuple #[.int .i64 4, .bool (decide (i < 2) && (l.getD 0 zS).stem == 1)]) ∧ Below w.heap.size w w' := by
  have f1 := h.fit
  have f2 := h.max
  obtain ⟨b, off, rfl, _, hs⟩ := h.sg (sg_some (show 0 < l.length by omega))
  have hlt : (0 : Int) < l.length := by omega
  generalize l.getD 0 zS = s at *
  have n5 := hs.e5
  simp only [Nat.zero_mul, Nat.add_zero] at n5
  clear h hs
  by_cases h2 : i < 2
  · have h2' : (i : Int) < 2 := by omega
    rw [decide_eq_true h2, Bool.true_and]
    clear h2
    go_enter Try.func59, Try.ntmps59
    go_wp2_with fail
    go_quiet (fail)
    go_wp2_with fail
    go_ret2
    exact ⟨rfl, ⟨rfl, rfl, rfl, Nat.le_refl _, fun _ _ => rfl⟩⟩
  · have h2' : decide ((i : Int) < 2) = false := decide_eq_false (by omega)
    rw [decide_eq_false h2, Bool.false_and]
    clear h2
    go_enter Try.func59, Try.ntmps59
    go_wp2_with fail
    go_quiet (fail)
    go_wp2_with fail
    go_ret2
    exact ⟨rfl, ⟨rfl, rfl, rfl, Nat.le_refl _, fun _ _ => rfl⟩⟩

def fstV (l : List Sg) : Int := if (decide ((l.getD 1 zS).place < (l.getD 0 zS).place) == ((l.getD 0 zS).stem == 2)) = true then 3 else 2
set_option maxHeartbeats 4000000 in
theorem pfirst_any (l : List Sg) (h2 : 2 ≤ l.length) (_hm : l.length ≤ 1000) (p : Option Addr) (cap : Nat) (w : World) (h : SlP w 17 p l.length cap (flatG l)) :
    Calls Try.prog 60 #[.slice p l.length cap, .int .i64 0] w fun e w' => e = .returned (.tuple #[.int .i64 (fstV l), .bool true]) ∧ Below w.heap.size w w' := by
  have f1 := h.fit
  have f2 := h.max
  obtain ⟨b, off, rfl, _, hs⟩ := h.sg (sg_some (show 0 < l.length by omega))
  have ht := sg_at h rfl (show 1 < l.length by omega)
  have hlt : (0 : Int) < l.length := by omega
  have hlt1 : (1 : Int) < l.length := by omega
  have hV : fstV l = if (decide ((l.getD 1 zS).place < (l.getD 0 zS).place) == ((l.getD 0 zS).stem == 2)) = true then 3 else 2 := rfl
  generalize fstV l = V at *
  generalize l.getD 0 zS = s at *
  generalize l.getD 1 zS = t at *
  have n5 := hs.e5
  have n2 := hs.e2
  have m2 := ht.e2
  simp only [Nat.zero_mul, Nat.add_zero] at n5 n2
  simp only [Nat.one_mul] at m2
  clear h hs ht
  cases hc : (decide (t.place < s.place) == (s.stem == 2)) with
  | true =>
    rw [hc, if_pos rfl] at hV
    subst hV
    go_enter Try.func60, Try.ntmps60
    go_wp2_with fail
    go_quiet (fail)
    go_wp2_with fail
    go_ret2
    exact ⟨rfl, ⟨rfl, rfl, rfl, Nat.le_refl _, fun _ _ => rfl⟩⟩
  | false =>
    rw [hc, if_neg (by decide)] at hV
    subst hV
    go_enter Try.func60, Try.ntmps60
    go_wp2_with fail
    go_quiet (fail)
    go_wp2_with fail
    go_ret2
    exact ⟨rfl, ⟨rfl, rfl, rfl, Nat.le_refl _, fun _ _ => rfl⟩⟩
theorem pfirst_no (z : Value) (i : Nat) (hi : 0 < i) (w : World) :
    Calls Try.prog 60 #[z, .int .i64 i] w fun e w' => e = .returned (.tuple #[.int .i64 0, .bool false]) ∧ Below w.heap.size w w' := by
  have hi' : (0 : Int) < i := by omega
  go_enter Try.func60, Try.ntmps60
  go_wp2_with fail
  go_ret2
  exact ⟨rfl, w_refl w⟩

def lstV (l : List Sg) (i : Nat) : Int := if ((l.getD (i - 1) zS).obl || decide ((l.getD (i - 1) zS).place < (l.getD i zS).place)) = true then 3 else 2
set_option maxHeartbeats 4000000 in
theorem plast_no (l : List Sg) (i : Nat) (hi : i < l.length) (hn : (l.getD i zS).last = false) (_hm : l.length ≤ 1000) (p : Option Addr) (cap : Nat) (w : World) (h : SlP w 17 p l.length cap (flatG l)) :
    Calls Try.prog 61 #[.slice p l.length cap, .int .i64 i] w fun e w' => e = .returned (.tuple #[.int .i64 0, .bool false]) ∧ Below w.heap.size w w' := by
  have f1 := h.fit
  have f2 := h.max
  obtain ⟨b, off, rfl, _, hs⟩ := h.sg (sg_some hi)
  have hlt : (i : Int) < l.length := by omega
  have hi0 : (0 : Int) ≤ i := by omega
  generalize l.getD i zS = s at *
  have n7 := hs.e7
  rw [hn] at n7
  clear h hs
  go_enter Try.func61, Try.ntmps61
  go_wp2_with fail
  go_ret2
  exact ⟨rfl, w_refl w⟩
set_option maxHeartbeats 4000000 in
theorem plast_any (l : List Sg) (j : Nat) (hi : j + 1 < l.length) (hn : (l.getD (j + 1) zS).last = true) (_hm : l.length ≤ 1000) (p : Option Addr) (cap : Nat) (w : World) (h : SlP w 17 p l.length cap (flatG l)) :
    Calls Try.prog 61 #[.slice p l.length cap, .int .i64 ((j + 1 : Nat) : Int)] w fun e w' => e = .returned (.tuple #[.int .i64 (lstV l (j + 1)), .bool true]) ∧ Below w.heap.size w w' := by
  have f1 := h.fit
  have f2 := h.max
  obtain ⟨b, off, rfl, _, hs⟩ := h.sg (sg_some hi)
  have ht := sg_at h rfl (show j < l.length by omega)
  have hlt : ((j + 1 : Nat) : Int) < l.length := by omega
  have hi0 : (0 : Int) ≤ ((j + 1 : Nat) : Int) := by omega
  have hj0 : (0 : Int) ≤ (j : Int) := by omega
  have hj1 : (j : Int) < l.length := by omega
  have x2 : IntKind.i64.wrap (((j + 1 : Nat) : Int) - 1) = (j : Int) := by rw [IntWalk.i64_in _ (by omega)]; omega
  have hV : lstV l (j + 1) = if ((l.getD j zS).obl || decide ((l.getD j zS).place < (l.getD (j + 1) zS).place)) = true then 3 else 2 := rfl
  generalize lstV l (j + 1) = V at *
  generalize l.getD (j + 1) zS = s at *
  generalize l.getD j zS = t at *
  have n7 := hs.e7
  have n2 := hs.e2
  have m2 := ht.e2
  have m6 := ht.e6
  rw [hn] at n7
  clear h hs ht hi
  obtain ⟨o9, ho9⟩ : ∃ z, off + (j + 1) * 17 = z := ⟨_, rfl⟩
  obtain ⟨ji, hji⟩ : ∃ z : Int, ((j + 1 : Nat) : Int) = z := ⟨_, rfl⟩
  have hoff : off + ji.toNat * 17 = o9 := by rw [← ho9, ← hji]; simp
  rw [ho9] at n7 n2
  rw [hji] at x2 hlt hi0 ⊢
  clear ho9 hji
  cases hob : t.obl with
  | true =>
    rw [hob] at m6 hV
    rw [show (true || decide (t.place < s.place)) = true from rfl, if_pos rfl] at hV
    subst hV
    clear m2
    go_enter Try.func61, Try.ntmps61
    go_wp2_with fail
    go_quiet (fail)
    go_wp2_with fail
    go_ret2
    exact ⟨rfl, ⟨rfl, rfl, rfl, Nat.le_refl _, fun _ _ => rfl⟩⟩
  | false =>
    rw [hob] at m6 hV
    rw [Bool.false_or] at hV
    by_cases hp : t.place < s.place
    · rw [decide_eq_true hp, if_pos rfl] at hV
      subst hV
      go_enter Try.func61, Try.ntmps61
      go_wp2_with fail
      go_quiet (fail)
      go_wp2_with fail
      go_ret2
      exact ⟨rfl, ⟨rfl, rfl, rfl, Nat.le_refl _, fun _ _ => rfl⟩⟩
    · rw [decide_eq_false hp, if_neg (by decide)] at hV
      subst hV
      go_enter Try.func61, Try.ntmps61
      go_wp2_with fail
      go_quiet (fail)
      go_wp2_with fail
      go_ret2
      exact ⟨rfl, ⟨rfl, rfl, rfl, Nat.le_refl _, fun _ _ => rfl⟩⟩

/-! ### The rules in their order -/
abbrev ruF (f : Nat) : Value := .func (.func f) #[] #[]
abbrev ruA : Array Value := #[ruF 58, ruF 59, ruF 60, ruF 61]
/-- The rules stand in block b. -/
structure RuAt (w : World) (b : Nat) : Prop where
  at_ : HoldsB w b 82 ruA
theorem RuAt.later {w w1 : World} {b : Nat} (h : RuAt w b) (k : Below w.heap.size w w1) : RuAt w1 b := ⟨h.at_.later k⟩
theorem prules_any (w : World) : Calls Try.prog 43 #[] w fun e w' => e = .returned (.slice (some ⟨w.heap.size, 0, none⟩) 4 4) ∧ w' = w.alloc (.cells ruA 82) := by
  go_enter Try.func43, Try.ntmps43
  go_wp2_with fail
  go_ret
  exact ⟨rfl, rfl⟩

def valP (l : List Sg) (i : Nat) : Int :=
  if ((l.getD i zS).stem == 3) = true then 2 else if (decide (i < 2) && (l.getD 0 zS).stem == 1) = true then 4
  else if i = 0 then fstV l else if (l.getD i zS).last = true then lstV l i else 3

set_option maxRecDepth 100000 in
set_option maxHeartbeats 8000000 in
theorem pval_any (l : List Sg) (i : Nat) (hi : i < l.length) (hm : l.length ≤ 1000) (h2 : i = 0 → 2 ≤ l.length) (p : Option Addr) (cap : Nat) (br : Nat) (w : World) (hr : RuAt w br) (h : SlP w 17 p l.length cap (flatG l)) :
    Calls Try.prog 44 #[.slice (some ⟨br, 0, none⟩) 4 4, .slice p l.length cap, .int .i64 i] w fun e w' => e = .returned (.int .i64 (valP l i)) ∧ Below w.heap.size w w' := by
  have hV : valP l i = if ((l.getD i zS).stem == 3) = true then 2 else if (decide (i < 2) && (l.getD 0 zS).stem == 1) = true then 4
    else if i = 0 then fstV l else if (l.getD i zS).last = true then lstV l i else 3 := rfl
  have R1 := Lib.hid (fun W (b : Below w.heap.size w W) => pright_any l i hi hm p cap W (h.later b))
  have R2 := Lib.hid (fun W (b : Below w.heap.size w W) => poppo_any l i hi hm p cap W (h.later b))
  have R3 := Lib.hid (show i = 0 → ∀ W (_ : Below w.heap.size w W), Calls Try.prog 60 #[.slice p l.length cap, .int .i64 i] W fun e w' => e = .returned (.tuple #[.int .i64 (fstV l), .bool true]) ∧ Below W.heap.size W w' from fun e W b => by
    subst e; exact pfirst_any l (h2 rfl) hm p cap W (h.later b))
  have R3n := Lib.hid (show i ≠ 0 → ∀ W, Calls Try.prog 60 #[.slice p l.length cap, .int .i64 i] W fun e w' => e = .returned (.tuple #[.int .i64 0, .bool false]) ∧ Below W.heap.size W w' from fun e W => pfirst_no _ i (by omega) W)
  have R4 := Lib.hid (show i ≠ 0 → (l.getD i zS).last = true → ∀ W (_ : Below w.heap.size w W), Calls Try.prog 61 #[.slice p l.length cap, .int .i64 i] W fun e w' => e = .returned (.tuple #[.int .i64 (lstV l i), .bool true]) ∧ Below W.heap.size W w' from fun e hl W b => by
    obtain ⟨j, rfl⟩ : ∃ j, i = j + 1 := ⟨i - 1, by omega⟩
    exact plast_any l j hi hl hm p cap W (h.later b))
  have R4n := Lib.hid (fun (hl : (l.getD i zS).last = false) W (b : Below w.heap.size w W) => plast_no l i hi hl hm p cap W (h.later b))
  have HR := Lib.hid hr
  clear h hr h2 hm hi
  obtain ⟨c1, hc1⟩ : ∃ c, ((l.getD i zS).stem == 3) = c := ⟨_, rfl⟩
  obtain ⟨c2, hc2⟩ : ∃ c, (decide (i < 2) && (l.getD 0 zS).stem == 1) = c := ⟨_, rfl⟩
  obtain ⟨c4, hc4⟩ : ∃ c, (l.getD i zS).last = c := ⟨_, rfl⟩
  rw [hc1, hc2, hc4] at hV
  rw [hc1] at R1
  rw [hc2] at R2
  rw [hc4] at R4 R4n
  generalize fstV l = v3 at *
  generalize lstV l i = v4 at *
  generalize valP l i = V at *
  clear hc1 hc2 hc4
  have HV := Lib.hid hV
  clear hV
  have NX := Lib.hid (show (i ≠ 0 → i ≠ 0) from fun h => h)
  generalize hz : decide (i = 0) = z at *
  go_enter Try.func44, Try.ntmps44
  go_wp2_with fail
  go_loopw [13] (fun s13 wr => ∃ k : Nat, k ≤ 4 ∧ s13 = .int .i64 (k : Int) ∧ Hid ((1 ≤ k → c1 = false) ∧ (2 ≤ k → c2 = false) ∧ (3 ≤ k → i ≠ 0) ∧ (4 ≤ k → c4 = false)) ∧ Hid (Below w.heap.size w wr)) (fun s13 _ => 4 - (intOf s13).toNat)
  case atStart => exact ⟨0, by omega, rfl, Lib.hid ⟨by omega, by omega, by omega, by omega⟩, Lib.hid (w_refl w)⟩
  case round =>
    rename World => wr
    obtain ⟨k, hk, rfl, hc, hb⟩ := hrel
    have c : (k = 0 ∧ (k : Int) = 0) ∨ (k = 1 ∧ (k : Int) = 1) ∨ (k = 2 ∧ (k : Int) = 2) ∨ (k = 3 ∧ (k : Int) = 3) ∨ (k = 4 ∧ (k : Int) = 4) := by omega
    have HRW := HR.out.later hb.out
    have g0 := HRW.at_.cell (j := 0) rfl
    have g1 := HRW.at_.cell (j := 1) rfl
    have g2 := HRW.at_.cell (j := 2) rfl
    have g3 := HRW.at_.cell (j := 3) rfl
    clear HRW hk
    rcases c with ⟨e, ez⟩ | ⟨e, ez⟩ | ⟨e, ez⟩ | ⟨e, ez⟩ | ⟨e, ez⟩ <;> rw [ez] <;> clear ez <;> subst e
    · clear R2 R3 R3n R4 R4n g1 g2 g3
      cases c1 with
      | true =>
        have hF := Lib.hid (show V = 2 by rw [HV.out, if_pos rfl])
        clear HV
        go_wp2_with fail
        refine (R1.out _ hb.out).mono ?_
        rintro e w1 ⟨rfl, hb1⟩
        replace hb := Lib.hid (w_below hb.out hb1)
        clear hb1 R1
        go_wp2_with fail
        go_ret
        exact ⟨by rw [hF.out]; rfl, hb.out⟩
      | false =>
        clear HV
        go_wp2_with fail
        refine (R1.out _ hb.out).mono ?_
        rintro e w1 ⟨rfl, hb1⟩
        replace hb := Lib.hid (w_below hb.out hb1)
        clear hb1 R1
        go_wp2_with fail
        go_roundw
        case rel => exact ⟨1, by omega, rfl, Lib.hid ⟨fun _ => trivial, by omega, by omega, by omega⟩, hb⟩
        case measure => simp [intOf]
    · clear R1 R3 R3n R4 R4n g0 g2 g3
      have d1 := hc.out.1 (Nat.le_refl _)
      subst d1
      cases c2 with
      | true =>
        have hF := Lib.hid (show V = 4 by rw [HV.out, if_neg (by decide), if_pos rfl])
        clear HV
        go_wp2_with fail
        refine (R2.out _ hb.out).mono ?_
        rintro e w1 ⟨rfl, hb1⟩
        replace hb := Lib.hid (w_below hb.out hb1)
        clear hb1 R2
        go_wp2_with fail
        go_ret
        exact ⟨by rw [hF.out]; rfl, hb.out⟩
      | false =>
        clear HV
        go_wp2_with fail
        refine (R2.out _ hb.out).mono ?_
        rintro e w1 ⟨rfl, hb1⟩
        replace hb := Lib.hid (w_below hb.out hb1)
        clear hb1 R2
        go_wp2_with fail
        go_roundw
        case rel => exact ⟨2, by omega, rfl, Lib.hid ⟨fun _ => trivial, fun _ => trivial, by omega, by omega⟩, hb⟩
        case measure => simp [intOf]
    · clear R1 R2 R4 R4n g0 g1 g3
      have d1 := hc.out.1 (by omega)
      have d2 := hc.out.2.1 (by omega)
      subst d1 d2
      by_cases hi0 : i = 0
      · have hF := Lib.hid (show V = v3 by rw [HV.out, if_neg (by decide), if_neg (by decide), if_pos hi0])
        have R := Lib.hid (R3.out hi0)
        clear HV R3 R3n hi0
        go_wp2_with fail
        refine (R.out _ hb.out).mono ?_
        rintro e w1 ⟨rfl, hb1⟩
        replace hb := Lib.hid (w_below hb.out hb1)
        clear hb1 R
        go_wp2_with fail
        go_ret
        exact ⟨by rw [hF.out]; rfl, hb.out⟩
      · have R := Lib.hid (R3n.out hi0)
        have HI := Lib.hid hi0
        clear HV R3 R3n hi0
        go_wp2_with fail
        refine (R.out _).mono ?_
        rintro e w1 ⟨rfl, hb1⟩
        replace hb := Lib.hid (w_below hb.out hb1)
        clear hb1 R
        go_wp2_with fail
        go_roundw
        case rel => exact ⟨3, by omega, rfl, Lib.hid ⟨fun _ => trivial, fun _ => trivial, fun _ => HI.out, by omega⟩, hb⟩
        case measure => simp [intOf]
    · clear R1 R2 R3 R3n g0 g1 g2
      have d1 := hc.out.1 (by omega)
      have d2 := hc.out.2.1 (by omega)
      have hi0 := hc.out.2.2.1 (by omega)
      subst d1 d2
      cases c4 with
      | true =>
        have hF := Lib.hid (show V = v4 by rw [HV.out, if_neg (by decide), if_neg (by decide), if_neg hi0, if_pos rfl])
        have R := Lib.hid (R4.out hi0 rfl)
        clear HV R4 R4n hi0
        go_wp2_with fail
        refine (R.out _ hb.out).mono ?_
        rintro e w1 ⟨rfl, hb1⟩
        replace hb := Lib.hid (w_below hb.out hb1)
        clear hb1 R
        go_wp2_with fail
        go_ret
        exact ⟨by rw [hF.out]; rfl, hb.out⟩
      | false =>
        have R := Lib.hid (R4n.out rfl)
        have HI := Lib.hid hi0
        clear HV R4 R4n hi0
        go_wp2_with fail
        refine (R.out _ hb.out).mono ?_
        rintro e w1 ⟨rfl, hb1⟩
        replace hb := Lib.hid (w_below hb.out hb1)
        clear hb1 R
        go_wp2_with fail
        go_roundw
        case rel => exact ⟨4, by omega, rfl, Lib.hid ⟨fun _ => trivial, fun _ => trivial, fun _ => HI.out, fun _ => trivial⟩, hb⟩
        case measure => simp [intOf]
    · have d1 := hc.out.1 (by omega)
      have d2 := hc.out.2.1 (by omega)
      have hi0 := hc.out.2.2.1 (by omega)
      have d4 := hc.out.2.2.2 (by omega)
      subst d1 d2 d4
      have hF := Lib.hid (show V = 3 by rw [HV.out, if_neg (by decide), if_neg (by decide), if_neg hi0, if_neg (by decide)])
      clear HV R1 R2 R3 R3n R4 R4n g0 g1 g2 g3 hi0
      go_wp2_with fail
      go_ret
      exact ⟨by rw [hF.out]; rfl, hb.out⟩

end Go.Proofs.Ytedkcnphplpacaa
