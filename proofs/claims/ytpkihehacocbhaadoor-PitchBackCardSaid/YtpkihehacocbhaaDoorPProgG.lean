/- The program's pitch of a spelling. -/
import Derived.Test.YtpkihehacocbhaaDoorPProgF
namespace Go.Proofs.YtpkihehacocbhaaDoor
open Go.RowKit

/-- The step of a letter, or -1. -/
def stepV (l : Int) : Int := Lib.indexByte [99, 100, 101, 102, 103, 97, 98] l.toNat.toUInt8
theorem index_any (l : Int) (w : World) : Calls Tryd.prog 38 #[.string ⟨#[99, 100, 101, 102, 103, 97, 98]⟩, .int .u8 l] w fun e w' => e = .returned (.int .i64 (stepV l)) ∧ w = w' :=
  (Tryd.strings_IndexByte ⟨#[99, 100, 101, 102, 103, 97, 98]⟩ l w).mono fun _ _ ⟨h1, h2⟩ => ⟨h1, h2.symm⟩

theorem boxesS (w : World) (l d : Int) (g : ByteArray) :
    ((w.alloc (spO l g d)).alloc (.cells #[.int .i64 0, .int .i64 0, .int .i64 0] 23)).cell? ⟨w.heap.size, 0, none⟩ = some (.int .u8 l) ∧
    ((w.alloc (spO l g d)).alloc (.cells #[.int .i64 0, .int .i64 0, .int .i64 0] 23)).cell? ⟨w.heap.size, 1, none⟩ = some (.string g) ∧
    ((w.alloc (spO l g d)).alloc (.cells #[.int .i64 0, .int .i64 0, .int .i64 0] 23)).cell? ⟨w.heap.size, 2, none⟩ = some (.int .u8 d) ∧
    Cell3 ((w.alloc (spO l g d)).alloc (.cells #[.int .i64 0, .int .i64 0, .int .i64 0] 23)) (w.heap.size + 1) (0, 0, 0) := by
  refine ⟨ka (by go_simp) _, ka (by go_simp) _, ka (by go_simp) _, ?_⟩
  have := Cell3.made (w.alloc (spO l g d)) (0, 0, 0) 23
  rwa [World.size_alloc] at this

/-- What stands while the region is walked. -/
structure FrS (w W : World) (l d : Int) (g : ByteArray) : Prop where
  bel : Below w.heap.size w W
  tab : Tab W
  c0 : W.cell? ⟨w.heap.size, 0, none⟩ = some (.int .u8 l)
  c1 : W.cell? ⟨w.heap.size, 1, none⟩ = some (.string g)
  c2 : W.cell? ⟨w.heap.size, 2, none⟩ = some (.int .u8 d)
  R : Cell3 W (w.heap.size + 1) (0, 0, 0)
theorem FrS.later {w W W' : World} {l d : Int} {g : ByteArray} (h : FrS w W l d g) (k : Below W.heap.size W W') : FrS w W' l d g :=
  ⟨w_below h.bel k, h.tab.later k, cell_later k h.c0, cell_later k h.c1, cell_later k h.c2, h.R.later k⟩
theorem far3 {w : World} {b c j : Nat} {v : Value} (h : w.cell? ⟨b, j, none⟩ = some v) (q : Pi3) (hc : b ≠ c) : (put3 w c q).cell? ⟨b, j, none⟩ = some v :=
  pkept (pkept (pkept h (.inl hc)) (.inl hc)) (.inl hc)

set_option maxHeartbeats 4000000 in
theorem wspell_any (l d : Int) (g : ByteArray) (w : World) (T : Tab w) (hd : 0 ≤ d ∧ d ≤ 255) : Calls Tryd.prog 36 #[.agg #[.int .u8 l, .string g, .int .u8 d]] w
    fun e w' => e = .returned (pv (stepV l, d - 48, altV g)) ∧ Below w.heap.size w w' := by
  have IB := Lib.hid (fun W => index_any l W)
  have AL := Lib.hid (fun W (TT : Tab W) => walter_any l d g W TT)
  have x0 : IntKind.i64.wrap d = d := IntWalk.i64_in _ (by omega)
  have x1 : IntKind.i64.wrap (d - 48) = d - 48 := IntWalk.i64_in _ (by omega)
  generalize stepV l = st at *
  generalize altV g = al at *
  have FX := Lib.hid (show FrS w (World.drew ((w.alloc (spO l g d)).alloc (.cells #[.int .i64 0, .int .i64 0, .int .i64 0] 23))) l d g from
    FrS.later ⟨w_alloc (w_alloc (w_refl w) _) _, (T.al _).al _, (boxesS w l d g).1, (boxesS w l d g).2.1, (boxesS w l d g).2.2.1, (boxesS w l d g).2.2.2⟩ (w_refl _).drew)
  clear T
  obtain ⟨_, d0, d1, d2, f0, f1, f2⟩ := FX.out.R
  go_enter Tryd.func36, Tryd.ntmps36
  go_wp2_with fail
  go_region_held3 (fun W => W.cell? ⟨w.heap.size, 0, none⟩ = some (.int .u8 l) ∧ W.cell? ⟨w.heap.size, 1, none⟩ = some (.string g) ∧ W.cell? ⟨w.heap.size, 2, none⟩ = some (.int .u8 d))
    (first
      | exact ⟨FX.out.c0, FX.out.c1, FX.out.c2⟩
      | assumption
      | exact ⟨far3 FX.out.c0 (st, d - 48, al) (by omega), far3 FX.out.c1 (st, d - 48, al) (by omega), far3 FX.out.c2 (st, d - 48, al) (by omega)⟩)
    (first
      | (go_at_call 38; refine (IB.out _).mono ?_; rintro e wn ⟨rfl, rfl⟩)
      | (go_at_call 39; refine (AL.out _ FX.out.tab).mono ?_; rintro e wn ⟨rfl, hb⟩; replace FX := Lib.hid (FX.out.later hb); clear hb d0 d1 d2 f0 f1 f2; obtain ⟨_, d0, d1, d2, f0, f1, f2⟩ := FX.out.R)
      | fail)
  all_goals
    go_wp2_with fail
    refine bodyPost_ret (v := pv (st, d - 48, al)) (by simp [results, Tryd.results36, go_sem, d0, d1, d2]) rfl ⟨rfl, ?_⟩
    exact w_set (w_set (w_set FX.out.bel (by simp) _) (by simp) _) (by simp) _

end Go.Proofs.YtpkihehacocbhaaDoor
