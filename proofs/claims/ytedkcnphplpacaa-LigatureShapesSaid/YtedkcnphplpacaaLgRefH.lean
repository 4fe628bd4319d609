/- The reference's counted. -/
import Derived.Test.YtedkcnphplpacaaLgRefG
import Derived.Test.YtedkcnphplpacaaLgMathB
import Derived.Test.YtedkcnphplpacaaLgProgO
namespace Go.Proofs.Ytedkcnphplpacaa
open Go.RowKit
attribute [local go_sem] sgA_g0 sgA_g1 sgA_g2 sgA_g3 sgA_g4 sgA_g5 sgA_g6 sgA_g7 sgA_g8 sgA_g9 sgA_g10 sgA_g11 sgA_g12 sgA_g13 sgA_g14 sgA_g15 sgA_g16

abbrev v2 (a b : Int) : Value := .agg #[.int .i64 a, .int .i64 b]
abbrev c2O (a b : Int) : Obj := .cells #[.int .i64 a, .int .i64 b] 87
def addB (a : Int) (b : Bool) : Int := if b then a + 1 else a

set_option maxHeartbeats 4000000 in
theorem counted_any (a b : Int) (s : Sg) (w : World) (ha : 0 ≤ a) (ha1 : a ≤ 1000000) (hb : 0 ≤ b) (hb1 : b ≤ 1000000) :
    Calls Try.prog 67 #[v2 a b, sgv s] w fun e w' => e = .returned (v2 (addB a s.obl) (addB b (s.stem == 3))) ∧ Below w.heap.size w w' := by
  have x1 : IntKind.i64.wrap (a + 1) = a + 1 := IntWalk.i64_in _ (by omega)
  have x2 : IntKind.i64.wrap (b + 1) = b + 1 := IntWalk.i64_in _ (by omega)
  have key : ∀ A : Int, HoldsB (((w.alloc (c2O A b)).alloc (sgO s)).alloc (c2O 0 0)) w.heap.size 87 #[.int .i64 A, .int .i64 b] ∧ HoldsB (((w.alloc (c2O A b)).alloc (sgO s)).alloc (c2O 0 0)) (w.heap.size + 1) 30 (sgA s) := fun A => by
    have h1 := ((HoldsB.new w 87 #[.int .i64 A, .int .i64 b]).al (sgO s)).al (c2O 0 0)
    have h2 := (sg_new (w.alloc (c2O A b)) s).al (c2O 0 0)
    rw [World.size_alloc] at h2
    exact ⟨h1, h2⟩
  have k6 : _ = some (Value.bool s.obl) := (key a).2.cell (j := 6) rfl
  have k5 : _ = some (Value.int .i64 s.stem) := (key a).2.cell (j := 5) rfl
  have j5 : _ = some (Value.int .i64 s.stem) := (key (a + 1)).2.cell (j := 5) rfl
  have hB := Lib.hid (show ∀ A C D E : Int, Below w.heap.size w (((w.alloc (c2O A C)).alloc (sgO s)).alloc (c2O D E)) from fun A C D E => w_alloc (w_alloc (w_alloc (w_refl w) (c2O A C)) (sgO s)) (c2O D E))
  clear key ha ha1 hb hb1
  generalize s.obl = o at *
  by_cases hs : s.stem = 3
  · have hs' : (s.stem == 3) = true := beq_iff_eq.2 hs
    rw [hs']
    rw [hs] at k5 j5
    clear hs hs'
    cases o
    all_goals
      go_enter Try.func67, Try.ntmps67
      go_wp2_with (first | (refine wl_box s (by kernel_rfl) ?_) | fail)
      refine bodyPost_ret (by simp [results, Try.results67, go_sem]; exact ⟨rfl, rfl⟩) rfl ⟨rfl, hB.out _ _ _ _⟩
  · have hs' : (s.stem == 3) = false := beq_eq_false_iff_ne.2 hs
    rw [hs']
    clear hs
    cases o
    all_goals
      go_enter Try.func67, Try.ntmps67
      go_wp2_with (first | (refine wl_box s (by kernel_rfl) ?_) | fail)
      refine bodyPost_ret (by simp [results, Try.results67, go_sem]; exact ⟨rfl, rfl⟩) rfl ⟨rfl, hB.out _ _ _ _⟩

end Go.Proofs.Ytedkcnphplpacaa
