/- The reference's bare and note. -/
import Derived.Test.YtedkcnphplpacaaLgSpec
import Derived.Test.YtedkcnphplpacaaLgOps
import Derived.Deep.RegionHeld3
import Derived.Deep.QuietTactic
namespace Go.Proofs.Ytedkcnphplpacaa
open Go.RowKit
attribute [local go_sem] sgA_g0 sgA_g1 sgA_g2 sgA_g3 sgA_g4 sgA_g5 sgA_g6 sgA_g7 sgA_g8 sgA_g9 sgA_g10 sgA_g11 sgA_g12 sgA_g13 sgA_g14 sgA_g15 sgA_g16

set_option maxHeartbeats 4000000 in
theorem rbare_any (s : Sg) (w : World) : Calls Try.prog 57 #[sgv s] w fun e w' => e = .returned (sgv (bareS s)) ∧ Below w.heap.size w w' := by
  have HN := Lib.hid (sg_new (w.alloc (sgO s)) (bareS s))
  rw [World.size_alloc] at HN
  have e := sg_new w s
  have k0 := (e.al zO).cell (j := 0) rfl
  have k2 := (e.al zO).cell (j := 2) rfl
  have k3 := (e.al zO).cell (j := 3) rfl
  have k4 := (e.al zO).cell (j := 4) rfl
  have k5 := (e.al zO).cell (j := 5) rfl
  have k6 := (e.al zO).cell (j := 6) rfl
  have k7 := (e.al zO).cell (j := 7) rfl
  clear e
  go_enter Try.func57, Try.ntmps57
  go_wp2_with (first | (refine wl_box s (by kernel_rfl) ?_) | (refine wl_store (w.heap.size + 1) _ (bareS s) (by simp) (by kernel_rfl) (by kernel_rfl) rfl ?_) | fail)
  refine bodyPost_ret (res_sg rfl (by kernel_rfl) HN.out.sg) rfl ⟨rfl, ?_⟩
  exact w_alloc (w_alloc (w_refl w) _) _

end Go.Proofs.Ytedkcnphplpacaa
