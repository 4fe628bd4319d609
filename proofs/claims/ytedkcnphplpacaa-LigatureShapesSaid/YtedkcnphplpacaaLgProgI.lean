/- The program's iterator of shapes. -/
import Derived.Test.YtedkcnphplpacaaLgProgH
import Derived.Laws.MakeOwn
namespace Go.Proofs.Ytedkcnphplpacaa
open Go.RowKit
theorem run_store_fnG (P : Program) (w : World) (a : Addr) (f : Fn) (x y : Array Value) (m : Mode) : (store a (.func f x y) m).run P w = stored P w a (.func f x y) m := run_store P w a _ m rfl
attribute [local go_sem] run_store_fnG

theorem its_start (W : World) (l cap bp bv : Nat) (zb : Array Value) (hz : zb.size = cap * 17) : ItS W.heap.size l cap bp bv [] ((((((W.alloc (.cells #[.func (.yield l) #[] #[]] 44)).alloc (.cells ruA 82)).alloc (.cells #[.slice (some ⟨W.heap.size + 1, 0, none⟩) 4 4] 65)).alloc (.cells zb 30)).alloc (.cells #[.slice (some ⟨W.heap.size + 1 + 1 + 1, 0, none⟩) 0 cap] 23)).alloc (.cells #[goV W.heap.size bp bv] 38)) := by
  have h0 := ((((HoldsB.new W 44 #[.func (.yield l) #[] #[]]).al (.cells ruA 82)).al (.cells #[.slice (some ⟨W.heap.size + 1, 0, none⟩) 4 4] 65)).al (.cells zb 30)).al (.cells #[.slice (some ⟨W.heap.size + 1 + 1 + 1, 0, none⟩) 0 cap] 23) |>.al (.cells #[goV W.heap.size bp bv] 38)
  have h1 := (((HoldsB.new (W.alloc (.cells #[.func (.yield l) #[] #[]] 44)) 82 ruA).al (.cells #[.slice (some ⟨W.heap.size + 1, 0, none⟩) 4 4] 65)).al (.cells zb 30)).al (.cells #[.slice (some ⟨W.heap.size + 1 + 1 + 1, 0, none⟩) 0 cap] 23) |>.al (.cells #[goV W.heap.size bp bv] 38)
  have h2 := ((HoldsB.new ((W.alloc (.cells #[.func (.yield l) #[] #[]] 44)).alloc (.cells ruA 82)) 65 #[.slice (some ⟨W.heap.size + 1, 0, none⟩) 4 4]).al (.cells zb 30)).al (.cells #[.slice (some ⟨W.heap.size + 1 + 1 + 1, 0, none⟩) 0 cap] 23) |>.al (.cells #[goV W.heap.size bp bv] 38)
  have h3 := ((HoldsB.new (((W.alloc (.cells #[.func (.yield l) #[] #[]] 44)).alloc (.cells ruA 82)).alloc (.cells #[.slice (some ⟨W.heap.size + 1, 0, none⟩) 4 4] 65)) 30 zb).al (.cells #[.slice (some ⟨W.heap.size + 1 + 1 + 1, 0, none⟩) 0 cap] 23)).al (.cells #[goV W.heap.size bp bv] 38)
  have h4 := (HoldsB.new ((((W.alloc (.cells #[.func (.yield l) #[] #[]] 44)).alloc (.cells ruA 82)).alloc (.cells #[.slice (some ⟨W.heap.size + 1, 0, none⟩) 4 4] 65)).alloc (.cells zb 30)) 23 #[.slice (some ⟨W.heap.size + 1 + 1 + 1, 0, none⟩) 0 cap]).al (.cells #[goV W.heap.size bp bv] 38)
  have h5 := HoldsB.new (((((W.alloc (.cells #[.func (.yield l) #[] #[]] 44)).alloc (.cells ruA 82)).alloc (.cells #[.slice (some ⟨W.heap.size + 1, 0, none⟩) 4 4] 65)).alloc (.cells zb 30)).alloc (.cells #[.slice (some ⟨W.heap.size + 1 + 1 + 1, 0, none⟩) 0 cap] 23)) 38 #[goV W.heap.size bp bv]
  simp only [World.size_alloc] at h1 h2 h3 h4 h5
  exact ⟨h0, ⟨h1⟩, h2, ⟨zb, h3, hz, by simp [flatG]⟩, h4, h5⟩

set_option maxRecDepth 100000 in
set_option maxHeartbeats 4000000 in
theorem shapes_gives (cap bp bv : Nat) (hc2 : 2 ≤ cap) (hc : cap ≤ 12) (ps vs : List Int) (hps : ps.length = cap) (pp : Option Addr) (cp : Nat) (pv : Option Addr) (cv : Nat) :
    GivesS 62 #[.pointer (some ⟨bp, 0, none⟩), .pointer (some ⟨bv, 0, none⟩)] 6 (pAll ps vs cap []) (PlC ps vs cap bp bv pp cp pv cv) := by
  intro l J Jx W hC hJ hJx hY h0
  show Calls Try.prog 62 #[.func (.yield l) #[] #[], .pointer (some ⟨bp, 0, none⟩), .pointer (some ⟨bv, 0, none⟩)] W _
  obtain ⟨i0, hi0, hz0, hz1, hz2⟩ := info_parts info_sign
  obtain ⟨zb, hzb⟩ : ∃ zb, madeCells (sgv zS).cells (cap * 17) = zb := ⟨_, rfl⟩
  have hzs : zb.size = cap * 17 := by rw [← hzb, size_madeCells]
  have mk : ∀ W, (Instr.makeSlice 23 (.int .i64 0) (.int .i64 (cap : Int))).run Try.prog W = .ok (.slice (some ⟨W.heap.size, 0, none⟩) 0 cap) (W.alloc (.cells zb 30)) := fun W => by
    have := run_make (P := Try.prog) W 23 30 i0 (sgv zS) Try.underlying23 hi0 hz0 .i64 .i64 0 (cap : Int) (by omega) (by omega) (by rw [hz2]; omega) (by omega)
    rw [hz1] at this
    simp only [Int.toNat_zero, Int.toNat_natCast, hzb] at this
    exact this
  have GO := Lib.hid (show ∀ A, ItS W.heap.size l cap bp bv [] A → J [] A → W.heap.size + 6 ≤ A.heap.size → Calls Try.prog 63 #[.pointer (some ⟨W.heap.size + 4, 0, none⟩), .pointer (some ⟨bp, 0, none⟩), .pointer (some ⟨W.heap.size, 0, none⟩), .pointer (some ⟨W.heap.size + 2, 0, none⟩), .pointer (some ⟨bv, 0, none⟩), .pointer (some ⟨W.heap.size + 5, 0, none⟩)] A (PG W.heap.size l cap bp bv J Jx (pAll ps vs cap []) [] A) from fun A hi hj hsz =>
    go_all W.heap.size l cap bp bv hc2 hc ps vs hps pp cp pv cv J Jx (pAll ps vs cap []) hJ hJx hC hY cap [] [] [] A (by simp) (by simp) hi hj hsz)
  have e1 := (hC _ _ h0).bp_.cell (j := 0) rfl
  have HS := Lib.hid (its_start W l cap bp bv zb hzs)
  have HJ0 := Lib.hid (hJ [] _ ((((((W.alloc (.cells #[.func (.yield l) #[] #[]] 44)).alloc (.cells ruA 82)).alloc (.cells #[.slice (some ⟨W.heap.size + 1, 0, none⟩) 4 4] 65)).alloc (.cells zb 30)).alloc (.cells #[.slice (some ⟨W.heap.size + 1 + 1 + 1, 0, none⟩) 0 cap] 23)).alloc (.cells #[goV W.heap.size bp bv] 38)) h0 (Off.bel (w_alloc (w_alloc (w_alloc (w_alloc (w_alloc (w_alloc (w_refl W) _) _) _) _) _) _)))
  have HZ := Lib.hid (show W.heap.size + 6 ≤ (((((((W.alloc (.cells #[.func (.yield l) #[] #[]] 44)).alloc (.cells ruA 82)).alloc (.cells #[.slice (some ⟨W.heap.size + 1, 0, none⟩) 4 4] 65)).alloc (.cells zb 30)).alloc (.cells #[.slice (some ⟨W.heap.size + 1 + 1 + 1, 0, none⟩) 0 cap] 23)).alloc (.cells #[goV W.heap.size bp bv] 38))).heap.size by simp only [World.size_alloc]; omega)
  have RU := Lib.hid (fun W => prules_any W)
  clear hC hJ hJx hY h0 hzb hzs
  go_enter Try.func62, Try.ntmps62
  go_wp2_with fail
  refine (RU.out _).mono ?_
  rintro e w2 ⟨rfl, rfl⟩
  clear RU
  have e3 := ka (ka (ka e1 (.cells #[.func (.yield l) #[] #[]] 44)) (.cells ruA 82)) (.cells #[.slice (some ⟨W.heap.size + 1, 0, none⟩) 4 4] 65)
  go_wp2_with fail
  refine (GO.out _ HS.out HJ0.out HZ.out).mono ?_
  rintro e B ⟨_, _, (⟨rfl, hj⟩ | ⟨rfl, hx⟩)⟩
  · have HF := Lib.hid hj
    clear hj HS HJ0 HZ GO
    go_wp2_with fail
    go_end0
    exact ⟨⟨_, rfl⟩, .inl HF.out⟩
  · have HF := Lib.hid hx
    clear hx HS HJ0 HZ GO
    go_wp2_with fail
    go_end0
    exact ⟨⟨_, rfl⟩, .inr HF.out⟩

theorem pshapes_any (v1 v2 : Value) (n1 n2 c1 c2 : Nat) (p1 p2 : Option Addr) (e1 : v1 = .slice p1 n1 c1) (e2 : v2 = .slice p2 n2 c2) (w : World) : Calls Try.prog 47 #[v1, v2] w fun e w' => e = .returned (.func (.func 62) #[] #[.pointer (some ⟨w.heap.size, 0, none⟩), .pointer (some ⟨w.heap.size + 1, 0, none⟩)]) ∧
    w' = (w.alloc (.cells #[v1] 22)).alloc (.cells #[v2] 22) := by
  subst e1 e2
  go_enter Try.func47, Try.ntmps47
  go_wp2_with fail
  go_ret
  exact ⟨rfl, rfl⟩

end Go.Proofs.Ytedkcnphplpacaa
