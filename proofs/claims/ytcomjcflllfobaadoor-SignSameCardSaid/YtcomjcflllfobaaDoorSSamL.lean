/- SignSame: which parts are equal. -/
import Derived.Test.YtcomjcflllfobaaDoorSAwake
import Derived.Test.YtcomjcflllfobaaDoorSSame
namespace Go.Proofs.YtcomjcflllfobaaDoor
open Go.RowKit

set_option maxRecDepth 100000 in
set_option maxHeartbeats 8000000 in
theorem lsame_any (a b : ByteArray) (p q : Option Addr) (cp cq : Nat) (l m : List Sg) (w : World) (hp : SlP w 17 p l.length cp (flatG l)) (hq : SlP w 17 q m.length cq (flatG m)) (T : TabS w) :
    Calls Tryd.prog 5 #[ptv a p l.length cp, ptv b q m.length cq] w fun e w' => e = .returned (.bool true) ∧ Below w.heap.size w w' := by
  have H1 := Lib.hid ((pt_new w a p l.length cp).al (ptO b q m.length cq))
  have H2 := Lib.hid (pt_new (w.alloc (ptO a p l.length cp)) b q m.length cq)
  rw [World.size_alloc] at H2
  have B := Lib.hid (w_alloc (w_alloc (w_refl w) (ptO a p l.length cp)) (ptO b q m.length cq))
  have L1 := Lib.hid (fun W => light_any a p l.length cp 80 W)
  have L2 := Lib.hid (fun W => light_any b q m.length cq 80 W)
  have S1 := Lib.hid (show ∀ W, Below w.heap.size w W → Calls Tryd.prog 29 #[ptv a p l.length cp, ptv b q m.length cq] W fun e w' => e = .returned (.bool (samP a b l m)) ∧ Below W.heap.size W w' from fun W b9 => psam_any a b p q cp cq l m W (hp.later b9) (hq.later b9))
  have S2 := Lib.hid (show ∀ W, Below w.heap.size w W → Calls Tryd.prog 28 #[ptv a p l.length cp, ptv b q m.length cq] W fun e w' => e = .returned (.bool (samP a b l m)) ∧ Below W.heap.size W w' from fun W b9 => rsam_any a b p q cp cq l m W (hp.later b9) (hq.later b9))
  have S3 := Lib.hid (show ∀ W, Below w.heap.size w W → Calls Tryd.prog 29 #[ptv a p l.length cp, ptv a p l.length cp] W fun e w' => e = .returned (.bool true) ∧ Below W.heap.size W w' from fun W b9 => by have := psam_any a a p p cp cp l l W (hp.later b9) (hp.later b9); rwa [sam_refl] at this)
  have AW := Lib.hid (show ∀ W, Below w.heap.size w W → Calls Tryd.prog 16 #[] W fun e w' => e = .returned (.bool true) ∧ Below W.heap.size W w' from fun W b => awake_any W (T.later b))
  clear hp hq T
  generalize samP a b l m = S at *
  generalize litB a l.length 80 = X1 at *
  generalize litB b m.length 80 = X2 at *
  generalize l.length = n1 at *
  generalize m.length = n2 at *
  cases X1 with
  | false =>
    clear S1 S2 S3 L2
    go_enter Tryd.func5, Tryd.ntmps5
    go_upto_region 1 with (fail)
    generalize (w.alloc (ptO a p n1 cp)).alloc (ptO b q n2 cq) = y at *
    have k0 := H1.out.cell (j := 0) rfl
    have k1 := H1.out.cell (j := 1) rfl
    go_wp2_with fail
    refine (L1.out _).mono ?_
    rintro e w1 ⟨rfl, hb⟩
    replace B := Lib.hid (w_below B.out hb)
    clear hb L1 k0 k1
    go_wp2_with fail
    refine (AW.out _ B.out).mono ?_
    rintro e w1 ⟨rfl, hb⟩
    replace B := Lib.hid (w_below B.out hb)
    clear hb AW
    go_wp2_with fail
    go_ret
    exact ⟨rfl, B.out⟩
  | true =>
    go_enter Tryd.func5, Tryd.ntmps5
    go_upto_region 1 with (fail)
    generalize (w.alloc (ptO a p n1 cp)).alloc (ptO b q n2 cq) = y at *
    have k0 := H1.out.cell (j := 0) rfl
    have k1 := H1.out.cell (j := 1) rfl
    go_wp2_with fail
    refine (L1.out _).mono ?_
    rintro e w1 ⟨rfl, hb⟩
    replace B := Lib.hid (w_below B.out hb)
    replace H1 := Lib.hid (H1.out.later hb)
    replace H2 := Lib.hid (H2.out.later hb)
    have j0 := H2.out.cell (j := 0) rfl
    have j1 := H2.out.cell (j := 1) rfl
    clear hb L1 k0 k1
    go_wp2_with fail
    refine (L2.out _).mono ?_
    rintro e w2 ⟨rfl, hb⟩
    replace B := Lib.hid (w_below B.out hb)
    replace H1 := Lib.hid (H1.out.later hb)
    replace H2 := Lib.hid (H2.out.later hb)
    clear hb L2 j0 j1
    cases X2 with
    | false =>
      clear S1 S2 S3 H1 H2
      go_wp2_with fail
      refine (AW.out _ B.out).mono ?_
      rintro e w1 ⟨rfl, hb⟩
      replace B := Lib.hid (w_below B.out hb)
      clear hb AW
      go_wp2_with fail
      go_ret
      exact ⟨rfl, B.out⟩
    | true =>
      go_wp2_with fail
      have K1 := Lib.hid (show ∀ n : Grown w2, Calls Tryd.prog 29 #[ptv a p n1 cp, ptv b q n2 cq] n.W fun e w' => e = .returned (.bool S) ∧ Grew w2 w' from fun n => (S1.out n.W (w_below B.out n.b)).mono fun e w' ⟨h1, h2⟩ => ⟨h1, n.on h2, rfl⟩)
      have K2 := Lib.hid (show ∀ n : Grown w2, Calls Tryd.prog 28 #[ptv a p n1 cp, ptv b q n2 cq] n.W fun e w' => e = .returned (.bool S) ∧ Grew w2 w' from fun n => (S2.out n.W (w_below B.out n.b)).mono fun e w' ⟨h1, h2⟩ => ⟨h1, n.on h2, rfl⟩)
      have K3 := Lib.hid (show ∀ n : Grown w2, Calls Tryd.prog 29 #[ptv a p n1 cp, ptv a p n1 cp] n.W fun e w' => e = .returned (.bool true) ∧ Grew w2 w' from fun n => (S3.out n.W (w_below B.out n.b)).mono fun e w' ⟨h1, h2⟩ => ⟨h1, n.on h2, rfl⟩)
      have KA := Lib.hid (show ∀ n : Grown w2, Calls Tryd.prog 16 #[] n.W fun e w' => e = .returned (.bool true) ∧ Grew w2 w' from fun n => (AW.out n.W (w_below B.out n.b)).mono fun e w' ⟨h1, h2⟩ => ⟨h1, n.on h2, rfl⟩)
      have t0 : ∀ n : Grown w2, n.W.cell? ⟨w.heap.size, 0, none⟩ = some (.string a) := fun n => (H1.out.later n.b).cell (j := 0) rfl
      have t1 : ∀ n : Grown w2, n.W.cell? ⟨w.heap.size, 1, none⟩ = some (.slice p n1 cp) := fun n => (H1.out.later n.b).cell (j := 1) rfl
      have u0 : ∀ n : Grown w2, n.W.cell? ⟨w.heap.size + 1, 0, none⟩ = some (.string b) := fun n => (H2.out.later n.b).cell (j := 0) rfl
      have u1 : ∀ n : Grown w2, n.W.cell? ⟨w.heap.size + 1, 1, none⟩ = some (.slice q n2 cq) := fun n => (H2.out.later n.b).cell (j := 1) rfl
      clear S1 S2 S3 AW H1 H2
      refine wp_region_grown (by kernel_rfl) (by kernel_rfl) ?_
      go_big_quiet_step (fail)
      go_big_quiet_step (fail)
      go_big_quiet_step (exact K1.out _)
      go_big_quiet_step (fail)
      go_big_quiet_step (fail)
      go_big_quiet_step (exact K2.out _)
      go_big_quiet_step (fail)
      go_big_quiet_step (fail)
      go_big_quiet_step (fail)
      go_big_quiet_step (fail)
      go_big_quiet_step (exact K3.out _)
      go_big_quiet_step (fail)
      go_big_quiet_step (fail)
      go_big_quiet_step (exact KA.out _)
      go_big_quiet_step (fail)
      go_big_quiet_step (fail)
      refine wpQuiet_nil ?_
      intro n
      go_wp2_with fail
      go_ret
      exact ⟨rfl, w_below B.out n.b⟩

end Go.Proofs.YtcomjcflllfobaaDoor
