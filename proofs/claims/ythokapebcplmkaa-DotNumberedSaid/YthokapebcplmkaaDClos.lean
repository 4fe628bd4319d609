/- The closure that keeps the last note or rest. -/
import Derived.Test.YthokapebcplmkaaDMean
import Derived.Laws.Tables
namespace Go.Proofs.Ythokapebcplmkaa
open Go.RowKit

/-- A store of a whole sign into a block. -/
theorem wl_storeH {ops : Array Oper} {rest : List Oper} {dd : Option Tmp} {x y : Operand} {t : TypeId} {ps : String} {af : Array Edge} {a : Act} {Q : Exit → Act → World → Prop} {w : World} (g : Nat) (t0 : TypeId) (old : Array Value) (s : Sg)
    (hg : HoldsB w g t0 old) (ho : old.size = 17) (hx : a.eval x = .pointer (some ⟨g, 0, none⟩)) (hy : a.eval y = sgv s)
    (h : ∀ w', HoldsB w' g t0 (sgA s) → w.grownBy w' (some g) → w'.heap.size = w.heap.size → wpList Try.prog ops Q rest (a.put dd undef) w') :
    wpList Try.prog ops Q ({ dst := dd, op := .store 51 x y, type := t, pos := ps, after := af, guard := none } :: rest) a w := by
  refine wpList_plain rfl fun _ hK => ?_
  refine wp_store_row 51 x y rfl g (sgA s) hx hy t0 old hg sg_size ho (sg_all s) (hK _ _ ?_)
  exact h _ (setRow_heap w g old _ t0 (0, 0) hg) ⟨rfl, rfl, rfl, by simp, fun k _ hne => setRow_other w g k _ (fun e => hne (by rw [e]))⟩ (by simp)
theorem grow_trans {w a b : World} {r : Option Nat} (h : w.grownBy a r) (k : a.grownBy b r) : w.grownBy b r :=
  ⟨k.os.trans h.os, k.tape.trans h.tape, k.output.trans h.output, Nat.le_trans h.size k.size, fun j hj hne => (k.block j (Nat.lt_of_lt_of_le hj h.size) hne).trans (h.block j hj hne)⟩
/-- A block that lies behind what stood is written. -/
theorem grow_new {w a b : World} {r : Option Nat} {g : Nat} (h : w.grownBy a r) (k : a.grownBy b (some g)) (hg : w.heap.size ≤ g) : w.grownBy b r :=
  ⟨k.os.trans h.os, k.tape.trans h.tape, k.output.trans h.output, Nat.le_trans h.size k.size, fun j hj hne => (k.block j (Nat.lt_of_lt_of_le hj h.size) (fun e => by injection e with e; omega)).trans (h.block j hj hne)⟩

abbrev dtF (b : Nat) : Value := .func (.func 67) #[] #[.pointer (some ⟨b, 0, none⟩)]
theorem dtb_any (w : World) : Calls Try.prog 52 #[] w fun e w' => e = .returned (dtF w.heap.size) ∧ HoldsB w' w.heap.size 51 (sgA zS) ∧ Below w.heap.size w w' := by
  have S := Lib.hid (show HoldsB (w.alloc zO) w.heap.size 51 (sgA zS) from HoldsB.new w _ _)
  have B := Lib.hid (w_alloc (w_refl w) zO)
  go_enter Try.func52, Try.ntmps52
  go_wp2_with fail
  go_ret
  exact ⟨rfl, S.out, B.out⟩

set_option maxRecDepth 100000 in
set_option maxHeartbeats 2000000 in
theorem dts_any (b : Nat) (cur s : Sg) (w : World) (h : HoldsB w b 51 (sgA cur)) :
    Calls Try.prog 67 #[sgv s, .pointer (some ⟨b, 0, none⟩)] w fun e w' => e = .returned (sgv cur) ∧ HoldsB w' b 51 (sgA (nxt s)) ∧ w.grownBy w' (some b) := by
  have hb := h.lt
  have H0 := Lib.hid (show HoldsB ((w.alloc (sgO s)).alloc zO) b 51 (sgA cur) from (h.al _).al _)
  have S0 := Lib.hid (show HoldsB ((w.alloc (sgO s)).alloc zO) w.heap.size 51 (sgA s) from (sg_new w s).al _)
  have R0 := Lib.hid (show HoldsB ((w.alloc (sgO s)).alloc zO) (w.alloc (sgO s)).heap.size 51 (sgA zS) from HoldsB.new _ _ _)
  have G0 := Lib.hid (show w.grownBy ((w.alloc (sgO s)).alloc zO) (some b) from grown_bel (w_alloc (w_alloc (w_refl w) _) _))
  have hs : ((w.alloc (sgO s)).alloc zO).heap.size = w.heap.size + 2 := by simp
  rw [World.size_alloc] at R0
  have N := Lib.hid (show nxt s = if s.kind = 3 then zS else s from rfl)
  clear h
  go_enter Try.func67, Try.ntmps67
  go_upto_region 1 with (first | (refine wl_box s (by kernel_rfl) ?_) | fail)
  obtain ⟨n, hn⟩ : ∃ n, w.heap.size = n := ⟨_, rfl⟩
  rw [hn] at S0 R0 hs hb ⊢
  generalize World.alloc (World.alloc w (sgO s)) zO = y at *
  have H1 := Lib.hid (H0.out.al (sgO cur))
  have S1 := Lib.hid (S0.out.al (sgO cur))
  have R1 := Lib.hid (R0.out.al (sgO cur))
  have T1 := Lib.hid (sg_new y cur)
  have G1 := Lib.hid (grow_bel G0.out (w_alloc (w_refl y) (sgO cur)))
  rw [hs] at T1
  go_upto_region 2 with (first | (refine wl_load b 0 cur (by kernel_rfl) H0.out.sg ?_) | (refine wl_store (n + 2) _ cur hs.symm (by kernel_rfl) (by kernel_rfl) rfl ?_) | fail)
  generalize World.alloc y (sgO cur) = y2 at *
  clear H0 S0 R0 G0 hs
  by_cases hk : s.kind = 3
  · have hk1 : (s.kind == 3) = true := by simp [hk]
    rw [if_pos hk] at N
    have e0 := S1.out.cell (j := 0) (v := .int .i64 s.kind) rfl
    go_wp2_with (first | (refine wl_storeH n _ _ zS S1.out rfl (by kernel_rfl) (by kernel_rfl) ?_) | fail)
    intro y3 hS3 hG3 _
    have H3 := Lib.hid (H1.out.kept hG3 (fun e => by injection e with e; omega))
    have R3 := Lib.hid (R1.out.kept hG3 (fun e => by injection e with e; omega))
    have T3 := Lib.hid (T1.out.kept hG3 (fun e => by injection e with e; omega))
    have S3 := Lib.hid hS3
    have G3 := Lib.hid (grow_new G1.out hG3 (by omega))
    clear hS3 hG3 H1 R1 T1 S1 G1 e0
    go_wp2_with (first | (refine wl_load n 0 zS (by kernel_rfl) S3.out.sg ?_) | (refine wl_storeH b _ _ zS H3.out rfl (by kernel_rfl) (by kernel_rfl) ?_) | fail)
    intro y4 hH4 hG4 _
    have R4 := Lib.hid (R3.out.kept hG4 (fun e => by injection e with e; omega))
    have T4 := Lib.hid (T3.out.kept hG4 (fun e => by injection e with e; omega))
    have H4 := Lib.hid hH4
    have G4 := Lib.hid (grow_trans G3.out hG4)
    clear hH4 hG4 H3 R3 T3 S3 G3
    go_wp2_with (first | (refine wl_load (n + 2) 0 cur (by kernel_rfl) T4.out.sg ?_) | (refine wl_storeH (n + 1) _ _ cur R4.out rfl (by kernel_rfl) (by kernel_rfl) ?_) | fail)
    intro y5 hR5 hG5 _
    have H5 := Lib.hid (H4.out.kept hG5 (fun e => by injection e with e; omega))
    have G5 := Lib.hid (grow_new G4.out hG5 (by omega))
    have R5 := Lib.hid hR5
    clear hR5 hG5 H4 R4 T4 G4
    go_wp2_with fail
    refine bodyPost_ret (res_sg rfl (by kernel_rfl) R5.out.sg) rfl ?_
    rw [N.out]
    exact ⟨rfl, H5.out, G5.out⟩
  · have hk1 : (s.kind == 3) = false := by simpa using hk
    rw [if_neg hk] at N
    have e0 := S1.out.cell (j := 0) (v := .int .i64 s.kind) rfl
    go_wp2_with (first | (refine wl_load n 0 s (by kernel_rfl) S1.out.sg ?_) | (refine wl_storeH b _ _ s H1.out rfl (by kernel_rfl) (by kernel_rfl) ?_) | fail)
    intro y4 hH4 hG4 _
    have R4 := Lib.hid (R1.out.kept hG4 (fun e => by injection e with e; omega))
    have T4 := Lib.hid (T1.out.kept hG4 (fun e => by injection e with e; omega))
    have H4 := Lib.hid hH4
    have G4 := Lib.hid (grow_trans G1.out hG4)
    clear hH4 hG4 H1 R1 T1 S1 G1 e0
    go_wp2_with (first | (refine wl_load (n + 2) 0 cur (by kernel_rfl) T4.out.sg ?_) | (refine wl_storeH (n + 1) _ _ cur R4.out rfl (by kernel_rfl) (by kernel_rfl) ?_) | fail)
    intro y5 hR5 hG5 _
    have H5 := Lib.hid (H4.out.kept hG5 (fun e => by injection e with e; omega))
    have G5 := Lib.hid (grow_new G4.out hG5 (by omega))
    have R5 := Lib.hid hR5
    clear hR5 hG5 H4 R4 T4 G4
    go_wp2_with fail
    refine bodyPost_ret (res_sg rfl (by kernel_rfl) R5.out.sg) rfl ?_
    rw [N.out]
    exact ⟨rfl, H5.out, G5.out⟩

end Go.Proofs.Ythokapebcplmkaa
