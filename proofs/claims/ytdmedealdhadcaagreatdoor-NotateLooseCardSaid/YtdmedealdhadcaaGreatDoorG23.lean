/- The program's finder: the function that it makes finds the next word of a line, for every line and place. The program's lineWords: the words of a line, or its first fault, for every line. strings.SplitSeq at a line feed, ranged over: the iterator's walk, for whatever loop body keeps its cells; and the loop's law. -/
import Derived.Test.YtdmedealdhadcaaGreatDoorG19
import Derived.Test.YtdmedealdhadcaaGreatDoorG16
import Derived.Test.YtdmedealdhadcaaGreatDoorG07
import Derived.RangeFuncNested
import Derived.RangeFuncCalls
import Derived.RangeFuncLeaves
import Derived.RangeFuncBox
import Derived.Shelf.Abstract
import Derived.Shelf.RegionOpen
import Derived.OwnWalkIn
import Derived.TacticsInMore
import Derived.LoopNIn
import Derived.LoopIn

namespace Go.Proofs.YtdmedealdhadcaaGreatDoor
open Go.RowKit
/-- What comes next from a place on: the end (1), something wrong (2), a word (0); and the place behind it. -/
def NextR (s : ByteArray) (i : Nat) (x : Wd) (st : Int) (k : Nat) : Prop :=
  (st = 1 ∧ x = noWd ∧ k = i ∧ ∀ f, Cuts s f i [] none) ∨
  (st = 2 ∧ k = i ∧ ∃ b : Nat, b < s.size ∧ x = ⟨b, ⟨#[]⟩, false⟩ ∧ ∀ f, Cuts s f i [] (some b)) ∨
  (st = 0 ∧ i < k ∧ k ≤ s.size ∧ ∃ b : Nat, b < k ∧ x.at_ = b ∧ ∀ f ws bb, Cuts s f k ws bb → Cuts s f i (⟨f + b, x.text, x.quoted⟩ :: ws) bb)
theorem cuts_skip {s : ByteArray} {f : Int} {ws : List Wd} {bb : Option Nat} : ∀ (n i : Nat), (∀ m, i ≤ m → m < i + n → bt s m = 32) → Cuts s f (i + n) ws bb → Cuts s f i ws bb
  | 0, _, _, h => h
  | n + 1, i, hb, h => .blank (hb i (Nat.le_refl _) (by omega)) (cuts_skip n (i + 1) (fun m a b => hb m (by omega) (by omega)) (by rwa [show i + 1 + n = i + (n + 1) by omega]))
theorem inner_text {s : ByteArray} {b k : Nat} (h1 : b + 2 ≤ k) (_h2 : k ≤ s.size) : (s.extract b k).extract 1 (k - b - 1) = s.extract (b + 1) (k - 1) := by
  rw [ByteArray.extract_extract]
  congr 1
  omega
/-! Blocks but one -/
theorem g_refl (w : World) (r : Option Nat) : w.grownBy w r := ⟨rfl, rfl, rfl, Nat.le_refl _, fun _ _ _ => rfl⟩
theorem g_alloc {w a : World} {r : Option Nat} (h : w.grownBy a r) (o : Obj) : w.grownBy (a.alloc o) r :=
  ⟨h.os, h.tape, h.output, by simp; have := h.size; omega, fun k hk hr => (Below.heap_alloc a o k (Nat.lt_of_lt_of_le hk h.size)).trans (h.block k hk hr)⟩
theorem g_drewN {w a : World} {r : Option Nat} (h : w.grownBy a r) (n : Nat) : w.grownBy (a.drewN n) r := ⟨h.os, h.tape, h.output, h.size, h.block⟩
theorem g_row {w a : World} {b : Nat} (h : w.grownBy a (some b)) (j : Nat) (v : Value) : w.grownBy (a.setCell ⟨b, j, none⟩ v) (some b) :=
  ⟨h.os, h.tape, h.output, by simp; exact h.size, fun k hk hr => (Below.heap_setCell a _ v k (fun e => hr (by rw [e]))).trans (h.block k hk hr)⟩
theorem g_new {w a : World} {r : Option Nat} (h : w.grownBy a r) {p : Addr} (hp : w.heap.size ≤ p.block) (v : Value) : w.grownBy (a.setCell p v) r :=
  ⟨h.os, h.tape, h.output, by simp; exact h.size, fun k hk hr => (Below.heap_setCell a _ v k (by omega)).trans (h.block k hk hr)⟩
theorem g_below {w a c : World} {r : Option Nat} (h : w.grownBy a r) (k : Below a.heap.size a c) : w.grownBy c r :=
  ⟨k.os.trans h.os, k.tape.trans h.tape, k.output.trans h.output, Nat.le_trans h.size k.size, fun i hi hr => (k.block i (Nat.lt_of_lt_of_le hi h.size)).trans (h.block i hi hr)⟩
/-- The result's block: three cells of the call's own. -/
structure Res3 (W : World) (R : Nat) : Prop where
  inb : R < W.heap.size
  c0 : W.cell? ⟨R, 0, none⟩ = some (.int .i64 0)
  c1 : W.cell? ⟨R, 1, none⟩ = some (.string ⟨#[]⟩)
  c2 : W.cell? ⟨R, 2, none⟩ = some (.bool false)
  f0 : W.frozen? ⟨R, 0, none⟩ = false
  f1 : W.frozen? ⟨R, 1, none⟩ = false
  f2 : W.frozen? ⟨R, 2, none⟩ = false
theorem Res3.made (w : World) (n : Nat) (t : TypeId) : Res3 ((w.alloc (.cells #[.int .i64 0, .string ⟨#[]⟩, .bool false] t)).drewN n) w.heap.size := ⟨by simp, by go_simp, by go_simp, by go_simp, by go_simp, by go_simp, by go_simp⟩
theorem Res3.block {W W1 : World} {R : Nat} (h : Res3 W R) (hk : W1.heap[R]? = W.heap[R]?) (hs : W.heap.size ≤ W1.heap.size) : Res3 W1 R :=
  ⟨Nat.lt_of_lt_of_le h.inb hs, (World.cell?_of_block (w := W) hk).trans h.c0, (World.cell?_of_block (w := W) hk).trans h.c1, (World.cell?_of_block (w := W) hk).trans h.c2, (World.frozen?_of_block (w := W) hk).trans h.f0, (World.frozen?_of_block (w := W) hk).trans h.f1, (World.frozen?_of_block (w := W) hk).trans h.f2⟩
theorem Res3.store {W : World} {R b j : Nat} (h : Res3 W R) (hne : R ≠ b) (v : Value) : Res3 (W.setCell ⟨b, j, none⟩ v) R := h.block (Below.heap_setCell W _ v R hne) (by simp)
theorem Res3.below {W W1 : World} {R : Nat} (h : Res3 W R) (k : Below W.heap.size W W1) : Res3 W1 R := h.block (k.block R h.inb) k.size
/-- What the made function hands back. -/
def NextPost (s : ByteArray) (i bp : Nat) (w : World) (e : Ending) (w' : World) : Prop :=
  w.grownBy w' (some bp) ∧ ∃ (x : Wd) (st : Int) (k : Nat), e = .returned (.tuple #[.agg #[.int .i64 x.at_, .string x.text, .bool x.quoted], .int .i64 st]) ∧ NextR s i x st k ∧
    w'.cell? ⟨bp, 0, none⟩ = some (.int .i64 k) ∧ w'.frozen? ⟨bp, 0, none⟩ = false
set_option maxRecDepth 100000 in
set_option maxHeartbeats 2000000 in
theorem wnext_any (s : ByteArray) (i bp bl : Nat) (w : World) (hs : s.size ≤ 1000000) (hi : i ≤ s.size) (hbp : bp < w.heap.size) (hbl : bl < w.heap.size) (hne : bl ≠ bp)
    (c0 : w.cell? ⟨bp, 0, none⟩ = some (.int .i64 i)) (f0 : w.frozen? ⟨bp, 0, none⟩ = false) (c1 : w.cell? ⟨bl, 0, none⟩ = some (.string s)) :
    Calls Tryz.prog 158 #[.pointer (some ⟨bp, 0, none⟩), .pointer (some ⟨bl, 0, none⟩)] w (NextPost s i bp w) := by
  have a0 : (w.alloc (.cells #[.int .i64 0, .string ⟨#[]⟩, .bool false] 101)).cell? ⟨bp, 0, none⟩ = some (.int .i64 i) := by rw [World.cell?_alloc_past _ _ _ hbp]; exact c0
  have a1 : (w.alloc (.cells #[.int .i64 0, .string ⟨#[]⟩, .bool false] 101)).cell? ⟨bl, 0, none⟩ = some (.string s) := by rw [World.cell?_alloc_past _ _ _ hbl]; exact c1
  obtain ⟨b, hb, hbs, hin, hout⟩ := run_from blankC s i hi
  have R1 := Lib.hid (fun W => (wrun_blank (s.extract i s.size) W (by rw [ByteArray.size_extract]; unfold maxLen; omega)).mono fun e w' h => (⟨h.1, h.2.symm⟩ : e = _ ∧ w' = W))
  have e2 : (s.extract i s.size).data.toList = s.data.toList.drop i := Go.Lib.extract_to_end s i
  rw [e2] at R1
  clear e2
  generalize hr : runN blankC (s.data.toList.drop i) = r at *
  clear hr
  have hskip := Lib.hid (fun f ws bb => show Cuts s f b ws bb → Cuts s f i ws bb from fun h => cuts_skip r i (fun m h1 h2 => by
    have := hin m h1 (by omega); rw [cls_blank] at this; exact of_decide_eq_true this) (by rw [← hb]; exact h))
  have wr1 : IntKind.i64.wrap ((i : Int) + (r : Int)) = (b : Int) := by rw [IntWalk.i64_in _ (by omega)]; omega
  have hib : i ≤ b := by omega
  have i0 : (0 : Int) ≤ i := by omega
  have i1 : (i : Int) ≤ s.size := by omega
  clear hb hin
  have ll : Hid (∀ j, (s.data.toList.drop b).length = j → j = s.size - b) := Lib.hid (fun j h => by rw [← h]; simp)
  by_cases hbz : b < s.size
  · have b0 : (0 : Int) ≤ b := by omega
    have b1 : (b : Int) ≤ s.size := by omega
    have b2 : (b : Int) < s.size := by omega
    have hbe : ((b : Int) == (s.size : Int)) = false := by rw [beq_eq_false_iff_ne]; omega
    have hcl := cls_lit s[b].toNat s[b].toNat_lt s[b].toNat_lt
    have h256 : (s[b].toNat : Int) < 256 := by have := s[b].toNat_lt; omega
    have hbb := Lib.hid (bt_in hbz)
    have n32 := Lib.hid (show bt s b ≠ 32 by have := hout hbz; rw [cls_blank] at this; exact of_decide_eq_false this)
    clear hout
    by_cases d1 : bt s b = 59
    · have s1 : (clsI (s[b].toNat : Int) == 59) = true := by rw [cls_semi, ← hbb.out]; exact decide_eq_true d1
      have hfin := Lib.hid (show NextR s i noWd 1 i from .inl ⟨rfl, rfl, rfl, fun f => hskip.out f _ _ (.note d1)⟩)
      clear d1
      go_enter Tryz.func158, Tryz.ntmps158
      go_wp2_with fail
      go_quiet ((go_at_call 144; exact Calls.quiet_of_same (R1.out _)))
      go_wp2_with fail
      refine bodyPost_ret (v := .tuple #[.agg #[.int .i64 0, .string ⟨#[]⟩, .bool false], .int .i64 1]) (by simp [results, Tryz.results158, go_sem]) rfl ⟨?_, noWd, 1, i, rfl, hfin.out, ?_, ?_⟩
      · exact g_new (g_new (g_new (g_drewN (g_alloc (g_refl _ _) _) _) (Nat.le_refl _) _) (Nat.le_refl _) _) (Nat.le_refl _) _
      · go_simp
      · go_simp
    · have s1 : (clsI (s[b].toNat : Int) == 59) = false := by rw [cls_semi, ← hbb.out]; exact decide_eq_false d1
      obtain ⟨k, hk, hks, hin, hout⟩ := run_from plainC s b (by omega)
      have R2 := Lib.hid (fun W => (wrun_plain (s.extract b s.size) W (by rw [ByteArray.size_extract]; unfold maxLen; omega)).mono fun e w' h => (⟨h.1, h.2.symm⟩ : e = _ ∧ w' = W))
      have e2 : (s.extract b s.size).data.toList = s.data.toList.drop b := Go.Lib.extract_to_end s b
      rw [e2] at R2
      clear e2
      generalize hr2 : runN plainC (s.data.toList.drop b) = r2 at *
      clear hr2
      by_cases d2 : bt s b = 34
      · have q34 : (clsI (s[b].toNat : Int) == 34) = true := by rw [cls_quote, ← hbb.out]; exact decide_eq_true d2
        have Q := Lib.hid (fun W => wquoted_any s b W (by unfold maxLen; omega) d2)
        have hd2 := Lib.hid d2
        clear hin hout d1 d2 hk
        go_enter Tryz.func158, Tryz.ntmps158
        go_wp2_with fail
        go_quiet ((go_at_call 144; exact Calls.quiet_of_same (R1.out _)))
        go_wp2_with fail
        obtain ⟨G, X3, k0, k1, kf, hRb, hRl⟩ : w.grownBy ((w.alloc (.cells #[.int .i64 0, .string ⟨#[]⟩, .bool false] 101)).drewN nq) (some bp) ∧ Res3 ((w.alloc (.cells #[.int .i64 0, .string ⟨#[]⟩, .bool false] 101)).drewN nq) w.heap.size ∧ ((w.alloc (.cells #[.int .i64 0, .string ⟨#[]⟩, .bool false] 101)).drewN nq).cell? ⟨bp, 0, none⟩ = some (.int .i64 i) ∧ ((w.alloc (.cells #[.int .i64 0, .string ⟨#[]⟩, .bool false] 101)).drewN nq).cell? ⟨bl, 0, none⟩ = some (.string s) ∧ ((w.alloc (.cells #[.int .i64 0, .string ⟨#[]⟩, .bool false] 101)).drewN nq).frozen? ⟨bp, 0, none⟩ = false ∧ w.heap.size ≠ bp ∧ w.heap.size ≠ bl := ⟨g_drewN (g_alloc (g_refl _ _) _) _, Res3.made _ _ _, by go_simp, by go_simp, by go_simp, by omega, by omega⟩
        clear a0 a1 c0 c1 f0
        generalize (w.alloc (.cells #[.int .i64 0, .string ⟨#[]⟩, .bool false] 101)).drewN nq = W at *
        have HX := Lib.hid X3
        have hpin : bp < W.heap.size := by have := G.size; omega
        have HG := Lib.hid G
        obtain ⟨_, x0, x1, x2, y0, y1, y2⟩ := X3
        clear G
        go_quiet ((go_at_call 144; exact Calls.quiet_of_same (R2.out _)))
        go_wp2_with fail
        refine (Q.out _).mono ?_
        rintro e w1 ⟨⟨q, rfl, hq⟩, hw⟩
        obtain rfl := hw.symm
        clear hw
        rcases hq with ⟨kk, rfl, hq⟩ | ⟨rfl, hq⟩
        · have hk1 := hq.long
          have hk2 := hq.fits
          have z0 : ((kk : Int) - (b : Int) == 0) = false := by rw [beq_eq_false_iff_ne]; omega
          have w1 : IntKind.i64.wrap ((b : Int) + ((kk : Int) - (b : Int))) = (kk : Int) := by rw [IntWalk.i64_in _ (by omega)]; omega
          have w2 : IntKind.i64.wrap ((kk : Int) - (b : Int) - 1) = ((kk - b - 1 : Nat) : Int) := by rw [IntWalk.i64_in _ (by omega)]; omega
          have w3 : (b : Int) + ((kk : Int) - (b : Int)) = (kk : Int) := by omega
          have w4 : (kk : Int) - (b : Int) - 1 = ((kk - b - 1 : Nat) : Int) := by omega
          have hbk : b ≤ kk := by omega
          have hes : (s.extract b kk).size = kk - b := by rw [ByteArray.size_extract]; omega
          have hle : kk - b - 1 ≤ kk - b := by omega
          have hl1 : 1 ≤ kk - b - 1 := by omega
          have hfin := Lib.hid (show NextR s i ⟨b, s.extract (b + 1) (kk - 1), true⟩ 0 kk from .inr (.inr ⟨rfl, by omega, hk2, b, by omega, rfl, fun f ws bb h => hskip.out f _ _ (.quote hq h)⟩))
          go_wp2_with fail
          have CL := Lib.hid (fun W => wclone_any (s.extract (b + 1) (kk - 1)) W (by rw [ByteArray.size_extract]; omega))
          rw [← inner_text hk1 hk2] at CL
          refine (CL.out _).mono ?_
          rintro e w1 ⟨rfl, hb1⟩
          have HX2 := Lib.hid ((HX.out.block (W1 := W.drewN nq) rfl (Nat.le_refl _)).store (b := bp) (j := 0) hRb (.int .i64 kk))
          have HX3 := Lib.hid (HX2.out.below hb1)
          have HG1 := Lib.hid (g_below (g_row (g_drewN HG.out nq) 0 (.int .i64 kk)) hb1)
          have p0 : w1.cell? ⟨bp, 0, none⟩ = some (.int .i64 kk) := by
            rw [hb1.cell (p := ⟨bp, 0, none⟩) (by simpa using hpin)]
            exact World.cell?_setCell_same' _ _ _ (by show (W.cell? _).isSome = true; rw [k0]; rfl)
          have p1 : w1.frozen? ⟨bp, 0, none⟩ = false := by
            rw [hb1.frozen (p := ⟨bp, 0, none⟩) (by simpa using hpin), World.frozen?_setCell]; exact kf
          clear hb1 x0 x1 x2 y0 y1 y2 k0 k1 kf
          obtain ⟨_, x0, x1, x2, y0, y1, y2⟩ := HX3.out
          go_wp2_with fail
          refine bodyPost_ret (v := .tuple #[.agg #[.int .i64 b, .string ((s.extract b kk).extract 1 (kk - b - 1)), .bool true], .int .i64 0]) (by simp [results, Tryz.results158, go_sem, x0, x1, x2]) rfl ⟨?_, ⟨b, s.extract (b + 1) (kk - 1), true⟩, 0, kk, by rw [inner_text hk1 hk2], hfin.out, ?_, ?_⟩
          · exact g_new (g_new (g_new HG1.out (Nat.le_refl _) _) (Nat.le_refl _) _) (Nat.le_refl _) _
          · go_simp
          · go_simp
        · have z0 : ((0 : Int) == 0) = true := rfl
          have hfin := Lib.hid (show NextR s i ⟨b, ⟨#[]⟩, false⟩ 2 i from .inr (.inl ⟨rfl, rfl, b, hbz, rfl, fun f => hskip.out f _ _ (.badq hd2.out hq)⟩))
          clear hq
          go_wp2_with fail
          refine bodyPost_ret (v := .tuple #[.agg #[.int .i64 b, .string ⟨#[]⟩, .bool false], .int .i64 2]) (by simp [results, Tryz.results158, go_sem, x0, x1, x2]) rfl ⟨?_, ⟨b, ⟨#[]⟩, false⟩, 2, i, rfl, hfin.out, ?_, ?_⟩
          · exact g_new (g_new (g_new (g_drewN HG.out _) (Nat.le_refl _) _) (Nat.le_refl _) _) (Nat.le_refl _) _
          · go_simp
          · go_simp
      · have q34 : (clsI (s[b].toNat : Int) == 34) = false := by rw [cls_quote, ← hbb.out]; exact decide_eq_false d2
        have hin' := Lib.hid (show ∀ m, b ≤ m → m < k → plainI (bt s m) = true from fun m x y => by rw [← cls_plain]; exact hin m x y)
        have hout' := Lib.hid (show plainI (bt s k) = false by
          by_cases h : k < s.size
          · rw [← cls_plain]; exact hout h
          · rw [bt_out h]; rfl)
        clear hin hout
        by_cases hz : r2 = 0
        · have z0 : ((r2 : Int) == 0) = true := by rw [beq_iff_eq]; omega
          have hfin := Lib.hid (show NextR s i ⟨b, ⟨#[]⟩, false⟩ 2 i from .inr (.inl ⟨rfl, rfl, b, hbz, rfl, fun f => hskip.out f _ _ (.bad (by rw [hbb.out]; omega) d1 n32.out d2 (by have := hout'.out; rwa [show k = b by omega] at this))⟩))
          clear d1 d2 hz hk
          go_enter Tryz.func158, Tryz.ntmps158
          go_wp2_with fail
          go_quiet ((go_at_call 144; exact Calls.quiet_of_same (R1.out _)))
          go_wp2_with fail
          obtain ⟨G, X3, k0, k1, kf, hRb, hRl⟩ : w.grownBy ((w.alloc (.cells #[.int .i64 0, .string ⟨#[]⟩, .bool false] 101)).drewN nq) (some bp) ∧ Res3 ((w.alloc (.cells #[.int .i64 0, .string ⟨#[]⟩, .bool false] 101)).drewN nq) w.heap.size ∧ ((w.alloc (.cells #[.int .i64 0, .string ⟨#[]⟩, .bool false] 101)).drewN nq).cell? ⟨bp, 0, none⟩ = some (.int .i64 i) ∧ ((w.alloc (.cells #[.int .i64 0, .string ⟨#[]⟩, .bool false] 101)).drewN nq).cell? ⟨bl, 0, none⟩ = some (.string s) ∧ ((w.alloc (.cells #[.int .i64 0, .string ⟨#[]⟩, .bool false] 101)).drewN nq).frozen? ⟨bp, 0, none⟩ = false ∧ w.heap.size ≠ bp ∧ w.heap.size ≠ bl := ⟨g_drewN (g_alloc (g_refl _ _) _) _, Res3.made _ _ _, by go_simp, by go_simp, by go_simp, by omega, by omega⟩
          clear a0 a1 c0 c1 f0
          generalize (w.alloc (.cells #[.int .i64 0, .string ⟨#[]⟩, .bool false] 101)).drewN nq = W at *
          have HX := Lib.hid X3
          have hpin : bp < W.heap.size := by have := G.size; omega
          have HG := Lib.hid G
          obtain ⟨_, x0, x1, x2, y0, y1, y2⟩ := X3
          clear G
          go_quiet ((go_at_call 144; exact Calls.quiet_of_same (R2.out _)))
          go_wp2_with fail
          refine bodyPost_ret (v := .tuple #[.agg #[.int .i64 b, .string ⟨#[]⟩, .bool false], .int .i64 2]) (by simp [results, Tryz.results158, go_sem, x0, x1, x2]) rfl ⟨?_, ⟨b, ⟨#[]⟩, false⟩, 2, i, rfl, hfin.out, ?_, ?_⟩
          · exact g_new (g_new (g_new (g_drewN HG.out _) (Nat.le_refl _) _) (Nat.le_refl _) _) (Nat.le_refl _) _
          · go_simp
          · go_simp
        · have z0 : ((r2 : Int) == 0) = false := by rw [beq_eq_false_iff_ne]; omega
          have hfin := Lib.hid (show NextR s i ⟨b, s.extract b k, false⟩ 0 k from .inr (.inr ⟨rfl, by omega, hks, b, by omega, rfl, fun f ws bb h => hskip.out f _ _ (.word ⟨by omega, hks, hin'.out, hout'.out⟩ h)⟩))
          have hbr : (b : Int) + (r2 : Int) = (k : Int) := by omega
          have CL := Lib.hid (fun W => wclone_any (s.extract b k) W (by rw [ByteArray.size_extract]; omega))
          have hbk : b ≤ k := by omega
          clear d1 d2 hz hk
          go_enter Tryz.func158, Tryz.ntmps158
          go_wp2_with fail
          go_quiet ((go_at_call 144; exact Calls.quiet_of_same (R1.out _)))
          go_wp2_with fail
          obtain ⟨G, X3, k0, k1, kf, hRb, hRl⟩ : w.grownBy ((w.alloc (.cells #[.int .i64 0, .string ⟨#[]⟩, .bool false] 101)).drewN nq) (some bp) ∧ Res3 ((w.alloc (.cells #[.int .i64 0, .string ⟨#[]⟩, .bool false] 101)).drewN nq) w.heap.size ∧ ((w.alloc (.cells #[.int .i64 0, .string ⟨#[]⟩, .bool false] 101)).drewN nq).cell? ⟨bp, 0, none⟩ = some (.int .i64 i) ∧ ((w.alloc (.cells #[.int .i64 0, .string ⟨#[]⟩, .bool false] 101)).drewN nq).cell? ⟨bl, 0, none⟩ = some (.string s) ∧ ((w.alloc (.cells #[.int .i64 0, .string ⟨#[]⟩, .bool false] 101)).drewN nq).frozen? ⟨bp, 0, none⟩ = false ∧ w.heap.size ≠ bp ∧ w.heap.size ≠ bl := ⟨g_drewN (g_alloc (g_refl _ _) _) _, Res3.made _ _ _, by go_simp, by go_simp, by go_simp, by omega, by omega⟩
          clear a0 a1 c0 c1 f0
          generalize (w.alloc (.cells #[.int .i64 0, .string ⟨#[]⟩, .bool false] 101)).drewN nq = W at *
          have HX := Lib.hid X3
          have hpin : bp < W.heap.size := by have := G.size; omega
          have HG := Lib.hid G
          obtain ⟨_, x0, x1, x2, y0, y1, y2⟩ := X3
          clear G
          go_quiet ((go_at_call 144; exact Calls.quiet_of_same (R2.out _)))
          go_wp2_with fail
          refine (CL.out _).mono ?_
          rintro e w1 ⟨rfl, hb1⟩
          have HX2 := Lib.hid ((HX.out.block (W1 := W.drewN nq) rfl (Nat.le_refl _)).store (b := bp) (j := 0) hRb (.int .i64 k))
          have HX3 := Lib.hid (HX2.out.below hb1)
          have HG1 := Lib.hid (g_below (g_row (g_drewN HG.out nq) 0 (.int .i64 k)) hb1)
          have p0 : w1.cell? ⟨bp, 0, none⟩ = some (.int .i64 k) := by
            rw [hb1.cell (p := ⟨bp, 0, none⟩) (by simpa using hpin)]
            exact World.cell?_setCell_same' _ _ _ (by show (W.cell? _).isSome = true; rw [k0]; rfl)
          have p1 : w1.frozen? ⟨bp, 0, none⟩ = false := by
            rw [hb1.frozen (p := ⟨bp, 0, none⟩) (by simpa using hpin), World.frozen?_setCell]; exact kf
          clear hb1 x0 x1 x2 y0 y1 y2 k0 k1 kf
          obtain ⟨_, x0, x1, x2, y0, y1, y2⟩ := HX3.out
          go_wp2_with fail
          refine bodyPost_ret (v := .tuple #[.agg #[.int .i64 b, .string (s.extract b k), .bool false], .int .i64 0]) (by simp [results, Tryz.results158, go_sem, x0, x1, x2]) rfl ⟨?_, ⟨b, s.extract b k, false⟩, 0, k, rfl, hfin.out, ?_, ?_⟩
          · exact g_new (g_new (g_new HG1.out (Nat.le_refl _) _) (Nat.le_refl _) _) (Nat.le_refl _) _
          · go_simp
          · go_simp
  · obtain rfl : b = s.size := by omega
    have hbe : ((s.size : Int) == (s.size : Int)) = true := by simp
    have hfin := Lib.hid (show NextR s i noWd 1 i from .inl ⟨rfl, rfl, rfl, fun f => hskip.out f _ _ (.stop rfl)⟩)
    clear hout
    go_enter Tryz.func158, Tryz.ntmps158
    go_wp2_with fail
    go_quiet ((go_at_call 144; exact Calls.quiet_of_same (R1.out _)))
    go_wp2_with fail
    refine bodyPost_ret (v := .tuple #[.agg #[.int .i64 0, .string ⟨#[]⟩, .bool false], .int .i64 1]) (by simp [results, Tryz.results158, go_sem]) rfl ⟨?_, noWd, 1, i, rfl, hfin.out, ?_, ?_⟩
    · exact g_new (g_new (g_new (g_drewN (g_alloc (g_refl _ _) _) _) (Nat.le_refl _) _) (Nat.le_refl _) _) (Nat.le_refl _) _
    · go_simp
    · go_simp
end Go.Proofs.YtdmedealdhadcaaGreatDoor

namespace Go.Proofs.YtdmedealdhadcaaGreatDoor
open Go.RowKit
theorem own_weaken {w : World} {B B' size : Nat} {e : TypeId} {v : Value} {n : Nat} {xs : List Value} (h : w.ownsRow B e size v n xs) (hB : B' ≤ B) : w.ownsRow B' e size v n xs := by
  refine ⟨h.1, ?_⟩
  rcases h.2 with x | ⟨g, cap, cur, hv, hb, rest⟩
  · exact .inl x
  · exact .inr ⟨g, cap, cur, hv, Nat.le_trans hB hb, rest⟩
theorem own_setL {w : World} {B size b j : Nat} {e : TypeId} {v u : Value} {n : Nat} {xs : List Value} (h : w.ownsRow B e size v n xs) (hb : b < B) : (w.setCell ⟨b, j, none⟩ u).ownsRow B e size v n xs := by
  refine h.kept (g_row (g_refl w (some b)) j u) (.inr fun e => ?_)
  have := (h.lt _ e).1
  omega
/-- What lineWords hands back. -/
def LinePost (s : ByteArray) (f : Int) (w : World) (e : Ending) (w' : World) : Prop :=
  Below w.heap.size w w' ∧ ((1000 < s.size ∧ e = .returned (.tuple #[.slice none 0 0, .agg #[.int .i64 4, .int .i64 f]])) ∨
    (s.size ≤ 1000 ∧ ∃ ws b, Cuts s f 0 ws b ∧ ws.length ≤ s.size ∧
      match b with
      | none => ∃ v, e = .returned (.tuple #[v, .agg #[.int .i64 0, .int .i64 0]]) ∧ w'.ownsRow w.heap.size 101 3 v ws.length (flatW ws)
      | some j => e = .returned (.tuple #[.slice none 0 0, .agg #[.int .i64 3, .int .i64 (f + (j : Nat))]]) ∧ j < s.size))
/-- The words so far, at a place of the line. -/
structure LInv (s : ByteArray) (f : Int) (w wr : World) (i : Nat) (acc : List Wd) (v : Value) : Prop where
  own : wr.ownsRow (w.heap.size + 3) 101 3 v acc.length (flatW acc)
  bel : Below w.heap.size w wr
  cuts : ∀ ws b, Cuts s f i ws b → Cuts s f 0 (acc ++ ws) b
  big : w.heap.size + 3 ≤ wr.heap.size
  place : wr.cell? ⟨w.heap.size + 1 + 1, 0, none⟩ = some (.int .i64 i)
  free : wr.frozen? ⟨w.heap.size + 1 + 1, 0, none⟩ = false
  line : wr.cell? ⟨w.heap.size + 1, 0, none⟩ = some (.string s)
  fault : Cell2 wr w.heap.size 0 0
theorem Cell2.block {w w1 : World} {b : Nat} {n d : Int} (h : Cell2 w b n d) (hk : w1.heap[b]? = w.heap[b]?) (hs : w.heap.size ≤ w1.heap.size) : Cell2 w1 b n d :=
  ⟨Nat.lt_of_lt_of_le h.inb hs, (World.cell?_of_block (w := w) hk).trans h.c0, (World.cell?_of_block (w := w) hk).trans h.c1, (World.frozen?_of_block (w := w) hk).trans h.f0, (World.frozen?_of_block (w := w) hk).trans h.f1⟩
/-- Where the place's cell stands. -/
def placeOf (w : World) (b : Nat) : Nat := match w.cell? ⟨b, 0, none⟩ with | some (.int _ n) => n.toNat | _ => 0
theorem placeOf_eq {w : World} {b i : Nat} (h : w.cell? ⟨b, 0, none⟩ = some (.int .i64 i)) : placeOf w b = i := by unfold placeOf; rw [h]; simp
/-- Behind a call of the made function. -/
theorem LInv.next {s : ByteArray} {f : Int} {w wr w1 : World} {i : Nat} {acc : List Wd} {v : Value} (h : LInv s f w wr i acc v) (hg : wr.grownBy w1 (some (w.heap.size + 1 + 1)))
    :
    w1.ownsRow (w.heap.size + 3) 101 3 v acc.length (flatW acc) ∧ Below w.heap.size w w1 ∧ w.heap.size + 3 ≤ w1.heap.size ∧ w1.cell? ⟨w.heap.size + 1, 0, none⟩ = some (.string s) ∧ Cell2 w1 w.heap.size 0 0 := by
  have hb := h.big
  refine ⟨h.own.kept hg ?_, h.bel.grown hg h.bel.size (fun k e => by cases e; omega), Nat.le_trans h.big hg.size, ?_, h.fault.block (hg.block _ (by omega) (by simp; omega)) hg.size⟩
  · right
    intro e
    have := (h.own.lt _ e).1
    omega
  · exact (World.cell?_of_block (w := wr) (a := ⟨w.heap.size + 1, 0, none⟩) (hg.block _ (by show w.heap.size + 1 < _; omega) (by simp))).trans h.line
set_option maxRecDepth 100000 in
set_option maxHeartbeats 4000000 in
theorem wfinder_any (s : ByteArray) (w : World) : Calls Tryz.prog 107 #[.string s] w fun e w' =>
    e = .returned (.func (.func 158) #[] #[.pointer (some ⟨w.heap.size + 1, 0, none⟩), .pointer (some ⟨w.heap.size, 0, none⟩)]) ∧ w' = (w.alloc (.cells #[.string s] 9)).alloc (.cells #[.int .i64 0] 3) := by
  have hmf : ∀ (fn : Fn) (first cap : Array Value) (w : World), (Instr.makeFunc fn first cap).run Tryz.prog w = .ok (.func fn first cap) w := fun _ _ _ _ => rfl
  go_enter Tryz.func107, Tryz.ntmps107
  go_wp2_with fail
  go_ret
  exact ⟨rfl, rfl⟩
set_option maxRecDepth 100000 in
set_option maxHeartbeats 4000000 in
theorem wline_any (s : ByteArray) (f : Int) (w : World) (hs : s.size ≤ 1000000) (f0 : 0 ≤ f) (f1 : f ≤ 1000000) : Calls Tryz.prog 59 #[.string s, .int .i64 f] w (LinePost s f w) := by
  obtain ⟨i0, hi0, hz0, hz1, hz2⟩ := info_parts info_word
  obtain ⟨ii, o0, o1, o2, o3⟩ := Cell2.made w 0 0 43
  by_cases hbig : 1000 < s.size
  · have hbig' : (1000 : Int) < s.size := by omega
    go_enter Tryz.func59, Tryz.ntmps59
    go_wp2_with fail
    refine bodyPost_ret (v := .tuple #[.slice none 0 0, .agg #[.int .i64 4, .int .i64 f]]) (by simp [results, Tryz.results59, go_sem]) rfl ⟨?_, .inl ⟨hbig, rfl⟩⟩
    exact w_alloc (w_refl w) _
  · have hbig' : ¬ (1000 : Int) < s.size := by omega
    have F := Lib.hid (fun W => wfinder_any s W)
    go_enter Tryz.func59, Tryz.ntmps59
    go_wp2_with fail
    refine (F.out _).mono ?_
    rintro e w1 ⟨rfl, hw⟩
    have hinv := Lib.hid (show LInv s f w w1 0 [] (.slice none 0 0) from by
      subst hw
      refine ⟨World.ownsRow_nil _ _ _ _, w_alloc (w_alloc (w_alloc (w_refl w) _) _) _, fun ws b t => t, by simp, by go_simp, by go_simp, by go_simp, ?_⟩
      exact (Cell2.made w 0 0 43).below (w_alloc (w_alloc (w_refl _) _) _) (by simp))
    clear hw o0 o1 o2 o3 ii F
    go_wp2_with fail
    go_loopw [6] (fun v wr => ∃ (i : Nat) (acc : List Wd), i ≤ s.size ∧ acc.length ≤ i ∧ Hid (LInv s f w wr i acc v)) (fun _ wr => s.size - placeOf wr (w.heap.size + 1 + 1))
    case atStart => exact ⟨0, [], by omega, by simp, hinv⟩
    case round =>
      obtain ⟨i, acc, hi, hacc, hL⟩ := hrel
      have hbg := hL.out.big
      have N := Lib.hid (wnext_any s i (w.heap.size + 1 + 1) (w.heap.size + 1) wr hs hi (by omega) (by omega) (by omega) hL.out.place hL.out.free hL.out.line)
      clear hinv hbg
      go_wp2_with fail
      refine N.out.mono ?_
      rintro e w2 ⟨hg, x, st, k, rfl, hnx, hp, hfz⟩
      clear N
      obtain ⟨own2, bel2, big2, line2, fault2⟩ := hL.out.next hg
      rcases hnx with ⟨rfl, rfl, rfl, hc⟩ | ⟨rfl, rfl, b, hbs, rfl, hc⟩ | ⟨rfl, hik, hks, b, hbk, hxa, hc⟩
      · have fz := Lib.hid (fault2.below (w_alloc (w_refl w2) (.cells #[.int .i64 f, .string ⟨#[]⟩, .bool false] 101)) fault2.inb)
        obtain ⟨_, o0, o1, o2, o3⟩ := fz.out
        have hcut := Lib.hid (show Cuts s f 0 acc none by have := hL.out.cuts [] none (hc f); rwa [List.append_nil] at this)
        have hown := Lib.hid own2
        have hbel := Lib.hid bel2
        have w0 : IntKind.i64.wrap (0 + f) = f := by rw [IntWalk.i64_in _ (by omega)]; omega
        clear hc hL own2 bel2 fault2 hp hfz line2 hg
        simp only [noWd]
        go_wp2_with fail
        refine bodyPost_ret (v := .tuple #[u6, .agg #[.int .i64 0, .int .i64 0]]) (by simp [results, Tryz.results59, go_sem, o0, o1]) rfl ⟨?_, .inr ⟨by omega, acc, none, hcut.out, by omega, u6, rfl, ?_⟩⟩
        · exact w_set (w_set (w_alloc hbel.out _) (Nat.le_refl _) _) (Nat.le_refl _) _
        · exact own_weaken (own_setL (own_setL (hown.out.alloc _) (by omega)) (by omega)) (by omega)
      · have fz := Lib.hid (fault2.below (w_alloc (w_refl w2) (.cells #[.int .i64 (f + b), .string ⟨#[]⟩, .bool false] 101)) fault2.inb)
        obtain ⟨_, o0, o1, o2, o3⟩ := fz.out
        have hcut := Lib.hid (show Cuts s f 0 acc (some b) by have := hL.out.cuts [] (some b) (hc f); rwa [List.append_nil] at this)
        have hbel := Lib.hid bel2
        have w0 : IntKind.i64.wrap ((b : Int) + f) = f + b := by rw [IntWalk.i64_in _ (by omega)]; omega
        have w0' : (b : Int) + f = f + b := by omega
        clear hc hL own2 bel2 fault2 hp hfz line2 hg
        go_wp2_with fail
        go_region
        all_goals
          go_wp2_with fail
          refine bodyPost_ret (v := .tuple #[.slice none 0 0, .agg #[.int .i64 3, .int .i64 (f + b)]]) (by simp [results, Tryz.results59, go_sem, o0, o1]) rfl ⟨?_, .inr ⟨by omega, acc, some b, hcut.out, by omega, rfl, hbs⟩⟩
          first
            | exact w_set (w_set (w_alloc hbel.out _) (Nat.le_refl _) _) (Nat.le_refl _) _
            | exact (w_set (w_set (w_alloc hbel.out _) (Nat.le_refl _) _) (Nat.le_refl _) _).drew
            | exact w_set (w_set (w_alloc hbel.out _).drew (Nat.le_refl _) _) (Nat.le_refl _) _
      · obtain ⟨xa, xt, xq⟩ := x
        simp only at hxa hc ⊢
        subst hxa
        have w0 : IntKind.i64.wrap ((b : Int) + f) = f + b := by rw [IntWalk.i64_in _ (by omega)]; omega
        have w0' : (b : Int) + f = f + b := by omega
        have hown := Lib.hid ((own2.alloc (.cells #[.int .i64 (f + b), .string xt, .bool xq] 101)).alloc (.cells #[.int .i64 (f + b), .string xt, .bool xq] 101))
        have hlts := Lib.hid own2.lt
        have hG := Lib.hid hg
        have hL2 := Lib.hid (fun ws bb h => hL.out.cuts (⟨f + b, xt, xq⟩ :: ws) bb (hc f ws bb h))
        have hbel := Lib.hid (w_alloc (w_alloc bel2 (.cells #[.int .i64 (f + b), .string xt, .bool xq] 101)) (.cells #[.int .i64 (f + b), .string xt, .bool xq] 101))
        have hb2 := Lib.hid (w_alloc (w_alloc (w_refl w2) (.cells #[.int .i64 (f + b), .string xt, .bool xq] 101)) (.cells #[.int .i64 (f + b), .string xt, .bool xq] 101))
        have hpp := Lib.hid hp
        have hff := Lib.hid hfz
        have hll := Lib.hid line2
        have hfa := Lib.hid fault2
        have hpl := Lib.hid (placeOf_eq hL.out.place)
        clear hc hL own2 bel2 fault2 hp hfz line2 hg
        go_wp2_with (at_builtin; refine wpList_append_own _ rfl _ _ 60 rfl (w.heap.size + 3) 101 i0 (.agg #[.int .i64 0, .string ⟨#[]⟩, .bool false]) 3 32 Tryz.underlying60 hi0 hz0 hz1 hz2 rfl (by decide) _ acc.length (flatW acc) rfl hown.out ⟨w2.heap.size + 1, 0, none⟩ 1 1 (flatW [⟨f + b, xt, xq⟩]) rfl rfl ?c1 (flatW_one _) (by unfold maxLen; omega) (by omega) ?c2 ?_)
        case c1 => have := new_word (w2.alloc (.cells #[.int .i64 (f + b), .string xt, .bool xq] 101)) (f + b) xt xq 101; simpa using this
        case c2 => simp; omega
        intro v' w3 hown3 hgrow _
        have hblk : ∀ q, q < w.heap.size + 3 → w3.heap[q]? = w2.heap[q]? := fun q hq => (hgrow.block q (by simp; omega) (fun e => by have := (hlts.out _ e.symm).1; omega)).trans (hb2.out.block q (by omega))
        have hnew := Lib.hid (show LInv s f w w3 k (acc ++ [⟨f + b, xt, xq⟩]) v' from
          ⟨by rw [flatW_app, List.length_append]; exact hown3, hbel.out.grown hgrow (by simp; omega) (fun q hq => by have := (hlts.out q hq).1; omega),
           fun ws bb t => by rw [List.append_assoc]; exact hL2.out ws bb t, by have := hgrow.size; simp at this; omega,
           (World.cell?_of_block (w := w2) (a := ⟨w.heap.size + 1 + 1, 0, none⟩) (hblk _ (by show w.heap.size + 1 + 1 < _; omega))).trans hpp.out,
           (World.frozen?_of_block (w := w2) (a := ⟨w.heap.size + 1 + 1, 0, none⟩) (hblk _ (by show w.heap.size + 1 + 1 < _; omega))).trans hff.out,
           (World.cell?_of_block (w := w2) (a := ⟨w.heap.size + 1, 0, none⟩) (hblk _ (by show w.heap.size + 1 < _; omega))).trans hll.out,
           hfa.out.block (hblk _ (by omega)) (by have := hgrow.size; simp at this; omega)⟩)
        clear hblk hown hlts hown3 hgrow hbel hb2 hpp hff hll hfa hL2 hG
        go_wp2_with fail
        go_roundw
        case rel => exact ⟨k, _, by omega, by rw [List.length_append]; simp; omega, hnew⟩
        case measure => rw [hpl.out, placeOf_eq hnew.out.place]; omega
end Go.Proofs.YtdmedealdhadcaaGreatDoor

namespace Go.Proofs.YtdmedealdhadcaaGreatDoor
open Go.RowKit Go.Shelf
attribute [local go_sem] Oper.semAt_some
/-- SplitSeq hands back a function that has captured its three arguments. -/
theorem wsplit_any (s sep : ByteArray) (k : Int) (w : World) : Calls Tryz.prog 106 #[.string s, .string sep, .int .i64 k] w fun e w' =>
    e = .returned (.func (.func 155) #[] #[.pointer (some ⟨w.heap.size + 1, 0, none⟩), .pointer (some ⟨w.heap.size, 0, none⟩), .pointer (some ⟨w.heap.size + 1 + 1, 0, none⟩)]) ∧
    w' = ((w.alloc (.cells #[.string s] 9)).alloc (.cells #[.string sep] 9)).alloc (.cells #[.int .i64 k] 3) := by
  have hmf : ∀ (fn : Fn) (first cap : Array Value) (w : World), (Instr.makeFunc fn first cap).run Tryz.prog w = .ok (.func fn first cap) w := fun _ _ _ _ => rfl
  go_enter Tryz.func106, Tryz.ntmps106
  go_wp2_with fail
  go_ret
  exact ⟨rfl, rfl⟩
theorem wsplitseq_any (s sep : ByteArray) (w : World) : Calls Tryz.prog 58 #[.string s, .string sep] w fun e w' =>
    e = .returned (.func (.func 155) #[] #[.pointer (some ⟨w.heap.size + 1, 0, none⟩), .pointer (some ⟨w.heap.size, 0, none⟩), .pointer (some ⟨w.heap.size + 1 + 1, 0, none⟩)]) ∧
    w' = ((w.alloc (.cells #[.string s] 9)).alloc (.cells #[.string sep] 9)).alloc (.cells #[.int .i64 0] 3) := by
  go_enter Tryz.func58, Tryz.ntmps58
  go_wp2_with fail
  refine (wsplit_any s sep 0 _).mono ?_
  rintro e w1 ⟨rfl, rfl⟩
  go_wp2_with fail
  go_ret
  exact ⟨rfl, rfl⟩
/-- The iterator's three cells, a line beginning at p. -/
structure Cells3 (T : ByteArray) (B : Nat) (p : Nat) (W : World) : Prop where
  s : W.cell? ⟨B, 0, none⟩ = some (.string (T.extract p T.size))
  free : W.frozen? ⟨B, 0, none⟩ = false
  sep : W.cell? ⟨B + 1, 0, none⟩ = some (.string ⟨#[10]⟩)
  save : W.cell? ⟨B + 1 + 1, 0, none⟩ = some (.int .i64 0)
theorem Cells3.made (T : ByteArray) (w : World) : Cells3 T w.heap.size 0 (((w.alloc (.cells #[.string T] 9)).alloc (.cells #[.string ⟨#[10]⟩] 9)).alloc (.cells #[.int .i64 0] 3)) := by
  refine ⟨?_, by go_simp, by go_simp, by go_simp⟩
  have : T.extract 0 T.size = T := by
    apply ByteArray.ext; apply Array.ext'
    rw [Go.Lib.extract_to_end T 0]; rfl
  rw [this]; go_simp
/-- The line from p on, by the first line feed. -/
theorem line_none {T : ByteArray} {p : Nat} (hp : p ≤ T.size) (h : Lib.indexByte (T.extract p T.size).data.toList 10 = -1) : LineAt T p T.size := by
  rw [Go.Lib.extract_to_end T p] at h
  refine ⟨hp, Nat.le_refl _, fun m h1 h2 e => ?_, .inl rfl⟩
  apply Lib.indexByte_none h (m - p)
  rw [List.getElem?_drop, show p + (m - p) = m by omega, List.getElem?_eq_getElem (by simpa using h2)]
  rw [bt_in h2] at e
  have : T[m] = (10 : UInt8) := UInt8.toNat_inj.1 (by have : (10 : UInt8).toNat = 10 := rfl; omega)
  simp only [Option.some.injEq]; exact this
theorem line_some {T : ByteArray} {p o : Nat} (h : Lib.indexByte (T.extract p T.size).data.toList 10 = (o : Int)) : p + o < T.size ∧ LineAt T p (p + o) := by
  rw [Go.Lib.extract_to_end T p] at h
  obtain ⟨h1, h2⟩ := Lib.indexByte_some h
  rw [List.getElem?_drop] at h1
  have hlt : p + o < T.size := by have := (List.getElem?_eq_some_iff.1 h1).1; simpa using this
  have at_ : ∀ m (hm : m < T.size), T.data.toList[m]? = some T[m] := fun m hm => by rw [List.getElem?_eq_getElem (by simpa using hm)]; rfl
  refine ⟨hlt, by omega, by omega, fun m a b e => ?_, .inr ?_⟩
  · apply h2 (m - p) (by omega)
    rw [List.getElem?_drop, show p + (m - p) = m by omega, at_ m (by omega)]
    rw [bt_in (by omega)] at e
    have : T[m] = (10 : UInt8) := UInt8.toNat_inj.1 (by have : (10 : UInt8).toNat = 10 := rfl; omega)
    simp only [Option.some.injEq]; exact this
  · rw [bt_in hlt]
    rw [at_ _ hlt] at h1
    simp only [Option.some.injEq] at h1
    rw [h1]; rfl
theorem part_first {T : ByteArray} {p o : Nat} (_h : p + o < T.size) : (T.extract p T.size).extract 0 o = T.extract p (p + o) := by
  rw [ByteArray.extract_extract]; congr 1; omega
theorem part_rest {T : ByteArray} {p o : Nat} (_h : p + o < T.size) : (T.extract p T.size).extract (o + 1) (T.size - p) = T.extract (p + o + 1) T.size := by
  rw [ByteArray.extract_extract]; congr 1 <;> omega
def lenAt (W : World) (B : Nat) : Nat := match W.cell? ⟨B, 0, none⟩ with | some (.string s) => s.size | _ => 0
theorem lenAt_eq {W : World} {B : Nat} {s : ByteArray} (h : W.cell? ⟨B, 0, none⟩ = some (.string s)) : lenAt W B = s.size := by unfold lenAt; rw [h]
set_option maxRecDepth 100000 in
set_option maxHeartbeats 2000000 in
/-- The iterator, over whatever loop: J p: ahead of the line at p; M p t: behind that line's round; Jx: a round has left. -/
theorem split_iter (T : ByteArray) (n l B : Nat) (hn : 1 ≤ n) (hT : T.size ≤ 1000000) (J : Nat → World → Prop) (M : Nat → Nat → World → Prop) (Jx : World → Prop)
    (hJ : ∀ p W, J p W → Cells3 T B p W) (hM : ∀ p t W, M p t W → Cells3 T B p W)
    (hstep : ∀ p t W, t < T.size → M p t W → J (t + 1) (W.setCell ⟨B, 0, none⟩ (.string (T.extract (t + 1) T.size))))
    (hround : ∀ p t W, LineAt T p t → J p W → YieldAt Fence.wide (n - 1) Tryz.prog l #[.string (T.extract p t)] W fun e W' => (e = .returned (.bool true) ∧ M p t W') ∨ (e = .returned (.bool false) ∧ Jx W'))
    (W : World) (h0 : J 0 W) :
    CallsIn Fence.wide n Tryz.prog 155 #[.func (.yield l) #[] #[], .pointer (some ⟨B + 1, 0, none⟩), .pointer (some ⟨B, 0, none⟩), .pointer (some ⟨B + 1 + 1, 0, none⟩)] W fun e W' => (∃ v, e = .returned v) ∧
      ((∃ p, M p T.size W') ∨ Jx W') := by
  have hc := hJ 0 W h0
  have c2 := hc.sep
  refine callsIn_of_wp Tryz.func155 rfl trivial ?_ rfl
  simp only [Tryz.ntmps155, List.size_toArray, List.length_cons, List.length_nil, Nat.reduceAdd, Nat.reduceSub, Array.replicate_succ, Array.replicate_zero, List.push_toArray, List.append_toArray, List.nil_append, List.cons_append]
  gi_wp2
  gi_loopw [7] (fun _ wr => ∃ p : Nat, p ≤ T.size ∧ Hid (J p wr)) (fun _ wr => lenAt wr B)
  case atStart => exact ⟨0, by omega, Lib.hid h0⟩
  case round =>
    obtain ⟨p, hp, hj⟩ := hrel
    have hcp := hJ p wr hj.out
    have d0 := hcp.s
    have d1 := hcp.sep
    have d2 := hcp.save
    have hsz : (T.extract p T.size).size = T.size - p := by rw [ByteArray.size_extract]; omega
    have hlen := Lib.hid ((lenAt_eq d0).trans hsz)
    have IX := Lib.hid (fun W => (callsIn_wide (n := n - 1)).2 (Tryz.strings_Index_one (T.extract p T.size) 10 W))
    rcases Int.lt_or_le (Lib.indexByte (T.extract p T.size).data.toList 10) 0 with hneg | hpos
    · have hm1 : Lib.indexByte (T.extract p T.size).data.toList 10 = -1 := by have := Lib.indexByte_ge (T.extract p T.size).data.toList 10; omega
      have hline := line_none hp hm1
      rw [hm1] at IX
      obtain ⟨fn, tmps, assign, body, hy, hR⟩ := hround p T.size wr hline hj.out
      have HR := Lib.hid hR
      clear hm1 hneg hline hR hcp hsz c2
      gi_wp2_with (refine ⟨trivial, ?_⟩; gi_at_call 157; refine (IX.out _).mono ?_; rintro e w1 ⟨rfl, hw⟩; obtain rfl := hw.symm; clear hw)
      refine HR.out.mono ?_
      rintro e W3 (⟨rfl, hM3⟩ | ⟨rfl, hx3⟩)
      · have hM4 := Lib.hid hM3
        clear hM3
        gi_wp2
        go_end0
        exact ⟨⟨_, rfl⟩, .inl ⟨p, hM4.out⟩⟩
      · have hx4 := Lib.hid hx3
        clear hx3
        gi_wp2
        go_end0
        exact ⟨⟨_, rfl⟩, .inr hx4.out⟩
    · obtain ⟨o, ho⟩ : ∃ o : Nat, Lib.indexByte (T.extract p T.size).data.toList 10 = (o : Int) := ⟨_, (Int.toNat_of_nonneg hpos).symm⟩
      obtain ⟨hlt, hline⟩ := line_some ho
      rw [ho] at IX
      obtain ⟨fn, tmps, assign, body, hy, hR⟩ := hround p (p + o) wr hline hj.out
      rw [← part_first hlt] at hy
      have HR := Lib.hid hR
      have n0 : ¬ (o : Int) < 0 := by omega
      have n1 : (0 : Int) ≤ (o : Int) := by omega
      have n2 : o ≤ (T.extract p T.size).size := by omega
      have n3 : (o : Int) ≤ 1000000 := by omega
      have n4 : o + 1 ≤ (T.extract p T.size).size := by omega
      have n6 := hsz
      have hrest := Lib.hid (part_rest hlt)
      have hst := Lib.hid (fun W3 h => hstep p (p + o) W3 hlt h)
      clear ho hpos hline hR hcp c2 hsz
      gi_wp2_with (refine ⟨trivial, ?_⟩; gi_at_call 157; refine (IX.out _).mono ?_; rintro e w1 ⟨rfl, hw⟩; obtain rfl := hw.symm; clear hw)
      refine HR.out.mono ?_
      rintro e W3 (⟨rfl, hM3⟩ | ⟨rfl, hx3⟩)
      · have hc3 := hM p (p + o) W3 hM3
        have e0 := hc3.s
        have e1 := hc3.sep
        have e2 := hc3.free
        have hnew := Lib.hid (hst.out W3 hM3)
        clear hM3 hc3 d0 d1 d2
        have hsm := Lib.hid (fun v => World.cell?_setCell_same' W3 ⟨B, 0, none⟩ v (by rw [e0]; rfl))
        gi_wp2
        refine ⟨⟨p + o + 1, by omega, ?_⟩, ?_⟩
        · rw [hrest.out]; exact hnew
        · rw [lenAt_eq (hsm.out _), hlen.out, hrest.out, ByteArray.size_extract]; omega
      · have hx4 := Lib.hid hx3
        clear hx3 d0 d1 d2
        gi_wp2
        refine bodyPost_ret (results_none rfl _ _ _) rfl ?_
        exact ⟨⟨_, rfl⟩, .inr hx4.out⟩
end Go.Proofs.YtdmedealdhadcaaGreatDoor
