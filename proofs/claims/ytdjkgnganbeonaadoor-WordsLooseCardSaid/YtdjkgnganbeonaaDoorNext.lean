/- The program's finder: the function that it makes finds the next word of a line, for every line and place. -/
import Derived.Test.YtdjkgnganbeonaaDoorQLen
import Derived.Test.YtdjkgnganbeonaaDoorPair
namespace Go.Proofs.YtdjkgnganbeonaaDoor
open Go.RowKit

/-- What comes next from a place on: the end (1), something wrong (2), a word (0); and the place behind it. -/
def NextR (s : ByteArray) (i : Nat) (x : Wd) (st : Int) (k : Nat) : Prop :=
  (st = 1 ∧ x = noWd ∧ k = i ∧ ∀ f, Cuts s f i [] none) ∨
  (st = 2 ∧ k = i ∧ ∃ b : Nat, b < s.size ∧ x = ⟨b, ⟨#[]⟩, false⟩ ∧ ∀ f, Cuts s f i [] (some b)) ∨
  (st = 0 ∧ i < k ∧ k ≤ s.size ∧ ∃ b : Nat, b < k ∧ x.at_ = b ∧ ∀ f ws bb, Cuts s f k ws bb → Cuts s f i (⟨f + b, x.text, x.quoted⟩ :: ws) bb)

theorem cuts_skip {s : ByteArray} {f : Int} {ws : List Wd} {bb : Option Nat} : ∀ (n i : Nat), (∀ m, i ≤ m → m < i + n → bt s m = 32) → Cuts s f (i + n) ws bb → Cuts s f i ws bb
  | 0, _, _, h => h
  | n + 1, i, hb, h => .blank (hb i (Nat.le_refl _) (by omega)) (cuts_skip n (i + 1) (fun m a b => hb m (by omega) (by omega)) (by rwa [show i + 1 + n = i + (n + 1) by omega]))

theorem inner_text {s : ByteArray} {b k : Nat} (h1 : b + 2 ≤ k) (_h2 : k ≤ s.size) : (s.extract b k).extract 1 (k - b - 1) = s.extract (b + 1) (k - 1) := by
  rw [ByteArray.extract_extract]
  congr 1
  omega

/-! Blocks but one -/
theorem g_refl (w : World) (r : Option Nat) : w.grownBy w r := ⟨rfl, rfl, rfl, Nat.le_refl _, fun _ _ _ => rfl⟩
theorem g_alloc {w a : World} {r : Option Nat} (h : w.grownBy a r) (o : Obj) : w.grownBy (a.alloc o) r :=
  ⟨h.os, h.tape, h.output, by simp; have := h.size; omega, fun k hk hr => (Below.heap_alloc a o k (Nat.lt_of_lt_of_le hk h.size)).trans (h.block k hk hr)⟩
theorem g_drewN {w a : World} {r : Option Nat} (h : w.grownBy a r) (n : Nat) : w.grownBy (a.drewN n) r := ⟨h.os, h.tape, h.output, h.size, h.block⟩
theorem g_drew {w a : World} {r : Option Nat} (h : w.grownBy a r) : w.grownBy a.drew r := ⟨h.os, h.tape, h.output, h.size, h.block⟩
theorem g_row {w a : World} {b : Nat} (h : w.grownBy a (some b)) (j : Nat) (v : Value) : w.grownBy (a.setCell ⟨b, j, none⟩ v) (some b) :=
  ⟨h.os, h.tape, h.output, by simp; exact h.size, fun k hk hr => (Below.heap_setCell a _ v k (fun e => hr (by rw [e]))).trans (h.block k hk hr)⟩
theorem g_new {w a : World} {r : Option Nat} (h : w.grownBy a r) {p : Addr} (hp : w.heap.size ≤ p.block) (v : Value) : w.grownBy (a.setCell p v) r :=
  ⟨h.os, h.tape, h.output, by simp; exact h.size, fun k hk hr => (Below.heap_setCell a _ v k (by omega)).trans (h.block k hk hr)⟩
theorem g_below {w a c : World} {r : Option Nat} (h : w.grownBy a r) (k : Below a.heap.size a c) : w.grownBy c r :=
  ⟨k.os.trans h.os, k.tape.trans h.tape, k.output.trans h.output, Nat.le_trans h.size k.size, fun i hi hr => (k.block i (Nat.lt_of_lt_of_le hi h.size)).trans (h.block i hi hr)⟩

/-- The result's block: three cells of the call's own. -/
structure Res3 (W : World) (R : Nat) : Prop where
  inb : R < W.heap.size
  c0 : W.cell? ⟨R, 0, none⟩ = some (.int .i64 0)
  c1 : W.cell? ⟨R, 1, none⟩ = some (.string ⟨#[]⟩)
  c2 : W.cell? ⟨R, 2, none⟩ = some (.bool false)
  f0 : W.frozen? ⟨R, 0, none⟩ = false
  f1 : W.frozen? ⟨R, 1, none⟩ = false
  f2 : W.frozen? ⟨R, 2, none⟩ = false
theorem Res3.made (w : World) (n : Nat) (t : TypeId) : Res3 ((w.alloc (.cells #[.int .i64 0, .string ⟨#[]⟩, .bool false] t)).drewN n) w.heap.size := ⟨by simp, by go_simp, by go_simp, by go_simp, by go_simp, by go_simp, by go_simp⟩
theorem Res3.block {W W1 : World} {R : Nat} (h : Res3 W R) (hk : W1.heap[R]? = W.heap[R]?) (hs : W.heap.size ≤ W1.heap.size) : Res3 W1 R :=
  ⟨Nat.lt_of_lt_of_le h.inb hs, (World.cell?_of_block (w := W) hk).trans h.c0, (World.cell?_of_block (w := W) hk).trans h.c1, (World.cell?_of_block (w := W) hk).trans h.c2, (World.frozen?_of_block (w := W) hk).trans h.f0, (World.frozen?_of_block (w := W) hk).trans h.f1, (World.frozen?_of_block (w := W) hk).trans h.f2⟩
theorem Res3.store {W : World} {R b j : Nat} (h : Res3 W R) (hne : R ≠ b) (v : Value) : Res3 (W.setCell ⟨b, j, none⟩ v) R := h.block (Below.heap_setCell W _ v R hne) (by simp)
theorem Res3.below {W W1 : World} {R : Nat} (h : Res3 W R) (k : Below W.heap.size W W1) : Res3 W1 R := h.block (k.block R h.inb) k.size

/-- What the made function hands back. -/
def NextPost (s : ByteArray) (i bp : Nat) (w : World) (e : Ending) (w' : World) : Prop :=
  w.grownBy w' (some bp) ∧ ∃ (x : Wd) (st : Int) (k : Nat), e = .returned (.tuple #[.agg #[.int .i64 x.at_, .string x.text, .bool x.quoted], .int .i64 st]) ∧ NextR s i x st k ∧
    w'.cell? ⟨bp, 0, none⟩ = some (.int .i64 k) ∧ w'.frozen? ⟨bp, 0, none⟩ = false

set_option maxRecDepth 100000 in
set_option maxHeartbeats 2000000 in
theorem wnext_any (s : ByteArray) (i bp bl : Nat) (w : World) (hs : s.size ≤ 1000000) (hi : i ≤ s.size) (hbp : bp < w.heap.size) (hbl : bl < w.heap.size) (hne : bl ≠ bp)
    (c0 : w.cell? ⟨bp, 0, none⟩ = some (.int .i64 i)) (f0 : w.frozen? ⟨bp, 0, none⟩ = false) (c1 : w.cell? ⟨bl, 0, none⟩ = some (.string s)) :
    Calls Tryd.prog 64 #[.pointer (some ⟨bp, 0, none⟩), .pointer (some ⟨bl, 0, none⟩)] w (NextPost s i bp w) := by
  have a0 : (w.alloc (.cells #[.int .i64 0, .string ⟨#[]⟩, .bool false] 53)).cell? ⟨bp, 0, none⟩ = some (.int .i64 i) := by rw [World.cell?_alloc_past _ _ _ hbp]; exact c0
  have a1 : (w.alloc (.cells #[.int .i64 0, .string ⟨#[]⟩, .bool false] 53)).cell? ⟨bl, 0, none⟩ = some (.string s) := by rw [World.cell?_alloc_past _ _ _ hbl]; exact c1
  obtain ⟨b, hb, hbs, hin, hout⟩ := run_from blankC s i hi
  have R1 := Lib.hid (fun W => (wrun_blank (s.extract i s.size) W (by rw [ByteArray.size_extract]; unfold maxLen; omega)).mono fun e w' h => (⟨h.1, h.2.symm⟩ : e = _ ∧ w' = W))
  have e2 : (s.extract i s.size).data.toList = s.data.toList.drop i := Go.Lib.extract_to_end s i
  rw [e2] at R1
  clear e2
  generalize hr : runN blankC (s.data.toList.drop i) = r at *
  clear hr
  have hskip := Lib.hid (fun f ws bb => show Cuts s f b ws bb → Cuts s f i ws bb from fun h => cuts_skip r i (fun m h1 h2 => by
    have := hin m h1 (by omega); rw [cls_blank] at this; exact of_decide_eq_true this) (by rw [← hb]; exact h))
  have wr1 : IntKind.i64.wrap ((i : Int) + (r : Int)) = (b : Int) := by rw [IntWalk.i64_in _ (by omega)]; omega
  have hib : i ≤ b := by omega
  have i0 : (0 : Int) ≤ i := by omega
  have i1 : (i : Int) ≤ s.size := by omega
  clear hb hin
  have ll : Hid (∀ j, (s.data.toList.drop b).length = j → j = s.size - b) := Lib.hid (fun j h => by rw [← h]; simp)
  by_cases hbz : b < s.size
  · have b0 : (0 : Int) ≤ b := by omega
    have b1 : (b : Int) ≤ s.size := by omega
    have b2 : (b : Int) < s.size := by omega
    have hbe : ((b : Int) == (s.size : Int)) = false := by rw [beq_eq_false_iff_ne]; omega
    have hcl := cls_lit s[b].toNat s[b].toNat_lt s[b].toNat_lt
    have h256 : (s[b].toNat : Int) < 256 := by have := s[b].toNat_lt; omega
    have hbb := Lib.hid (bt_in hbz)
    have n32 := Lib.hid (show bt s b ≠ 32 by have := hout hbz; rw [cls_blank] at this; exact of_decide_eq_false this)
    clear hout
    by_cases d1 : bt s b = 59
    · have s1 : (clsI (s[b].toNat : Int) == 59) = true := by rw [cls_semi, ← hbb.out]; exact decide_eq_true d1
      have hfin := Lib.hid (show NextR s i noWd 1 i from .inl ⟨rfl, rfl, rfl, fun f => hskip.out f _ _ (.note d1)⟩)
      clear d1
      go_enter Tryd.func64, Tryd.ntmps64
      go_wp2_with fail
      go_quiet ((go_at_call 42; exact Calls.quiet_of_same (R1.out _)))
      go_wp2_with fail
      refine bodyPost_ret (v := .tuple #[.agg #[.int .i64 0, .string ⟨#[]⟩, .bool false], .int .i64 1]) (by simp [results, Tryd.results64, go_sem]) rfl ⟨?_, noWd, 1, i, rfl, hfin.out, ?_, ?_⟩
      · exact g_new (g_new (g_new (g_drewN (g_alloc (g_refl _ _) _) _) (Nat.le_refl _) _) (Nat.le_refl _) _) (Nat.le_refl _) _
      · go_simp
      · go_simp
    · have s1 : (clsI (s[b].toNat : Int) == 59) = false := by rw [cls_semi, ← hbb.out]; exact decide_eq_false d1
      obtain ⟨k, hk, hks, hin, hout⟩ := run_from plainC s b (by omega)
      have R2 := Lib.hid (fun W => (wrun_plain (s.extract b s.size) W (by rw [ByteArray.size_extract]; unfold maxLen; omega)).mono fun e w' h => (⟨h.1, h.2.symm⟩ : e = _ ∧ w' = W))
      have e2 : (s.extract b s.size).data.toList = s.data.toList.drop b := Go.Lib.extract_to_end s b
      rw [e2] at R2
      clear e2
      generalize hr2 : runN plainC (s.data.toList.drop b) = r2 at *
      clear hr2
      by_cases d2 : bt s b = 34
      · have q34 : (clsI (s[b].toNat : Int) == 34) = true := by rw [cls_quote, ← hbb.out]; exact decide_eq_true d2
        have Q := Lib.hid (fun W => wquoted_any s b W (by unfold maxLen; omega) d2)
        have hd2 := Lib.hid d2
        clear hin hout d1 d2 hk
        go_enter Tryd.func64, Tryd.ntmps64
        go_wp2_with fail
        go_quiet ((go_at_call 42; exact Calls.quiet_of_same (R1.out _)))
        go_wp2_with fail
        obtain ⟨G, X3, k0, k1, kf, hRb, hRl⟩ : w.grownBy ((w.alloc (.cells #[.int .i64 0, .string ⟨#[]⟩, .bool false] 53)).drewN nq) (some bp) ∧ Res3 ((w.alloc (.cells #[.int .i64 0, .string ⟨#[]⟩, .bool false] 53)).drewN nq) w.heap.size ∧ ((w.alloc (.cells #[.int .i64 0, .string ⟨#[]⟩, .bool false] 53)).drewN nq).cell? ⟨bp, 0, none⟩ = some (.int .i64 i) ∧ ((w.alloc (.cells #[.int .i64 0, .string ⟨#[]⟩, .bool false] 53)).drewN nq).cell? ⟨bl, 0, none⟩ = some (.string s) ∧ ((w.alloc (.cells #[.int .i64 0, .string ⟨#[]⟩, .bool false] 53)).drewN nq).frozen? ⟨bp, 0, none⟩ = false ∧ w.heap.size ≠ bp ∧ w.heap.size ≠ bl := ⟨g_drewN (g_alloc (g_refl _ _) _) _, Res3.made _ _ _, by go_simp, by go_simp, by go_simp, by omega, by omega⟩
        clear a0 a1 c0 c1 f0
        generalize (w.alloc (.cells #[.int .i64 0, .string ⟨#[]⟩, .bool false] 53)).drewN nq = W at *
        have HX := Lib.hid X3
        have hpin : bp < W.heap.size := by have := G.size; omega
        have HG := Lib.hid G
        obtain ⟨_, x0, x1, x2, y0, y1, y2⟩ := X3
        clear G
        go_quiet ((go_at_call 42; exact Calls.quiet_of_same (R2.out _)))
        go_wp2_with fail
        refine (Q.out _).mono ?_
        rintro e w1 ⟨⟨q, rfl, hq⟩, hw⟩
        obtain rfl := hw.symm
        clear hw
        rcases hq with ⟨kk, rfl, hq⟩ | ⟨rfl, hq⟩
        · have hk1 := hq.long
          have hk2 := hq.fits
          have z0 : ((kk : Int) - (b : Int) == 0) = false := by rw [beq_eq_false_iff_ne]; omega
          have w1 : IntKind.i64.wrap ((b : Int) + ((kk : Int) - (b : Int))) = (kk : Int) := by rw [IntWalk.i64_in _ (by omega)]; omega
          have w2 : IntKind.i64.wrap ((kk : Int) - (b : Int) - 1) = ((kk - b - 1 : Nat) : Int) := by rw [IntWalk.i64_in _ (by omega)]; omega
          have w3 : (b : Int) + ((kk : Int) - (b : Int)) = (kk : Int) := by omega
          have w4 : (kk : Int) - (b : Int) - 1 = ((kk - b - 1 : Nat) : Int) := by omega
          have hbk : b ≤ kk := by omega
          have hes : (s.extract b kk).size = kk - b := by rw [ByteArray.size_extract]; omega
          have hle : kk - b - 1 ≤ kk - b := by omega
          have hl1 : 1 ≤ kk - b - 1 := by omega
          have hfin := Lib.hid (show NextR s i ⟨b, s.extract (b + 1) (kk - 1), true⟩ 0 kk from .inr (.inr ⟨rfl, by omega, hk2, b, by omega, rfl, fun f ws bb h => hskip.out f _ _ (.quote hq h)⟩))
          go_wp2_with fail
          have CL := Lib.hid (fun W => wclone_any (s.extract (b + 1) (kk - 1)) W (by rw [ByteArray.size_extract]; omega))
          rw [← inner_text hk1 hk2] at CL
          refine (CL.out _).mono ?_
          rintro e w1 ⟨rfl, hb1⟩
          have HX2 := Lib.hid ((HX.out.block (W1 := W.drewN nq) rfl (Nat.le_refl _)).store (b := bp) (j := 0) hRb (.int .i64 kk))
          have HX3 := Lib.hid (HX2.out.below hb1)
          have HG1 := Lib.hid (g_below (g_row (g_drewN HG.out nq) 0 (.int .i64 kk)) hb1)
          have p0 : w1.cell? ⟨bp, 0, none⟩ = some (.int .i64 kk) := by
            rw [hb1.cell (p := ⟨bp, 0, none⟩) (by simpa using hpin)]
            exact World.cell?_setCell_same' _ _ _ (by show (W.cell? _).isSome = true; rw [k0]; rfl)
          have p1 : w1.frozen? ⟨bp, 0, none⟩ = false := by
            rw [hb1.frozen (p := ⟨bp, 0, none⟩) (by simpa using hpin), World.frozen?_setCell]; exact kf
          clear hb1 x0 x1 x2 y0 y1 y2 k0 k1 kf
          obtain ⟨_, x0, x1, x2, y0, y1, y2⟩ := HX3.out
          go_wp2_with fail
          refine bodyPost_ret (v := .tuple #[.agg #[.int .i64 b, .string ((s.extract b kk).extract 1 (kk - b - 1)), .bool true], .int .i64 0]) (by simp [results, Tryd.results64, go_sem, x0, x1, x2]) rfl ⟨?_, ⟨b, s.extract (b + 1) (kk - 1), true⟩, 0, kk, by rw [inner_text hk1 hk2], hfin.out, ?_, ?_⟩
          · exact g_new (g_new (g_new HG1.out (Nat.le_refl _) _) (Nat.le_refl _) _) (Nat.le_refl _) _
          · go_simp
          · go_simp
        · have z0 : ((0 : Int) == 0) = true := rfl
          have hfin := Lib.hid (show NextR s i ⟨b, ⟨#[]⟩, false⟩ 2 i from .inr (.inl ⟨rfl, rfl, b, hbz, rfl, fun f => hskip.out f _ _ (.badq hd2.out hq)⟩))
          clear hq
          go_wp2_with fail
          refine bodyPost_ret (v := .tuple #[.agg #[.int .i64 b, .string ⟨#[]⟩, .bool false], .int .i64 2]) (by simp [results, Tryd.results64, go_sem, x0, x1, x2]) rfl ⟨?_, ⟨b, ⟨#[]⟩, false⟩, 2, i, rfl, hfin.out, ?_, ?_⟩
          · exact g_new (g_new (g_new (g_drewN HG.out _) (Nat.le_refl _) _) (Nat.le_refl _) _) (Nat.le_refl _) _
          · go_simp
          · go_simp
      · have q34 : (clsI (s[b].toNat : Int) == 34) = false := by rw [cls_quote, ← hbb.out]; exact decide_eq_false d2
        have hin' := Lib.hid (show ∀ m, b ≤ m → m < k → plainI (bt s m) = true from fun m x y => by rw [← cls_plain]; exact hin m x y)
        have hout' := Lib.hid (show plainI (bt s k) = false by
          by_cases h : k < s.size
          · rw [← cls_plain]; exact hout h
          · rw [bt_out h]; rfl)
        clear hin hout
        by_cases hz : r2 = 0
        · have z0 : ((r2 : Int) == 0) = true := by rw [beq_iff_eq]; omega
          have hfin := Lib.hid (show NextR s i ⟨b, ⟨#[]⟩, false⟩ 2 i from .inr (.inl ⟨rfl, rfl, b, hbz, rfl, fun f => hskip.out f _ _ (.bad (by rw [hbb.out]; omega) d1 n32.out d2 (by have := hout'.out; rwa [show k = b by omega] at this))⟩))
          clear d1 d2 hz hk
          go_enter Tryd.func64, Tryd.ntmps64
          go_wp2_with fail
          go_quiet ((go_at_call 42; exact Calls.quiet_of_same (R1.out _)))
          go_wp2_with fail
          obtain ⟨G, X3, k0, k1, kf, hRb, hRl⟩ : w.grownBy ((w.alloc (.cells #[.int .i64 0, .string ⟨#[]⟩, .bool false] 53)).drewN nq) (some bp) ∧ Res3 ((w.alloc (.cells #[.int .i64 0, .string ⟨#[]⟩, .bool false] 53)).drewN nq) w.heap.size ∧ ((w.alloc (.cells #[.int .i64 0, .string ⟨#[]⟩, .bool false] 53)).drewN nq).cell? ⟨bp, 0, none⟩ = some (.int .i64 i) ∧ ((w.alloc (.cells #[.int .i64 0, .string ⟨#[]⟩, .bool false] 53)).drewN nq).cell? ⟨bl, 0, none⟩ = some (.string s) ∧ ((w.alloc (.cells #[.int .i64 0, .string ⟨#[]⟩, .bool false] 53)).drewN nq).frozen? ⟨bp, 0, none⟩ = false ∧ w.heap.size ≠ bp ∧ w.heap.size ≠ bl := ⟨g_drewN (g_alloc (g_refl _ _) _) _, Res3.made _ _ _, by go_simp, by go_simp, by go_simp, by omega, by omega⟩
          clear a0 a1 c0 c1 f0
          generalize (w.alloc (.cells #[.int .i64 0, .string ⟨#[]⟩, .bool false] 53)).drewN nq = W at *
          have HX := Lib.hid X3
          have hpin : bp < W.heap.size := by have := G.size; omega
          have HG := Lib.hid G
          obtain ⟨_, x0, x1, x2, y0, y1, y2⟩ := X3
          clear G
          go_quiet ((go_at_call 42; exact Calls.quiet_of_same (R2.out _)))
          go_wp2_with fail
          refine bodyPost_ret (v := .tuple #[.agg #[.int .i64 b, .string ⟨#[]⟩, .bool false], .int .i64 2]) (by simp [results, Tryd.results64, go_sem, x0, x1, x2]) rfl ⟨?_, ⟨b, ⟨#[]⟩, false⟩, 2, i, rfl, hfin.out, ?_, ?_⟩
          · exact g_new (g_new (g_new (g_drewN HG.out _) (Nat.le_refl _) _) (Nat.le_refl _) _) (Nat.le_refl _) _
          · go_simp
          · go_simp
        · have z0 : ((r2 : Int) == 0) = false := by rw [beq_eq_false_iff_ne]; omega
          have hfin := Lib.hid (show NextR s i ⟨b, s.extract b k, false⟩ 0 k from .inr (.inr ⟨rfl, by omega, hks, b, by omega, rfl, fun f ws bb h => hskip.out f _ _ (.word ⟨by omega, hks, hin'.out, hout'.out⟩ h)⟩))
          have hbr : (b : Int) + (r2 : Int) = (k : Int) := by omega
          have CL := Lib.hid (fun W => wclone_any (s.extract b k) W (by rw [ByteArray.size_extract]; omega))
          have hbk : b ≤ k := by omega
          clear d1 d2 hz hk
          go_enter Tryd.func64, Tryd.ntmps64
          go_wp2_with fail
          go_quiet ((go_at_call 42; exact Calls.quiet_of_same (R1.out _)))
          go_wp2_with fail
          obtain ⟨G, X3, k0, k1, kf, hRb, hRl⟩ : w.grownBy ((w.alloc (.cells #[.int .i64 0, .string ⟨#[]⟩, .bool false] 53)).drewN nq) (some bp) ∧ Res3 ((w.alloc (.cells #[.int .i64 0, .string ⟨#[]⟩, .bool false] 53)).drewN nq) w.heap.size ∧ ((w.alloc (.cells #[.int .i64 0, .string ⟨#[]⟩, .bool false] 53)).drewN nq).cell? ⟨bp, 0, none⟩ = some (.int .i64 i) ∧ ((w.alloc (.cells #[.int .i64 0, .string ⟨#[]⟩, .bool false] 53)).drewN nq).cell? ⟨bl, 0, none⟩ = some (.string s) ∧ ((w.alloc (.cells #[.int .i64 0, .string ⟨#[]⟩, .bool false] 53)).drewN nq).frozen? ⟨bp, 0, none⟩ = false ∧ w.heap.size ≠ bp ∧ w.heap.size ≠ bl := ⟨g_drewN (g_alloc (g_refl _ _) _) _, Res3.made _ _ _, by go_simp, by go_simp, by go_simp, by omega, by omega⟩
          clear a0 a1 c0 c1 f0
          generalize (w.alloc (.cells #[.int .i64 0, .string ⟨#[]⟩, .bool false] 53)).drewN nq = W at *
          have HX := Lib.hid X3
          have hpin : bp < W.heap.size := by have := G.size; omega
          have HG := Lib.hid G
          obtain ⟨_, x0, x1, x2, y0, y1, y2⟩ := X3
          clear G
          go_quiet ((go_at_call 42; exact Calls.quiet_of_same (R2.out _)))
          go_wp2_with fail
          refine (CL.out _).mono ?_
          rintro e w1 ⟨rfl, hb1⟩
          have HX2 := Lib.hid ((HX.out.block (W1 := W.drewN nq) rfl (Nat.le_refl _)).store (b := bp) (j := 0) hRb (.int .i64 k))
          have HX3 := Lib.hid (HX2.out.below hb1)
          have HG1 := Lib.hid (g_below (g_row (g_drewN HG.out nq) 0 (.int .i64 k)) hb1)
          have p0 : w1.cell? ⟨bp, 0, none⟩ = some (.int .i64 k) := by
            rw [hb1.cell (p := ⟨bp, 0, none⟩) (by simpa using hpin)]
            exact World.cell?_setCell_same' _ _ _ (by show (W.cell? _).isSome = true; rw [k0]; rfl)
          have p1 : w1.frozen? ⟨bp, 0, none⟩ = false := by
            rw [hb1.frozen (p := ⟨bp, 0, none⟩) (by simpa using hpin), World.frozen?_setCell]; exact kf
          clear hb1 x0 x1 x2 y0 y1 y2 k0 k1 kf
          obtain ⟨_, x0, x1, x2, y0, y1, y2⟩ := HX3.out
          go_wp2_with fail
          refine bodyPost_ret (v := .tuple #[.agg #[.int .i64 b, .string (s.extract b k), .bool false], .int .i64 0]) (by simp [results, Tryd.results64, go_sem, x0, x1, x2]) rfl ⟨?_, ⟨b, s.extract b k, false⟩, 0, k, rfl, hfin.out, ?_, ?_⟩
          · exact g_new (g_new (g_new HG1.out (Nat.le_refl _) _) (Nat.le_refl _) _) (Nat.le_refl _) _
          · go_simp
          · go_simp
  · obtain rfl : b = s.size := by omega
    have hbe : ((s.size : Int) == (s.size : Int)) = true := by simp
    have hfin := Lib.hid (show NextR s i noWd 1 i from .inl ⟨rfl, rfl, rfl, fun f => hskip.out f _ _ (.stop rfl)⟩)
    clear hout
    go_enter Tryd.func64, Tryd.ntmps64
    go_wp2_with fail
    go_quiet ((go_at_call 42; exact Calls.quiet_of_same (R1.out _)))
    go_wp2_with fail
    refine bodyPost_ret (v := .tuple #[.agg #[.int .i64 0, .string ⟨#[]⟩, .bool false], .int .i64 1]) (by simp [results, Tryd.results64, go_sem]) rfl ⟨?_, noWd, 1, i, rfl, hfin.out, ?_, ?_⟩
    · exact g_new (g_new (g_new (g_drewN (g_alloc (g_refl _ _) _) _) (Nat.le_refl _) _) (Nat.le_refl _) _) (Nat.le_refl _) _
    · go_simp
    · go_simp

end Go.Proofs.YtdjkgnganbeonaaDoor
