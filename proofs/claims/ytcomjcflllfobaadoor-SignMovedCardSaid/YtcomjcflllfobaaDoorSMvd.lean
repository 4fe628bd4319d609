/- SignMoved: a valid part stays valid if a sign is put in or taken out. -/
import Derived.Test.YtcomjcflllfobaaDoorSFreB
namespace Go.Proofs.YtcomjcflllfobaaDoor
open Go.RowKit

theorem part_one (nm : ByteArray) (q : Option Addr) (n c : Nat) : (#[.string nm, .slice q n c] : Array Value).all (·.oneCell') = true := all_oneCell_toArray (cs := [.string nm, .slice q n c]) (by
  intro u hu
  simp only [List.mem_cons, List.not_mem_nil, or_false] at hu
  rcases hu with rfl | rfl <;> rfl)

set_option maxRecDepth 100000 in
set_option maxHeartbeats 16000000 in
theorem mv13 {Q : Exit → Act → World → Prop} {x0 x1 x2 x3 x4 x5 x6 x7 x9 x12 x13 x14 x15 x16 x17 x18 x19 x20 x21 x22 x23 x24 x25 x26 x27 x28 x29 x30 x31 x32 x33 x34 x35 x36 x37 x38 x39 x40 x41 x42 x43 x44 x45 x46 x47 x48 x49 x50 x51 x52 x53 x54 x55 x56 x57 x58 x59 x60 x61 x62 x63 x64 x65 x66 x67 x68 x69 x70 x71 x72 x73 x74 x75 x76 x77 x78 x79 x80 x81 x82 x83 x84 x85 x86 x87 x88 x89 x90 x91 x92 x93 x94 x95 x96 x97 x98 x99 x100 x101 x102 x103 x104 x105 x106 x107 x108 x109 x110 x111 x112 x113 x114 x115 x116 x117 x118 x119 x120 x121 x122 x123 x124 x125 x126 x127 x128 x129 x130 x131 x132 x133 x134 x135 x136 x137 x138 x139 x140 x141 x142 x143 x144 x145 x146 x147 x148 x149 x150 x151 x152 x153 x154 x155 x156 x157 x158 x159 x160 x161 : Value} {w y5 : World} {b8 b11 : Nat} {nm : ByteArray} {l : List Sg} {bq oq c i : Nat} {s : Sg} (hp : ∀ (c : _) (a : Act) (d : Tmp) (v : Value) (w : World), Q (.panic c) (a.put (some d) v) w → Q (.panic c) a w) (FX : Hid (MvX w y5 b8 nm l (some ⟨bq, oq, none⟩) c)) (HS : Hid (HoldsB y5 b11 27 (sgA s))) (hi2 : i ≤ l.length) (fit : l.length ≤ c) (hl60 : l.length ≤ 60) 
    (hQ : ∀ (a' : Act) (v1 v2 v3 : Value) (br : Nat) (p5 : Option Addr) (k5 : Nat) (wc : World), a' = { tmps := #[x0, x1, x2, x3, x4, x5, x6, x7, .pointer (some ⟨b8, 0, none⟩), x9, .int .i64 (i : Int), .pointer (some ⟨b11, 0, none⟩), x12, x13, x14, .pointer (some ⟨br, 0, none⟩), x16, x17, x18, x19, x20, x21, x22, x23, x24, x25, x26, x27, x28, x29, x30, x31, x32, x33, x34, x35, x36, x37, x38, x39, x40, x41, x42, x43, x44, x45, x46, x47, x48, x49, x50, x51, x52, x53, x54, x55, x56, x57, x58, x59, x60, x61, x62, x63, x64, x65, x66, x67, x68, x69, x70, x71, x72, x73, x74, x75, x76, x77, x78, x79, x80, x81, x82, x83, x84, x85, x86, x87, x88, x89, x90, x91, .pointer (some ⟨b8, 0, none⟩), .string nm, .pointer (some ⟨b8, 1, none⟩), .slice (some ⟨bq, oq, none⟩) l.length c, .int .i64 (i : Int), .slice (some ⟨bq, oq, none⟩) i c, v1, sgv s, v2, v3, .pointer (some ⟨b8, 1, none⟩), .slice (some ⟨bq, oq, none⟩) l.length c, .int .i64 (i : Int), .slice (dropQ (some ⟨bq, oq, none⟩) c i) (l.length - i) (c - i), .slice p5 (i + 1 + (l.length - i)) k5, .agg #[.string nm, .slice p5 (i + 1 + (l.length - i)) k5], x108, x109, x110, x111, x112, x113, x114, x115, x116, x117, x118, x119, x120, x121, x122, x123, x124, x125, x126, x127, x128, x129, x130, x131, x132, x133, x134, x135, x136, x137, x138, x139, x140, x141, x142, x143, x144, x145, x146, x147, x148, x149, x150, x151, x152, x153, x154, x155, x156, x157, x158, x159, x160, x161], defers := [] } → Hid (HoldsB wc br 40 #[.string nm, .slice p5 (i + 1 + (l.length - i)) k5]) → Hid (SlP wc 17 p5 (i + 1 + (l.length - i)) k5 (flatG (l.take i ++ s :: l.drop i))) → Hid (Below y5.heap.size y5 wc) → Q .normal a' wc) :
    (Code.region 13 #[{ dst := some 92, op := Op.fieldAddr 40 (Operand.tmp 8) 0, type := 0, pos := "law.go:158", after := #[], guard := none }, { dst := some 93, op := Op.load 9 (Operand.tmp 92), type := 9, pos := "law.go:158", after := #[{ on := 0, ground := Ground.data }], guard := none }, { dst := some 94, op := Op.fieldAddr 40 (Operand.tmp 8) 1, type := 0, pos := "law.go:158", after := #[], guard := none }, { dst := some 95, op := Op.load 38 (Operand.tmp 94), type := 38, pos := "law.go:158", after := #[{ on := 2, ground := Ground.data }], guard := none }, { dst := some 96, op := Op.move (Operand.tmp 10), type := 3, pos := "law.go:158", after := #[], guard := none }, { dst := some 97, op := Op.slice 38 (Operand.tmp 95) none (some (Operand.tmp 96)) none, type := 38, pos := "law.go:158", after := #[{ on := 3, ground := Ground.data }, { on := 4, ground := Ground.data }], guard := none }, { dst := some 98, op := Op.call { callee := Callee.value (Operand.func 39), args := #[Operand.tmp 97], argTypes := #[38] }, type := 38, pos := "law.go:158", after := #[{ on := 5, ground := Ground.data }], guard := none }, { dst := some 99, op := Op.load 27 (Operand.tmp 11), type := 27, pos := "law.go:158", after := #[], guard := none }, { dst := some 100, op := Op.buildSlice 38 1 #[(0, Operand.tmp 99)], type := 38, pos := "law.go:158", after := #[{ on := 7, ground := Ground.data }], guard := none }, { dst := some 101, op := Op.call { callee := Callee.builtin Builtin.append, args := #[Operand.tmp 98, Operand.tmp 100], argTypes := #[38, 38] }, type := 38, pos := "law.go:158", after := #[{ on := 6, ground := Ground.data }, { on := 8, ground := Ground.data }, { on := 6, ground := Ground.chain }], guard := none }, { dst := some 102, op := Op.fieldAddr 40 (Operand.tmp 8) 1, type := 0, pos := "law.go:158", after := #[], guard := none }, { dst := some 103, op := Op.load 38 (Operand.tmp 102), type := 38, pos := "law.go:158", after := #[{ on := 10, ground := Ground.data }], guard := none }, { dst := some 104, op := Op.move (Operand.tmp 10), type := 3, pos := "law.go:158", after := #[], guard := none }, { dst := some 105, op := Op.slice 38 (Operand.tmp 103) (some (Operand.tmp 104)) none none, type := 38, pos := "law.go:158", after := #[{ on := 11, ground := Ground.data }, { on := 12, ground := Ground.data }], guard := none }, { dst := some 106, op := Op.call { callee := Callee.builtin Builtin.append, args := #[Operand.tmp 101, Operand.tmp 105], argTypes := #[38, 38] }, type := 38, pos := "law.go:158", after := #[{ on := 9, ground := Ground.data }, { on := 13, ground := Ground.data }, { on := 9, ground := Ground.chain }], guard := none }, { dst := some 107, op := Op.build 40 #[(0, Operand.tmp 93), (1, Operand.tmp 106)], type := 40, pos := "law.go:158", after := #[{ on := 1, ground := Ground.data }, { on := 14, ground := Ground.data }], guard := none }, { dst := some 15, op := Op.alloc 40, type := 0, pos := "law.go:158", after := #[], guard := none }, { dst := none, op := Op.store 40 (Operand.tmp 15) (Operand.tmp 107), type := 0, pos := "law.go:158", after := #[{ on := 16, ground := Ground.data }, { on := 15, ground := Ground.data }, { on := 14, ground := Ground.chain }, { on := 0, ground := Ground.phase }, { on := 1, ground := Ground.phase }, { on := 2, ground := Ground.phase }, { on := 3, ground := Ground.phase }, { on := 4, ground := Ground.phase }, { on := 5, ground := Ground.phase }, { on := 6, ground := Ground.phase }, { on := 7, ground := Ground.phase }, { on := 8, ground := Ground.phase }, { on := 9, ground := Ground.phase }, { on := 10, ground := Ground.phase }, { on := 11, ground := Ground.phase }, { on := 12, ground := Ground.phase }, { on := 13, ground := Ground.phase }, { on := 14, ground := Ground.phase }, { on := 15, ground := Ground.phase }, { on := 16, ground := Ground.phase }], guard := none }] true).wp Tryd.prog Q { tmps := #[x0, x1, x2, x3, x4, x5, x6, x7, .pointer (some ⟨b8, 0, none⟩), x9, .int .i64 (i : Int), .pointer (some ⟨b11, 0, none⟩), x12, x13, x14, x15, x16, x17, x18, x19, x20, x21, x22, x23, x24, x25, x26, x27, x28, x29, x30, x31, x32, x33, x34, x35, x36, x37, x38, x39, x40, x41, x42, x43, x44, x45, x46, x47, x48, x49, x50, x51, x52, x53, x54, x55, x56, x57, x58, x59, x60, x61, x62, x63, x64, x65, x66, x67, x68, x69, x70, x71, x72, x73, x74, x75, x76, x77, x78, x79, x80, x81, x82, x83, x84, x85, x86, x87, x88, x89, x90, x91, x92, x93, x94, x95, x96, x97, x98, x99, x100, x101, x102, x103, x104, x105, x106, x107, x108, x109, x110, x111, x112, x113, x114, x115, x116, x117, x118, x119, x120, x121, x122, x123, x124, x125, x126, x127, x128, x129, x130, x131, x132, x133, x134, x135, x136, x137, x138, x139, x140, x141, x142, x143, x144, x145, x146, x147, x148, x149, x150, x151, x152, x153, x154, x155, x156, x157, x158, x159, x160, x161], defers := [] } y5 := by
  obtain ⟨i0, hi0, hz0, hz1, hz2⟩ := info_parts info_sign
  have hicN : i ≤ c := by omega
  have LN := Lib.hid (show (l.take i ++ s :: l.drop i).length = (i + 1 + (l.length - i)) by rw [List.length_append, List.length_cons, List.length_take_of_le hi2, List.length_drop]; omega)
  have FL := Lib.hid (show flatG (l.take i) ++ flatG [s] ++ flatG (l.drop i) = flatG (l.take i ++ s :: l.drop i) by rw [flatG_app, List.append_assoc]; rfl)
  refine wp_region_held (S := fun W => W.cell? ⟨b8, 0, none⟩ = some (.string nm) ∧ W.cell? ⟨b8, 1, none⟩ = some (.slice (some ⟨bq, oq, none⟩) l.length c) ∧ SgAt W b11 0 s) (by kernel_rfl) ?_
  change wpAnyH _ _ _ _ _ _ _ _ (World.drew _)
  have BY := Lib.hid (w_refl y5).drew
  generalize World.drew y5 = y0 at *
  have X0 := Lib.hid (FX.out.later BY.out)
  have S0 := Lib.hid (HS.out.later BY.out)
  have SO := Lib.hid (show ∀ W, Below y0.heap.size y0 W → W.cell? ⟨b8, 0, none⟩ = some (.string nm) ∧ W.cell? ⟨b8, 1, none⟩ = some (.slice (some ⟨bq, oq, none⟩) l.length c) ∧ SgAt W b11 0 s from fun W b => ⟨(X0.out.later b).h.cell (j := 0) rfl, (X0.out.later b).h.cell (j := 1) rfl, (S0.out.later b).sg⟩)
  have BL := Lib.hid (w_refl y0)
  have FT := Lib.hid (X0.out.s.takeG hi2)
  have FD := Lib.hid (X0.out.s.dropG (i := i) (by omega))
  have OS := Lib.hid (show ∀ W, SlP W 17 (some ⟨bq, oq, none⟩) i c (flatG (l.take i)) → Calls Tryd.prog 39 #[.slice (some ⟨bq, oq, none⟩) i c] W fun e w' => ∃ v, e = .returned v ∧ OwnL W w' 27 17 v i (flatG (l.take i)) from fun W g => by
    have e : (l.take i).length = i := List.length_take_of_le hi2
    have := owns_any (some ⟨bq, oq, none⟩) c (l.take i) (by omega) W (by rw [e]; exact g)
    rw [e] at this; exact this)
  clear FX HS
  refine wpAnyH_take (i := 0) (v := .pointer (some ⟨b8, 0, none⟩)) rfl (by kernel_rfl) (by kernel_rfl) (by kernel_rfl) (fun _ _ _ h => hp _ _ _ _ _ h) (run_yields _ (by kernel_rfl) (fun _ _ => by kernel_rfl)) (SO.out _ BL.out) ?_
  refine wpAnyH_take (i := 1) (v := .string nm) rfl (by kernel_rfl) (by kernel_rfl) (by kernel_rfl) (fun _ _ _ h => hp _ _ _ _ _ h) (ld_yields 9 (.tmp 92) ⟨b8, 0, none⟩ _ (by kernel_rfl) rfl (by kernel_rfl) (ld_str _ nm) (fun _ h => h.1)) (SO.out _ BL.out) ?_
  refine wpAnyH_take (i := 2) (v := .pointer (some ⟨b8, 1, none⟩)) rfl (by kernel_rfl) (by kernel_rfl) (by kernel_rfl) (fun _ _ _ h => hp _ _ _ _ _ h) (run_yields _ (by kernel_rfl) (fun _ _ => by kernel_rfl)) (SO.out _ BL.out) ?_
  refine wpAnyH_take (i := 3) (v := .slice (some ⟨bq, oq, none⟩) l.length c) rfl (by kernel_rfl) (by kernel_rfl) (by kernel_rfl) (fun _ _ _ h => hp _ _ _ _ _ h) (ld_yields 38 (.tmp 94) ⟨b8, 1, none⟩ _ (by kernel_rfl) rfl (by kernel_rfl) (ld_sgs _ _ _ _) (fun _ h => h.2.1)) (SO.out _ BL.out) ?_
  refine wpAnyH_take (i := 4) (v := .int .i64 (i : Int)) rfl (by kernel_rfl) (by kernel_rfl) (by kernel_rfl) (fun _ _ _ h => hp _ _ _ _ _ h) (run_yields _ (by kernel_rfl) (fun _ _ => by kernel_rfl)) (SO.out _ BL.out) ?_
  refine wpAnyH_take (i := 5) (v := .slice (some ⟨bq, oq, none⟩) i c) rfl (by kernel_rfl) (by kernel_rfl) (by kernel_rfl) (fun _ _ _ h => hp _ _ _ _ _ h) (sl_yields 38 (.tmp 95) none (some (.tmp 96)) (.slice (some ⟨bq, oq, none⟩) l.length c) none (some (.int .i64 (i : Int))) _ (by kernel_rfl) rfl (by kernel_rfl) rfl (by kernel_rfl) (sl_to _ _ _ _ _ hicN)) (SO.out _ BL.out) ?_
  refine wpAnyH_take (i := 7) (v := sgv s) rfl (by kernel_rfl) (by kernel_rfl) (by kernel_rfl) (fun _ _ _ h => hp _ _ _ _ _ h) (sg_yields (.tmp 11) b11 0 s (by kernel_rfl) rfl (by kernel_rfl) (fun _ h => h.2.2)) (SO.out _ BL.out) ?_
  refine wpAnyH_take (i := 10) (v := .pointer (some ⟨b8, 1, none⟩)) rfl (by kernel_rfl) (by kernel_rfl) (by kernel_rfl) (fun _ _ _ h => hp _ _ _ _ _ h) (run_yields _ (by kernel_rfl) (fun _ _ => by kernel_rfl)) (SO.out _ BL.out) ?_
  refine wpAnyH_take (i := 11) (v := .slice (some ⟨bq, oq, none⟩) l.length c) rfl (by kernel_rfl) (by kernel_rfl) (by kernel_rfl) (fun _ _ _ h => hp _ _ _ _ _ h) (ld_yields 38 (.tmp 102) ⟨b8, 1, none⟩ _ (by kernel_rfl) rfl (by kernel_rfl) (ld_sgs _ _ _ _) (fun _ h => h.2.1)) (SO.out _ BL.out) ?_
  refine wpAnyH_take (i := 12) (v := .int .i64 (i : Int)) rfl (by kernel_rfl) (by kernel_rfl) (by kernel_rfl) (fun _ _ _ h => hp _ _ _ _ _ h) (run_yields _ (by kernel_rfl) (fun _ _ => by kernel_rfl)) (SO.out _ BL.out) ?_
  refine wpAnyH_take (i := 13) (v := .slice (dropQ (some ⟨bq, oq, none⟩) c i) (l.length - i) (c - i)) rfl (by kernel_rfl) (by kernel_rfl) (by kernel_rfl) (fun _ _ _ h => hp _ _ _ _ _ h) (sl_yields 38 (.tmp 103) (some (.tmp 104)) none (.slice (some ⟨bq, oq, none⟩) l.length c) (some (.int .i64 ((i : Int)))) none _ (by kernel_rfl) rfl (by kernel_rfl) (by kernel_rfl) rfl (sl_from _ _ _ _ _ _ rfl hi2)) (SO.out _ BL.out) ?_
  refine wpAnyH_ready (rs := [6, 8, 16]) (by kernel_rfl) (by simp) ?_
  refine AllReadyH.cons rfl (fun K hK => ?_) (AllReadyH.cons rfl (fun K hK => ?_) (AllReadyH.cons rfl (fun K hK => ?_) (AllReadyH.nil)))
  · refine step_callTo rfl 39 #[.slice (some ⟨bq, oq, none⟩) i c] (by kernel_rfl) ((OS.out _ (FT.out.later BL.out)).mono ?_)
    rintro e v1 ⟨v, rfl, ho⟩
    obtain ⟨p1, k1, rfl⟩ := ho.val
    have RW := Lib.hid (own_base ho.row BL.out.size)
    replace BL := Lib.hid (w_below BL.out ho.bel)
    clear ho
    refine ⟨_, rfl, ?_⟩
    refine hK.out _ _ (SO.out _ BL.out) (fun _ => ?_)
    clear hK K
    simp only [Act.put, List.getElem_toArray, List.getElem_cons_succ, List.getElem_cons_zero, List.setIfInBounds_toArray, List.set_cons_succ, List.set_cons_zero]
    refine wpAnyH_ready (rs := [8, 16]) (by kernel_rfl) (by simp) ?_
    refine AllReadyH.cons rfl (fun K hK => ?_) (AllReadyH.cons rfl (fun K hK => ?_) (AllReadyH.nil))
    · refine step_lit rfl (.tmp 99) rfl s (by kernel_rfl) ?_
      replace RW := Lib.hid (own_keep RW.out (w_alloc (w_refl _) (sgO s)) (Nat.le_refl _))
      have LT := Lib.hid (one_sg v1 s)
      replace BL := Lib.hid (w_alloc BL.out (sgO s))
      refine hK.out _ _ (SO.out _ BL.out) (fun _ => ?_)
      clear hK K
      simp only [Act.put, List.getElem_toArray, List.getElem_cons_succ, List.getElem_cons_zero, List.setIfInBounds_toArray, List.set_cons_succ, List.set_cons_zero]
      obtain ⟨bt, hbt⟩ : ∃ x, v1.heap.size = x := ⟨_, rfl⟩
      rw [hbt] at LT ⊢
      generalize v1.alloc (sgO s) = v2 at *
      clear hbt
      refine wpAnyH_ready (rs := [9, 16]) (by kernel_rfl) (by simp) ?_
      refine AllReadyH.cons rfl (fun K hK => ?_) (AllReadyH.cons rfl (fun K hK => ?_) (AllReadyH.nil))
      · refine step_append_sl rfl (.tmp 98) (.tmp 100) 38 rfl y0.heap.size 27 i0 (sgv zS) 17 128 Tryd.underlying38 hi0 hz0 hz1 hz2 rfl (by decide) (.slice p1 i k1) (i) (flatG (l.take i)) (by kernel_rfl) RW.out (some ⟨bt, 0, none⟩) (1) (1) (flatG [s]) (by kernel_rfl) LT.out (by unfold maxLen; omega) (by omega) BL.out.size ?_
        intro u v3 hown hgrow
        replace BL := Lib.hid (BL.out.grown hgrow BL.out.size (fun j e => (RW.out.lt j e).1))
        replace RW := Lib.hid hown
        obtain ⟨pA1, kA1, rfl⟩ := own_val hown
        clear hown hgrow LT
        refine hK.out _ _ (SO.out _ BL.out) (fun _ => ?_)
        clear hK K
        simp only [Act.put, List.getElem_toArray, List.getElem_cons_succ, List.getElem_cons_zero, List.setIfInBounds_toArray, List.set_cons_succ, List.set_cons_zero]
        refine wpAnyH_ready (rs := [14, 16]) (by kernel_rfl) (by simp) ?_
        refine AllReadyH.cons rfl (fun K hK => ?_) (AllReadyH.cons rfl (fun K hK => ?_) (AllReadyH.nil))
        · refine step_append_sl rfl (.tmp 101) (.tmp 105) 38 rfl y0.heap.size 27 i0 (sgv zS) 17 128 Tryd.underlying38 hi0 hz0 hz1 hz2 rfl (by decide) (.slice pA1 (i + 1) kA1) (i + 1) (flatG (l.take i) ++ flatG [s]) (by kernel_rfl) RW.out (dropQ (some ⟨bq, oq, none⟩) c i) (l.length - i) (c - i) (flatG (l.drop i)) (by kernel_rfl) (FD.out.later BL.out) (by unfold maxLen; omega) (by omega) BL.out.size ?_
          intro u v4 hown hgrow
          replace BL := Lib.hid (BL.out.grown hgrow BL.out.size (fun j e => (RW.out.lt j e).1))
          replace RW := Lib.hid hown
          obtain ⟨pA2, kA2, rfl⟩ := own_val hown
          clear hown hgrow
          refine hK.out _ _ (SO.out _ BL.out) (fun _ => ?_)
          clear hK K
          simp only [Act.put, List.getElem_toArray, List.getElem_cons_succ, List.getElem_cons_zero, List.setIfInBounds_toArray, List.set_cons_succ, List.set_cons_zero]
          refine wpAnyH_take (i := 15) (v := .agg #[.string nm, .slice pA2 (i + 1 + (l.length - i)) kA2]) rfl (by kernel_rfl) (by kernel_rfl) (by kernel_rfl) (fun _ _ _ h => hp _ _ _ _ _ h) (run_yields _ (by kernel_rfl) (fun _ _ => by kernel_rfl)) (SO.out _ BL.out) ?_
          refine wpAnyH_ready (rs := [16]) (by kernel_rfl) (by simp) ?_
          refine AllReadyH.cons rfl (fun K hK => ?_) (AllReadyH.nil)
          refine step_runTo rfl (.pointer (some ⟨v4.heap.size, 0, none⟩)) (v4.alloc (ptO ⟨#[]⟩ none 0 0)) (by kernel_rfl) ?_
          replace RW := Lib.hid (own_keep RW.out (w_alloc (w_refl _) (ptO ⟨#[]⟩ none 0 0)) (Nat.le_refl _))
          have HR := Lib.hid (pt_new v4 ⟨#[]⟩ none 0 0)
          have RS := BL.out.size
          replace BL := Lib.hid (w_alloc BL.out (ptO ⟨#[]⟩ none 0 0))
          refine hK.out _ _ (SO.out _ BL.out) (fun _ => ?_)
          clear hK K
          simp only [Act.put, List.getElem_toArray, List.getElem_cons_succ, List.getElem_cons_zero, List.setIfInBounds_toArray, List.set_cons_succ, List.set_cons_zero]
          obtain ⟨br, hbr⟩ : ∃ x, v4.heap.size = x := ⟨_, rfl⟩
          have RL := Lib.hid (show y0.heap.size ≤ br by rw [← hbr]; exact RS)
          clear RS
          rw [hbr] at HR ⊢
          generalize v4.alloc (ptO ⟨#[]⟩ none 0 0) = v5 at *
          clear hbr
          refine wpAnyH_ready (rs := [17]) (by kernel_rfl) (by simp) ?_
          refine AllReadyH.cons rfl (fun K hK => ?_) (AllReadyH.nil)
          refine step_storeTo rfl 40 (.tmp 15) (.tmp 107) rfl br #[.string nm, .slice pA2 (i + 1 + (l.length - i)) kA2] (by kernel_rfl) (by kernel_rfl) 40 #[.string ⟨#[]⟩, .slice none 0 0] HR.out part_size rfl (part_one _ _ _ _) ?_
          intro v6 h1 h2 h3
          replace RW := Lib.hid (own_rest RW.out (own_ne RW.out HR.out (by decide)) h3)
          replace BL := Lib.hid (h2 _ _ BL.out RL.out)
          replace HR := Lib.hid h1
          clear h1 h2 h3
          refine hK.out _ _ (SO.out _ BL.out) (fun _ => ?_)
          clear hK K
          simp only [Act.put, List.getElem_toArray, List.getElem_cons_succ, List.getElem_cons_zero]
          refine wpAnyH_done (by kernel_rfl) ?_ _
          rw [FL.out] at RW
          exact hQ _ (.slice p1 i k1) (.slice (some ⟨bt, 0, none⟩) 1 1) (.slice pA1 (i + 1) kA1) br pA2 kA2 _ (by kernel_rfl) HR (Lib.hid (own_sl RW.out LN.out)) (Lib.hid (w_below BY.out BL.out))
        · refine step_runTo rfl (.pointer (some ⟨v3.heap.size, 0, none⟩)) (v3.alloc (ptO ⟨#[]⟩ none 0 0)) (by kernel_rfl) ?_
          replace RW := Lib.hid (own_keep RW.out (w_alloc (w_refl _) (ptO ⟨#[]⟩ none 0 0)) (Nat.le_refl _))
          have HR := Lib.hid (pt_new v3 ⟨#[]⟩ none 0 0)
          have RS := BL.out.size
          replace BL := Lib.hid (w_alloc BL.out (ptO ⟨#[]⟩ none 0 0))
          refine hK.out _ _ (SO.out _ BL.out) (fun _ => ?_)
          clear hK K
          simp only [Act.put, List.getElem_toArray, List.getElem_cons_succ, List.getElem_cons_zero, List.setIfInBounds_toArray, List.set_cons_succ, List.set_cons_zero]
          obtain ⟨br, hbr⟩ : ∃ x, v3.heap.size = x := ⟨_, rfl⟩
          have RL := Lib.hid (show y0.heap.size ≤ br by rw [← hbr]; exact RS)
          clear RS
          rw [hbr] at HR ⊢
          generalize v3.alloc (ptO ⟨#[]⟩ none 0 0) = v4 at *
          clear hbr
          refine wpAnyH_ready (rs := [14]) (by kernel_rfl) (by simp) ?_
          refine AllReadyH.cons rfl (fun K hK => ?_) (AllReadyH.nil)
          refine step_append_sl rfl (.tmp 101) (.tmp 105) 38 rfl y0.heap.size 27 i0 (sgv zS) 17 128 Tryd.underlying38 hi0 hz0 hz1 hz2 rfl (by decide) (.slice pA1 (i + 1) kA1) (i + 1) (flatG (l.take i) ++ flatG [s]) (by kernel_rfl) RW.out (dropQ (some ⟨bq, oq, none⟩) c i) (l.length - i) (c - i) (flatG (l.drop i)) (by kernel_rfl) (FD.out.later BL.out) (by unfold maxLen; omega) (by omega) BL.out.size ?_
          intro u v5 hown hgrow
          replace HR := Lib.hid (HR.out.kept hgrow (own_ne RW.out HR.out (by decide)))
          replace BL := Lib.hid (BL.out.grown hgrow BL.out.size (fun j e => (RW.out.lt j e).1))
          replace RW := Lib.hid hown
          obtain ⟨pA2, kA2, rfl⟩ := own_val hown
          clear hown hgrow
          refine hK.out _ _ (SO.out _ BL.out) (fun _ => ?_)
          clear hK K
          simp only [Act.put, List.getElem_toArray, List.getElem_cons_succ, List.getElem_cons_zero, List.setIfInBounds_toArray, List.set_cons_succ, List.set_cons_zero]
          refine wpAnyH_take (i := 15) (v := .agg #[.string nm, .slice pA2 (i + 1 + (l.length - i)) kA2]) rfl (by kernel_rfl) (by kernel_rfl) (by kernel_rfl) (fun _ _ _ h => hp _ _ _ _ _ h) (run_yields _ (by kernel_rfl) (fun _ _ => by kernel_rfl)) (SO.out _ BL.out) ?_
          refine wpAnyH_ready (rs := [17]) (by kernel_rfl) (by simp) ?_
          refine AllReadyH.cons rfl (fun K hK => ?_) (AllReadyH.nil)
          refine step_storeTo rfl 40 (.tmp 15) (.tmp 107) rfl br #[.string nm, .slice pA2 (i + 1 + (l.length - i)) kA2] (by kernel_rfl) (by kernel_rfl) 40 #[.string ⟨#[]⟩, .slice none 0 0] HR.out part_size rfl (part_one _ _ _ _) ?_
          intro v6 h1 h2 h3
          replace RW := Lib.hid (own_rest RW.out (own_ne RW.out HR.out (by decide)) h3)
          replace BL := Lib.hid (h2 _ _ BL.out RL.out)
          replace HR := Lib.hid h1
          clear h1 h2 h3
          refine hK.out _ _ (SO.out _ BL.out) (fun _ => ?_)
          clear hK K
          simp only [Act.put, List.getElem_toArray, List.getElem_cons_succ, List.getElem_cons_zero]
          refine wpAnyH_done (by kernel_rfl) ?_ _
          rw [FL.out] at RW
          exact hQ _ (.slice p1 i k1) (.slice (some ⟨bt, 0, none⟩) 1 1) (.slice pA1 (i + 1) kA1) br pA2 kA2 _ (by kernel_rfl) HR (Lib.hid (own_sl RW.out LN.out)) (Lib.hid (w_below BY.out BL.out))
      · refine step_runTo rfl (.pointer (some ⟨v2.heap.size, 0, none⟩)) (v2.alloc (ptO ⟨#[]⟩ none 0 0)) (by kernel_rfl) ?_
        replace RW := Lib.hid (own_keep RW.out (w_alloc (w_refl _) (ptO ⟨#[]⟩ none 0 0)) (Nat.le_refl _))
        replace LT := Lib.hid (LT.out.later (w_alloc (w_refl _) (ptO ⟨#[]⟩ none 0 0)))
        have HR := Lib.hid (pt_new v2 ⟨#[]⟩ none 0 0)
        have RS := BL.out.size
        replace BL := Lib.hid (w_alloc BL.out (ptO ⟨#[]⟩ none 0 0))
        refine hK.out _ _ (SO.out _ BL.out) (fun _ => ?_)
        clear hK K
        simp only [Act.put, List.getElem_toArray, List.getElem_cons_succ, List.getElem_cons_zero, List.setIfInBounds_toArray, List.set_cons_succ, List.set_cons_zero]
        obtain ⟨br, hbr⟩ : ∃ x, v2.heap.size = x := ⟨_, rfl⟩
        have RL := Lib.hid (show y0.heap.size ≤ br by rw [← hbr]; exact RS)
        clear RS
        rw [hbr] at HR ⊢
        generalize v2.alloc (ptO ⟨#[]⟩ none 0 0) = v3 at *
        clear hbr
        refine wpAnyH_ready (rs := [9]) (by kernel_rfl) (by simp) ?_
        refine AllReadyH.cons rfl (fun K hK => ?_) (AllReadyH.nil)
        refine step_append_sl rfl (.tmp 98) (.tmp 100) 38 rfl y0.heap.size 27 i0 (sgv zS) 17 128 Tryd.underlying38 hi0 hz0 hz1 hz2 rfl (by decide) (.slice p1 i k1) (i) (flatG (l.take i)) (by kernel_rfl) RW.out (some ⟨bt, 0, none⟩) (1) (1) (flatG [s]) (by kernel_rfl) LT.out (by unfold maxLen; omega) (by omega) BL.out.size ?_
        intro u v4 hown hgrow
        replace HR := Lib.hid (HR.out.kept hgrow (own_ne RW.out HR.out (by decide)))
        replace BL := Lib.hid (BL.out.grown hgrow BL.out.size (fun j e => (RW.out.lt j e).1))
        replace RW := Lib.hid hown
        obtain ⟨pA1, kA1, rfl⟩ := own_val hown
        clear hown hgrow LT
        refine hK.out _ _ (SO.out _ BL.out) (fun _ => ?_)
        clear hK K
        simp only [Act.put, List.getElem_toArray, List.getElem_cons_succ, List.getElem_cons_zero, List.setIfInBounds_toArray, List.set_cons_succ, List.set_cons_zero]
        refine wpAnyH_ready (rs := [14]) (by kernel_rfl) (by simp) ?_
        refine AllReadyH.cons rfl (fun K hK => ?_) (AllReadyH.nil)
        refine step_append_sl rfl (.tmp 101) (.tmp 105) 38 rfl y0.heap.size 27 i0 (sgv zS) 17 128 Tryd.underlying38 hi0 hz0 hz1 hz2 rfl (by decide) (.slice pA1 (i + 1) kA1) (i + 1) (flatG (l.take i) ++ flatG [s]) (by kernel_rfl) RW.out (dropQ (some ⟨bq, oq, none⟩) c i) (l.length - i) (c - i) (flatG (l.drop i)) (by kernel_rfl) (FD.out.later BL.out) (by unfold maxLen; omega) (by omega) BL.out.size ?_
        intro u v5 hown hgrow
        replace HR := Lib.hid (HR.out.kept hgrow (own_ne RW.out HR.out (by decide)))
        replace BL := Lib.hid (BL.out.grown hgrow BL.out.size (fun j e => (RW.out.lt j e).1))
        replace RW := Lib.hid hown
        obtain ⟨pA2, kA2, rfl⟩ := own_val hown
        clear hown hgrow
        refine hK.out _ _ (SO.out _ BL.out) (fun _ => ?_)
        clear hK K
        simp only [Act.put, List.getElem_toArray, List.getElem_cons_succ, List.getElem_cons_zero, List.setIfInBounds_toArray, List.set_cons_succ, List.set_cons_zero]
        refine wpAnyH_take (i := 15) (v := .agg #[.string nm, .slice pA2 (i + 1 + (l.length - i)) kA2]) rfl (by kernel_rfl) (by kernel_rfl) (by kernel_rfl) (fun _ _ _ h => hp _ _ _ _ _ h) (run_yields _ (by kernel_rfl) (fun _ _ => by kernel_rfl)) (SO.out _ BL.out) ?_
        refine wpAnyH_ready (rs := [17]) (by kernel_rfl) (by simp) ?_
        refine AllReadyH.cons rfl (fun K hK => ?_) (AllReadyH.nil)
        refine step_storeTo rfl 40 (.tmp 15) (.tmp 107) rfl br #[.string nm, .slice pA2 (i + 1 + (l.length - i)) kA2] (by kernel_rfl) (by kernel_rfl) 40 #[.string ⟨#[]⟩, .slice none 0 0] HR.out part_size rfl (part_one _ _ _ _) ?_
        intro v6 h1 h2 h3
        replace RW := Lib.hid (own_rest RW.out (own_ne RW.out HR.out (by decide)) h3)
        replace BL := Lib.hid (h2 _ _ BL.out RL.out)
        replace HR := Lib.hid h1
        clear h1 h2 h3
        refine hK.out _ _ (SO.out _ BL.out) (fun _ => ?_)
        clear hK K
        simp only [Act.put, List.getElem_toArray, List.getElem_cons_succ, List.getElem_cons_zero]
        refine wpAnyH_done (by kernel_rfl) ?_ _
        rw [FL.out] at RW
        exact hQ _ (.slice p1 i k1) (.slice (some ⟨bt, 0, none⟩) 1 1) (.slice pA1 (i + 1) kA1) br pA2 kA2 _ (by kernel_rfl) HR (Lib.hid (own_sl RW.out LN.out)) (Lib.hid (w_below BY.out BL.out))
    · refine step_runTo rfl (.pointer (some ⟨v1.heap.size, 0, none⟩)) (v1.alloc (ptO ⟨#[]⟩ none 0 0)) (by kernel_rfl) ?_
      replace RW := Lib.hid (own_keep RW.out (w_alloc (w_refl _) (ptO ⟨#[]⟩ none 0 0)) (Nat.le_refl _))
      have HR := Lib.hid (pt_new v1 ⟨#[]⟩ none 0 0)
      have RS := BL.out.size
      replace BL := Lib.hid (w_alloc BL.out (ptO ⟨#[]⟩ none 0 0))
      refine hK.out _ _ (SO.out _ BL.out) (fun _ => ?_)
      clear hK K
      simp only [Act.put, List.getElem_toArray, List.getElem_cons_succ, List.getElem_cons_zero, List.setIfInBounds_toArray, List.set_cons_succ, List.set_cons_zero]
      obtain ⟨br, hbr⟩ : ∃ x, v1.heap.size = x := ⟨_, rfl⟩
      have RL := Lib.hid (show y0.heap.size ≤ br by rw [← hbr]; exact RS)
      clear RS
      rw [hbr] at HR ⊢
      generalize v1.alloc (ptO ⟨#[]⟩ none 0 0) = v2 at *
      clear hbr
      refine wpAnyH_ready (rs := [8]) (by kernel_rfl) (by simp) ?_
      refine AllReadyH.cons rfl (fun K hK => ?_) (AllReadyH.nil)
      refine step_lit rfl (.tmp 99) rfl s (by kernel_rfl) ?_
      replace RW := Lib.hid (own_keep RW.out (w_alloc (w_refl _) (sgO s)) (Nat.le_refl _))
      replace HR := Lib.hid (HR.out.later (w_alloc (w_refl _) (sgO s)))
      have LT := Lib.hid (one_sg v2 s)
      replace BL := Lib.hid (w_alloc BL.out (sgO s))
      refine hK.out _ _ (SO.out _ BL.out) (fun _ => ?_)
      clear hK K
      simp only [Act.put, List.getElem_toArray, List.getElem_cons_succ, List.getElem_cons_zero, List.setIfInBounds_toArray, List.set_cons_succ, List.set_cons_zero]
      obtain ⟨bt, hbt⟩ : ∃ x, v2.heap.size = x := ⟨_, rfl⟩
      rw [hbt] at LT ⊢
      generalize v2.alloc (sgO s) = v3 at *
      clear hbt
      refine wpAnyH_ready (rs := [9]) (by kernel_rfl) (by simp) ?_
      refine AllReadyH.cons rfl (fun K hK => ?_) (AllReadyH.nil)
      refine step_append_sl rfl (.tmp 98) (.tmp 100) 38 rfl y0.heap.size 27 i0 (sgv zS) 17 128 Tryd.underlying38 hi0 hz0 hz1 hz2 rfl (by decide) (.slice p1 i k1) (i) (flatG (l.take i)) (by kernel_rfl) RW.out (some ⟨bt, 0, none⟩) (1) (1) (flatG [s]) (by kernel_rfl) LT.out (by unfold maxLen; omega) (by omega) BL.out.size ?_
      intro u v4 hown hgrow
      replace HR := Lib.hid (HR.out.kept hgrow (own_ne RW.out HR.out (by decide)))
      replace BL := Lib.hid (BL.out.grown hgrow BL.out.size (fun j e => (RW.out.lt j e).1))
      replace RW := Lib.hid hown
      obtain ⟨pA1, kA1, rfl⟩ := own_val hown
      clear hown hgrow LT
      refine hK.out _ _ (SO.out _ BL.out) (fun _ => ?_)
      clear hK K
      simp only [Act.put, List.getElem_toArray, List.getElem_cons_succ, List.getElem_cons_zero, List.setIfInBounds_toArray, List.set_cons_succ, List.set_cons_zero]
      refine wpAnyH_ready (rs := [14]) (by kernel_rfl) (by simp) ?_
      refine AllReadyH.cons rfl (fun K hK => ?_) (AllReadyH.nil)
      refine step_append_sl rfl (.tmp 101) (.tmp 105) 38 rfl y0.heap.size 27 i0 (sgv zS) 17 128 Tryd.underlying38 hi0 hz0 hz1 hz2 rfl (by decide) (.slice pA1 (i + 1) kA1) (i + 1) (flatG (l.take i) ++ flatG [s]) (by kernel_rfl) RW.out (dropQ (some ⟨bq, oq, none⟩) c i) (l.length - i) (c - i) (flatG (l.drop i)) (by kernel_rfl) (FD.out.later BL.out) (by unfold maxLen; omega) (by omega) BL.out.size ?_
      intro u v5 hown hgrow
      replace HR := Lib.hid (HR.out.kept hgrow (own_ne RW.out HR.out (by decide)))
      replace BL := Lib.hid (BL.out.grown hgrow BL.out.size (fun j e => (RW.out.lt j e).1))
      replace RW := Lib.hid hown
      obtain ⟨pA2, kA2, rfl⟩ := own_val hown
      clear hown hgrow
      refine hK.out _ _ (SO.out _ BL.out) (fun _ => ?_)
      clear hK K
      simp only [Act.put, List.getElem_toArray, List.getElem_cons_succ, List.getElem_cons_zero, List.setIfInBounds_toArray, List.set_cons_succ, List.set_cons_zero]
      refine wpAnyH_take (i := 15) (v := .agg #[.string nm, .slice pA2 (i + 1 + (l.length - i)) kA2]) rfl (by kernel_rfl) (by kernel_rfl) (by kernel_rfl) (fun _ _ _ h => hp _ _ _ _ _ h) (run_yields _ (by kernel_rfl) (fun _ _ => by kernel_rfl)) (SO.out _ BL.out) ?_
      refine wpAnyH_ready (rs := [17]) (by kernel_rfl) (by simp) ?_
      refine AllReadyH.cons rfl (fun K hK => ?_) (AllReadyH.nil)
      refine step_storeTo rfl 40 (.tmp 15) (.tmp 107) rfl br #[.string nm, .slice pA2 (i + 1 + (l.length - i)) kA2] (by kernel_rfl) (by kernel_rfl) 40 #[.string ⟨#[]⟩, .slice none 0 0] HR.out part_size rfl (part_one _ _ _ _) ?_
      intro v6 h1 h2 h3
      replace RW := Lib.hid (own_rest RW.out (own_ne RW.out HR.out (by decide)) h3)
      replace BL := Lib.hid (h2 _ _ BL.out RL.out)
      replace HR := Lib.hid h1
      clear h1 h2 h3
      refine hK.out _ _ (SO.out _ BL.out) (fun _ => ?_)
      clear hK K
      simp only [Act.put, List.getElem_toArray, List.getElem_cons_succ, List.getElem_cons_zero]
      refine wpAnyH_done (by kernel_rfl) ?_ _
      rw [FL.out] at RW
      exact hQ _ (.slice p1 i k1) (.slice (some ⟨bt, 0, none⟩) 1 1) (.slice pA1 (i + 1) kA1) br pA2 kA2 _ (by kernel_rfl) HR (Lib.hid (own_sl RW.out LN.out)) (Lib.hid (w_below BY.out BL.out))
  · refine step_lit rfl (.tmp 99) rfl s (by kernel_rfl) ?_
    have LT := Lib.hid (one_sg y0 s)
    replace BL := Lib.hid (w_alloc BL.out (sgO s))
    refine hK.out _ _ (SO.out _ BL.out) (fun _ => ?_)
    clear hK K
    simp only [Act.put, List.getElem_toArray, List.getElem_cons_succ, List.getElem_cons_zero, List.setIfInBounds_toArray, List.set_cons_succ, List.set_cons_zero]
    obtain ⟨bt, hbt⟩ : ∃ x, y0.heap.size = x := ⟨_, rfl⟩
    rw [hbt] at LT ⊢
    generalize y0.alloc (sgO s) = v1 at *
    clear hbt
    refine wpAnyH_ready (rs := [6, 16]) (by kernel_rfl) (by simp) ?_
    refine AllReadyH.cons rfl (fun K hK => ?_) (AllReadyH.cons rfl (fun K hK => ?_) (AllReadyH.nil))
    · refine step_callTo rfl 39 #[.slice (some ⟨bq, oq, none⟩) i c] (by kernel_rfl) ((OS.out _ (FT.out.later BL.out)).mono ?_)
      rintro e v2 ⟨v, rfl, ho⟩
      obtain ⟨p1, k1, rfl⟩ := ho.val
      have RW := Lib.hid (own_base ho.row BL.out.size)
      replace LT := Lib.hid (LT.out.later ho.bel)
      replace BL := Lib.hid (w_below BL.out ho.bel)
      clear ho
      refine ⟨_, rfl, ?_⟩
      refine hK.out _ _ (SO.out _ BL.out) (fun _ => ?_)
      clear hK K
      simp only [Act.put, List.getElem_toArray, List.getElem_cons_succ, List.getElem_cons_zero, List.setIfInBounds_toArray, List.set_cons_succ, List.set_cons_zero]
      refine wpAnyH_ready (rs := [9, 16]) (by kernel_rfl) (by simp) ?_
      refine AllReadyH.cons rfl (fun K hK => ?_) (AllReadyH.cons rfl (fun K hK => ?_) (AllReadyH.nil))
      · refine step_append_sl rfl (.tmp 98) (.tmp 100) 38 rfl y0.heap.size 27 i0 (sgv zS) 17 128 Tryd.underlying38 hi0 hz0 hz1 hz2 rfl (by decide) (.slice p1 i k1) (i) (flatG (l.take i)) (by kernel_rfl) RW.out (some ⟨bt, 0, none⟩) (1) (1) (flatG [s]) (by kernel_rfl) LT.out (by unfold maxLen; omega) (by omega) BL.out.size ?_
        intro u v3 hown hgrow
        replace BL := Lib.hid (BL.out.grown hgrow BL.out.size (fun j e => (RW.out.lt j e).1))
        replace RW := Lib.hid hown
        obtain ⟨pA1, kA1, rfl⟩ := own_val hown
        clear hown hgrow LT
        refine hK.out _ _ (SO.out _ BL.out) (fun _ => ?_)
        clear hK K
        simp only [Act.put, List.getElem_toArray, List.getElem_cons_succ, List.getElem_cons_zero, List.setIfInBounds_toArray, List.set_cons_succ, List.set_cons_zero]
        refine wpAnyH_ready (rs := [14, 16]) (by kernel_rfl) (by simp) ?_
        refine AllReadyH.cons rfl (fun K hK => ?_) (AllReadyH.cons rfl (fun K hK => ?_) (AllReadyH.nil))
        · refine step_append_sl rfl (.tmp 101) (.tmp 105) 38 rfl y0.heap.size 27 i0 (sgv zS) 17 128 Tryd.underlying38 hi0 hz0 hz1 hz2 rfl (by decide) (.slice pA1 (i + 1) kA1) (i + 1) (flatG (l.take i) ++ flatG [s]) (by kernel_rfl) RW.out (dropQ (some ⟨bq, oq, none⟩) c i) (l.length - i) (c - i) (flatG (l.drop i)) (by kernel_rfl) (FD.out.later BL.out) (by unfold maxLen; omega) (by omega) BL.out.size ?_
          intro u v4 hown hgrow
          replace BL := Lib.hid (BL.out.grown hgrow BL.out.size (fun j e => (RW.out.lt j e).1))
          replace RW := Lib.hid hown
          obtain ⟨pA2, kA2, rfl⟩ := own_val hown
          clear hown hgrow
          refine hK.out _ _ (SO.out _ BL.out) (fun _ => ?_)
          clear hK K
          simp only [Act.put, List.getElem_toArray, List.getElem_cons_succ, List.getElem_cons_zero, List.setIfInBounds_toArray, List.set_cons_succ, List.set_cons_zero]
          refine wpAnyH_take (i := 15) (v := .agg #[.string nm, .slice pA2 (i + 1 + (l.length - i)) kA2]) rfl (by kernel_rfl) (by kernel_rfl) (by kernel_rfl) (fun _ _ _ h => hp _ _ _ _ _ h) (run_yields _ (by kernel_rfl) (fun _ _ => by kernel_rfl)) (SO.out _ BL.out) ?_
          refine wpAnyH_ready (rs := [16]) (by kernel_rfl) (by simp) ?_
          refine AllReadyH.cons rfl (fun K hK => ?_) (AllReadyH.nil)
          refine step_runTo rfl (.pointer (some ⟨v4.heap.size, 0, none⟩)) (v4.alloc (ptO ⟨#[]⟩ none 0 0)) (by kernel_rfl) ?_
          replace RW := Lib.hid (own_keep RW.out (w_alloc (w_refl _) (ptO ⟨#[]⟩ none 0 0)) (Nat.le_refl _))
          have HR := Lib.hid (pt_new v4 ⟨#[]⟩ none 0 0)
          have RS := BL.out.size
          replace BL := Lib.hid (w_alloc BL.out (ptO ⟨#[]⟩ none 0 0))
          refine hK.out _ _ (SO.out _ BL.out) (fun _ => ?_)
          clear hK K
          simp only [Act.put, List.getElem_toArray, List.getElem_cons_succ, List.getElem_cons_zero, List.setIfInBounds_toArray, List.set_cons_succ, List.set_cons_zero]
          obtain ⟨br, hbr⟩ : ∃ x, v4.heap.size = x := ⟨_, rfl⟩
          have RL := Lib.hid (show y0.heap.size ≤ br by rw [← hbr]; exact RS)
          clear RS
          rw [hbr] at HR ⊢
          generalize v4.alloc (ptO ⟨#[]⟩ none 0 0) = v5 at *
          clear hbr
          refine wpAnyH_ready (rs := [17]) (by kernel_rfl) (by simp) ?_
          refine AllReadyH.cons rfl (fun K hK => ?_) (AllReadyH.nil)
          refine step_storeTo rfl 40 (.tmp 15) (.tmp 107) rfl br #[.string nm, .slice pA2 (i + 1 + (l.length - i)) kA2] (by kernel_rfl) (by kernel_rfl) 40 #[.string ⟨#[]⟩, .slice none 0 0] HR.out part_size rfl (part_one _ _ _ _) ?_
          intro v6 h1 h2 h3
          replace RW := Lib.hid (own_rest RW.out (own_ne RW.out HR.out (by decide)) h3)
          replace BL := Lib.hid (h2 _ _ BL.out RL.out)
          replace HR := Lib.hid h1
          clear h1 h2 h3
          refine hK.out _ _ (SO.out _ BL.out) (fun _ => ?_)
          clear hK K
          simp only [Act.put, List.getElem_toArray, List.getElem_cons_succ, List.getElem_cons_zero]
          refine wpAnyH_done (by kernel_rfl) ?_ _
          rw [FL.out] at RW
          exact hQ _ (.slice p1 i k1) (.slice (some ⟨bt, 0, none⟩) 1 1) (.slice pA1 (i + 1) kA1) br pA2 kA2 _ (by kernel_rfl) HR (Lib.hid (own_sl RW.out LN.out)) (Lib.hid (w_below BY.out BL.out))
        · refine step_runTo rfl (.pointer (some ⟨v3.heap.size, 0, none⟩)) (v3.alloc (ptO ⟨#[]⟩ none 0 0)) (by kernel_rfl) ?_
          replace RW := Lib.hid (own_keep RW.out (w_alloc (w_refl _) (ptO ⟨#[]⟩ none 0 0)) (Nat.le_refl _))
          have HR := Lib.hid (pt_new v3 ⟨#[]⟩ none 0 0)
          have RS := BL.out.size
          replace BL := Lib.hid (w_alloc BL.out (ptO ⟨#[]⟩ none 0 0))
          refine hK.out _ _ (SO.out _ BL.out) (fun _ => ?_)
          clear hK K
          simp only [Act.put, List.getElem_toArray, List.getElem_cons_succ, List.getElem_cons_zero, List.setIfInBounds_toArray, List.set_cons_succ, List.set_cons_zero]
          obtain ⟨br, hbr⟩ : ∃ x, v3.heap.size = x := ⟨_, rfl⟩
          have RL := Lib.hid (show y0.heap.size ≤ br by rw [← hbr]; exact RS)
          clear RS
          rw [hbr] at HR ⊢
          generalize v3.alloc (ptO ⟨#[]⟩ none 0 0) = v4 at *
          clear hbr
          refine wpAnyH_ready (rs := [14]) (by kernel_rfl) (by simp) ?_
          refine AllReadyH.cons rfl (fun K hK => ?_) (AllReadyH.nil)
          refine step_append_sl rfl (.tmp 101) (.tmp 105) 38 rfl y0.heap.size 27 i0 (sgv zS) 17 128 Tryd.underlying38 hi0 hz0 hz1 hz2 rfl (by decide) (.slice pA1 (i + 1) kA1) (i + 1) (flatG (l.take i) ++ flatG [s]) (by kernel_rfl) RW.out (dropQ (some ⟨bq, oq, none⟩) c i) (l.length - i) (c - i) (flatG (l.drop i)) (by kernel_rfl) (FD.out.later BL.out) (by unfold maxLen; omega) (by omega) BL.out.size ?_
          intro u v5 hown hgrow
          replace HR := Lib.hid (HR.out.kept hgrow (own_ne RW.out HR.out (by decide)))
          replace BL := Lib.hid (BL.out.grown hgrow BL.out.size (fun j e => (RW.out.lt j e).1))
          replace RW := Lib.hid hown
          obtain ⟨pA2, kA2, rfl⟩ := own_val hown
          clear hown hgrow
          refine hK.out _ _ (SO.out _ BL.out) (fun _ => ?_)
          clear hK K
          simp only [Act.put, List.getElem_toArray, List.getElem_cons_succ, List.getElem_cons_zero, List.setIfInBounds_toArray, List.set_cons_succ, List.set_cons_zero]
          refine wpAnyH_take (i := 15) (v := .agg #[.string nm, .slice pA2 (i + 1 + (l.length - i)) kA2]) rfl (by kernel_rfl) (by kernel_rfl) (by kernel_rfl) (fun _ _ _ h => hp _ _ _ _ _ h) (run_yields _ (by kernel_rfl) (fun _ _ => by kernel_rfl)) (SO.out _ BL.out) ?_
          refine wpAnyH_ready (rs := [17]) (by kernel_rfl) (by simp) ?_
          refine AllReadyH.cons rfl (fun K hK => ?_) (AllReadyH.nil)
          refine step_storeTo rfl 40 (.tmp 15) (.tmp 107) rfl br #[.string nm, .slice pA2 (i + 1 + (l.length - i)) kA2] (by kernel_rfl) (by kernel_rfl) 40 #[.string ⟨#[]⟩, .slice none 0 0] HR.out part_size rfl (part_one _ _ _ _) ?_
          intro v6 h1 h2 h3
          replace RW := Lib.hid (own_rest RW.out (own_ne RW.out HR.out (by decide)) h3)
          replace BL := Lib.hid (h2 _ _ BL.out RL.out)
          replace HR := Lib.hid h1
          clear h1 h2 h3
          refine hK.out _ _ (SO.out _ BL.out) (fun _ => ?_)
          clear hK K
          simp only [Act.put, List.getElem_toArray, List.getElem_cons_succ, List.getElem_cons_zero]
          refine wpAnyH_done (by kernel_rfl) ?_ _
          rw [FL.out] at RW
          exact hQ _ (.slice p1 i k1) (.slice (some ⟨bt, 0, none⟩) 1 1) (.slice pA1 (i + 1) kA1) br pA2 kA2 _ (by kernel_rfl) HR (Lib.hid (own_sl RW.out LN.out)) (Lib.hid (w_below BY.out BL.out))
      · refine step_runTo rfl (.pointer (some ⟨v2.heap.size, 0, none⟩)) (v2.alloc (ptO ⟨#[]⟩ none 0 0)) (by kernel_rfl) ?_
        replace RW := Lib.hid (own_keep RW.out (w_alloc (w_refl _) (ptO ⟨#[]⟩ none 0 0)) (Nat.le_refl _))
        replace LT := Lib.hid (LT.out.later (w_alloc (w_refl _) (ptO ⟨#[]⟩ none 0 0)))
        have HR := Lib.hid (pt_new v2 ⟨#[]⟩ none 0 0)
        have RS := BL.out.size
        replace BL := Lib.hid (w_alloc BL.out (ptO ⟨#[]⟩ none 0 0))
        refine hK.out _ _ (SO.out _ BL.out) (fun _ => ?_)
        clear hK K
        simp only [Act.put, List.getElem_toArray, List.getElem_cons_succ, List.getElem_cons_zero, List.setIfInBounds_toArray, List.set_cons_succ, List.set_cons_zero]
        obtain ⟨br, hbr⟩ : ∃ x, v2.heap.size = x := ⟨_, rfl⟩
        have RL := Lib.hid (show y0.heap.size ≤ br by rw [← hbr]; exact RS)
        clear RS
        rw [hbr] at HR ⊢
        generalize v2.alloc (ptO ⟨#[]⟩ none 0 0) = v3 at *
        clear hbr
        refine wpAnyH_ready (rs := [9]) (by kernel_rfl) (by simp) ?_
        refine AllReadyH.cons rfl (fun K hK => ?_) (AllReadyH.nil)
        refine step_append_sl rfl (.tmp 98) (.tmp 100) 38 rfl y0.heap.size 27 i0 (sgv zS) 17 128 Tryd.underlying38 hi0 hz0 hz1 hz2 rfl (by decide) (.slice p1 i k1) (i) (flatG (l.take i)) (by kernel_rfl) RW.out (some ⟨bt, 0, none⟩) (1) (1) (flatG [s]) (by kernel_rfl) LT.out (by unfold maxLen; omega) (by omega) BL.out.size ?_
        intro u v4 hown hgrow
        replace HR := Lib.hid (HR.out.kept hgrow (own_ne RW.out HR.out (by decide)))
        replace BL := Lib.hid (BL.out.grown hgrow BL.out.size (fun j e => (RW.out.lt j e).1))
        replace RW := Lib.hid hown
        obtain ⟨pA1, kA1, rfl⟩ := own_val hown
        clear hown hgrow LT
        refine hK.out _ _ (SO.out _ BL.out) (fun _ => ?_)
        clear hK K
        simp only [Act.put, List.getElem_toArray, List.getElem_cons_succ, List.getElem_cons_zero, List.setIfInBounds_toArray, List.set_cons_succ, List.set_cons_zero]
        refine wpAnyH_ready (rs := [14]) (by kernel_rfl) (by simp) ?_
        refine AllReadyH.cons rfl (fun K hK => ?_) (AllReadyH.nil)
        refine step_append_sl rfl (.tmp 101) (.tmp 105) 38 rfl y0.heap.size 27 i0 (sgv zS) 17 128 Tryd.underlying38 hi0 hz0 hz1 hz2 rfl (by decide) (.slice pA1 (i + 1) kA1) (i + 1) (flatG (l.take i) ++ flatG [s]) (by kernel_rfl) RW.out (dropQ (some ⟨bq, oq, none⟩) c i) (l.length - i) (c - i) (flatG (l.drop i)) (by kernel_rfl) (FD.out.later BL.out) (by unfold maxLen; omega) (by omega) BL.out.size ?_
        intro u v5 hown hgrow
        replace HR := Lib.hid (HR.out.kept hgrow (own_ne RW.out HR.out (by decide)))
        replace BL := Lib.hid (BL.out.grown hgrow BL.out.size (fun j e => (RW.out.lt j e).1))
        replace RW := Lib.hid hown
        obtain ⟨pA2, kA2, rfl⟩ := own_val hown
        clear hown hgrow
        refine hK.out _ _ (SO.out _ BL.out) (fun _ => ?_)
        clear hK K
        simp only [Act.put, List.getElem_toArray, List.getElem_cons_succ, List.getElem_cons_zero, List.setIfInBounds_toArray, List.set_cons_succ, List.set_cons_zero]
        refine wpAnyH_take (i := 15) (v := .agg #[.string nm, .slice pA2 (i + 1 + (l.length - i)) kA2]) rfl (by kernel_rfl) (by kernel_rfl) (by kernel_rfl) (fun _ _ _ h => hp _ _ _ _ _ h) (run_yields _ (by kernel_rfl) (fun _ _ => by kernel_rfl)) (SO.out _ BL.out) ?_
        refine wpAnyH_ready (rs := [17]) (by kernel_rfl) (by simp) ?_
        refine AllReadyH.cons rfl (fun K hK => ?_) (AllReadyH.nil)
        refine step_storeTo rfl 40 (.tmp 15) (.tmp 107) rfl br #[.string nm, .slice pA2 (i + 1 + (l.length - i)) kA2] (by kernel_rfl) (by kernel_rfl) 40 #[.string ⟨#[]⟩, .slice none 0 0] HR.out part_size rfl (part_one _ _ _ _) ?_
        intro v6 h1 h2 h3
        replace RW := Lib.hid (own_rest RW.out (own_ne RW.out HR.out (by decide)) h3)
        replace BL := Lib.hid (h2 _ _ BL.out RL.out)
        replace HR := Lib.hid h1
        clear h1 h2 h3
        refine hK.out _ _ (SO.out _ BL.out) (fun _ => ?_)
        clear hK K
        simp only [Act.put, List.getElem_toArray, List.getElem_cons_succ, List.getElem_cons_zero]
        refine wpAnyH_done (by kernel_rfl) ?_ _
        rw [FL.out] at RW
        exact hQ _ (.slice p1 i k1) (.slice (some ⟨bt, 0, none⟩) 1 1) (.slice pA1 (i + 1) kA1) br pA2 kA2 _ (by kernel_rfl) HR (Lib.hid (own_sl RW.out LN.out)) (Lib.hid (w_below BY.out BL.out))
    · refine step_runTo rfl (.pointer (some ⟨v1.heap.size, 0, none⟩)) (v1.alloc (ptO ⟨#[]⟩ none 0 0)) (by kernel_rfl) ?_
      replace LT := Lib.hid (LT.out.later (w_alloc (w_refl _) (ptO ⟨#[]⟩ none 0 0)))
      have HR := Lib.hid (pt_new v1 ⟨#[]⟩ none 0 0)
      have RS := BL.out.size
      replace BL := Lib.hid (w_alloc BL.out (ptO ⟨#[]⟩ none 0 0))
      refine hK.out _ _ (SO.out _ BL.out) (fun _ => ?_)
      clear hK K
      simp only [Act.put, List.getElem_toArray, List.getElem_cons_succ, List.getElem_cons_zero, List.setIfInBounds_toArray, List.set_cons_succ, List.set_cons_zero]
      obtain ⟨br, hbr⟩ : ∃ x, v1.heap.size = x := ⟨_, rfl⟩
      have RL := Lib.hid (show y0.heap.size ≤ br by rw [← hbr]; exact RS)
      clear RS
      rw [hbr] at HR ⊢
      generalize v1.alloc (ptO ⟨#[]⟩ none 0 0) = v2 at *
      clear hbr
      refine wpAnyH_ready (rs := [6]) (by kernel_rfl) (by simp) ?_
      refine AllReadyH.cons rfl (fun K hK => ?_) (AllReadyH.nil)
      refine step_callTo rfl 39 #[.slice (some ⟨bq, oq, none⟩) i c] (by kernel_rfl) ((OS.out _ (FT.out.later BL.out)).mono ?_)
      rintro e v3 ⟨v, rfl, ho⟩
      obtain ⟨p1, k1, rfl⟩ := ho.val
      have RW := Lib.hid (own_base ho.row BL.out.size)
      replace HR := Lib.hid (HR.out.later ho.bel)
      replace LT := Lib.hid (LT.out.later ho.bel)
      replace BL := Lib.hid (w_below BL.out ho.bel)
      clear ho
      refine ⟨_, rfl, ?_⟩
      refine hK.out _ _ (SO.out _ BL.out) (fun _ => ?_)
      clear hK K
      simp only [Act.put, List.getElem_toArray, List.getElem_cons_succ, List.getElem_cons_zero, List.setIfInBounds_toArray, List.set_cons_succ, List.set_cons_zero]
      refine wpAnyH_ready (rs := [9]) (by kernel_rfl) (by simp) ?_
      refine AllReadyH.cons rfl (fun K hK => ?_) (AllReadyH.nil)
      refine step_append_sl rfl (.tmp 98) (.tmp 100) 38 rfl y0.heap.size 27 i0 (sgv zS) 17 128 Tryd.underlying38 hi0 hz0 hz1 hz2 rfl (by decide) (.slice p1 i k1) (i) (flatG (l.take i)) (by kernel_rfl) RW.out (some ⟨bt, 0, none⟩) (1) (1) (flatG [s]) (by kernel_rfl) LT.out (by unfold maxLen; omega) (by omega) BL.out.size ?_
      intro u v4 hown hgrow
      replace HR := Lib.hid (HR.out.kept hgrow (own_ne RW.out HR.out (by decide)))
      replace BL := Lib.hid (BL.out.grown hgrow BL.out.size (fun j e => (RW.out.lt j e).1))
      replace RW := Lib.hid hown
      obtain ⟨pA1, kA1, rfl⟩ := own_val hown
      clear hown hgrow LT
      refine hK.out _ _ (SO.out _ BL.out) (fun _ => ?_)
      clear hK K
      simp only [Act.put, List.getElem_toArray, List.getElem_cons_succ, List.getElem_cons_zero, List.setIfInBounds_toArray, List.set_cons_succ, List.set_cons_zero]
      refine wpAnyH_ready (rs := [14]) (by kernel_rfl) (by simp) ?_
      refine AllReadyH.cons rfl (fun K hK => ?_) (AllReadyH.nil)
      refine step_append_sl rfl (.tmp 101) (.tmp 105) 38 rfl y0.heap.size 27 i0 (sgv zS) 17 128 Tryd.underlying38 hi0 hz0 hz1 hz2 rfl (by decide) (.slice pA1 (i + 1) kA1) (i + 1) (flatG (l.take i) ++ flatG [s]) (by kernel_rfl) RW.out (dropQ (some ⟨bq, oq, none⟩) c i) (l.length - i) (c - i) (flatG (l.drop i)) (by kernel_rfl) (FD.out.later BL.out) (by unfold maxLen; omega) (by omega) BL.out.size ?_
      intro u v5 hown hgrow
      replace HR := Lib.hid (HR.out.kept hgrow (own_ne RW.out HR.out (by decide)))
      replace BL := Lib.hid (BL.out.grown hgrow BL.out.size (fun j e => (RW.out.lt j e).1))
      replace RW := Lib.hid hown
      obtain ⟨pA2, kA2, rfl⟩ := own_val hown
      clear hown hgrow
      refine hK.out _ _ (SO.out _ BL.out) (fun _ => ?_)
      clear hK K
      simp only [Act.put, List.getElem_toArray, List.getElem_cons_succ, List.getElem_cons_zero, List.setIfInBounds_toArray, List.set_cons_succ, List.set_cons_zero]
      refine wpAnyH_take (i := 15) (v := .agg #[.string nm, .slice pA2 (i + 1 + (l.length - i)) kA2]) rfl (by kernel_rfl) (by kernel_rfl) (by kernel_rfl) (fun _ _ _ h => hp _ _ _ _ _ h) (run_yields _ (by kernel_rfl) (fun _ _ => by kernel_rfl)) (SO.out _ BL.out) ?_
      refine wpAnyH_ready (rs := [17]) (by kernel_rfl) (by simp) ?_
      refine AllReadyH.cons rfl (fun K hK => ?_) (AllReadyH.nil)
      refine step_storeTo rfl 40 (.tmp 15) (.tmp 107) rfl br #[.string nm, .slice pA2 (i + 1 + (l.length - i)) kA2] (by kernel_rfl) (by kernel_rfl) 40 #[.string ⟨#[]⟩, .slice none 0 0] HR.out part_size rfl (part_one _ _ _ _) ?_
      intro v6 h1 h2 h3
      replace RW := Lib.hid (own_rest RW.out (own_ne RW.out HR.out (by decide)) h3)
      replace BL := Lib.hid (h2 _ _ BL.out RL.out)
      replace HR := Lib.hid h1
      clear h1 h2 h3
      refine hK.out _ _ (SO.out _ BL.out) (fun _ => ?_)
      clear hK K
      simp only [Act.put, List.getElem_toArray, List.getElem_cons_succ, List.getElem_cons_zero]
      refine wpAnyH_done (by kernel_rfl) ?_ _
      rw [FL.out] at RW
      exact hQ _ (.slice p1 i k1) (.slice (some ⟨bt, 0, none⟩) 1 1) (.slice pA1 (i + 1) kA1) br pA2 kA2 _ (by kernel_rfl) HR (Lib.hid (own_sl RW.out LN.out)) (Lib.hid (w_below BY.out BL.out))
  · refine step_runTo rfl (.pointer (some ⟨y0.heap.size, 0, none⟩)) (y0.alloc (ptO ⟨#[]⟩ none 0 0)) (by kernel_rfl) ?_
    have HR := Lib.hid (pt_new y0 ⟨#[]⟩ none 0 0)
    have RS := BL.out.size
    replace BL := Lib.hid (w_alloc BL.out (ptO ⟨#[]⟩ none 0 0))
    refine hK.out _ _ (SO.out _ BL.out) (fun _ => ?_)
    clear hK K
    simp only [Act.put, List.getElem_toArray, List.getElem_cons_succ, List.getElem_cons_zero, List.setIfInBounds_toArray, List.set_cons_succ, List.set_cons_zero]
    obtain ⟨br, hbr⟩ : ∃ x, y0.heap.size = x := ⟨_, rfl⟩
    have RL := Lib.hid (show y0.heap.size ≤ br by rw [← hbr]; exact RS)
    clear RS
    rw [hbr] at HR ⊢
    generalize y0.alloc (ptO ⟨#[]⟩ none 0 0) = v1 at *
    clear hbr
    refine wpAnyH_ready (rs := [6, 8]) (by kernel_rfl) (by simp) ?_
    refine AllReadyH.cons rfl (fun K hK => ?_) (AllReadyH.cons rfl (fun K hK => ?_) (AllReadyH.nil))
    · refine step_callTo rfl 39 #[.slice (some ⟨bq, oq, none⟩) i c] (by kernel_rfl) ((OS.out _ (FT.out.later BL.out)).mono ?_)
      rintro e v2 ⟨v, rfl, ho⟩
      obtain ⟨p1, k1, rfl⟩ := ho.val
      have RW := Lib.hid (own_base ho.row BL.out.size)
      replace HR := Lib.hid (HR.out.later ho.bel)
      replace BL := Lib.hid (w_below BL.out ho.bel)
      clear ho
      refine ⟨_, rfl, ?_⟩
      refine hK.out _ _ (SO.out _ BL.out) (fun _ => ?_)
      clear hK K
      simp only [Act.put, List.getElem_toArray, List.getElem_cons_succ, List.getElem_cons_zero, List.setIfInBounds_toArray, List.set_cons_succ, List.set_cons_zero]
      refine wpAnyH_ready (rs := [8]) (by kernel_rfl) (by simp) ?_
      refine AllReadyH.cons rfl (fun K hK => ?_) (AllReadyH.nil)
      refine step_lit rfl (.tmp 99) rfl s (by kernel_rfl) ?_
      replace RW := Lib.hid (own_keep RW.out (w_alloc (w_refl _) (sgO s)) (Nat.le_refl _))
      replace HR := Lib.hid (HR.out.later (w_alloc (w_refl _) (sgO s)))
      have LT := Lib.hid (one_sg v2 s)
      replace BL := Lib.hid (w_alloc BL.out (sgO s))
      refine hK.out _ _ (SO.out _ BL.out) (fun _ => ?_)
      clear hK K
      simp only [Act.put, List.getElem_toArray, List.getElem_cons_succ, List.getElem_cons_zero, List.setIfInBounds_toArray, List.set_cons_succ, List.set_cons_zero]
      obtain ⟨bt, hbt⟩ : ∃ x, v2.heap.size = x := ⟨_, rfl⟩
      rw [hbt] at LT ⊢
      generalize v2.alloc (sgO s) = v3 at *
      clear hbt
      refine wpAnyH_ready (rs := [9]) (by kernel_rfl) (by simp) ?_
      refine AllReadyH.cons rfl (fun K hK => ?_) (AllReadyH.nil)
      refine step_append_sl rfl (.tmp 98) (.tmp 100) 38 rfl y0.heap.size 27 i0 (sgv zS) 17 128 Tryd.underlying38 hi0 hz0 hz1 hz2 rfl (by decide) (.slice p1 i k1) (i) (flatG (l.take i)) (by kernel_rfl) RW.out (some ⟨bt, 0, none⟩) (1) (1) (flatG [s]) (by kernel_rfl) LT.out (by unfold maxLen; omega) (by omega) BL.out.size ?_
      intro u v4 hown hgrow
      replace HR := Lib.hid (HR.out.kept hgrow (own_ne RW.out HR.out (by decide)))
      replace BL := Lib.hid (BL.out.grown hgrow BL.out.size (fun j e => (RW.out.lt j e).1))
      replace RW := Lib.hid hown
      obtain ⟨pA1, kA1, rfl⟩ := own_val hown
      clear hown hgrow LT
      refine hK.out _ _ (SO.out _ BL.out) (fun _ => ?_)
      clear hK K
      simp only [Act.put, List.getElem_toArray, List.getElem_cons_succ, List.getElem_cons_zero, List.setIfInBounds_toArray, List.set_cons_succ, List.set_cons_zero]
      refine wpAnyH_ready (rs := [14]) (by kernel_rfl) (by simp) ?_
      refine AllReadyH.cons rfl (fun K hK => ?_) (AllReadyH.nil)
      refine step_append_sl rfl (.tmp 101) (.tmp 105) 38 rfl y0.heap.size 27 i0 (sgv zS) 17 128 Tryd.underlying38 hi0 hz0 hz1 hz2 rfl (by decide) (.slice pA1 (i + 1) kA1) (i + 1) (flatG (l.take i) ++ flatG [s]) (by kernel_rfl) RW.out (dropQ (some ⟨bq, oq, none⟩) c i) (l.length - i) (c - i) (flatG (l.drop i)) (by kernel_rfl) (FD.out.later BL.out) (by unfold maxLen; omega) (by omega) BL.out.size ?_
      intro u v5 hown hgrow
      replace HR := Lib.hid (HR.out.kept hgrow (own_ne RW.out HR.out (by decide)))
      replace BL := Lib.hid (BL.out.grown hgrow BL.out.size (fun j e => (RW.out.lt j e).1))
      replace RW := Lib.hid hown
      obtain ⟨pA2, kA2, rfl⟩ := own_val hown
      clear hown hgrow
      refine hK.out _ _ (SO.out _ BL.out) (fun _ => ?_)
      clear hK K
      simp only [Act.put, List.getElem_toArray, List.getElem_cons_succ, List.getElem_cons_zero, List.setIfInBounds_toArray, List.set_cons_succ, List.set_cons_zero]
      refine wpAnyH_take (i := 15) (v := .agg #[.string nm, .slice pA2 (i + 1 + (l.length - i)) kA2]) rfl (by kernel_rfl) (by kernel_rfl) (by kernel_rfl) (fun _ _ _ h => hp _ _ _ _ _ h) (run_yields _ (by kernel_rfl) (fun _ _ => by kernel_rfl)) (SO.out _ BL.out) ?_
      refine wpAnyH_ready (rs := [17]) (by kernel_rfl) (by simp) ?_
      refine AllReadyH.cons rfl (fun K hK => ?_) (AllReadyH.nil)
      refine step_storeTo rfl 40 (.tmp 15) (.tmp 107) rfl br #[.string nm, .slice pA2 (i + 1 + (l.length - i)) kA2] (by kernel_rfl) (by kernel_rfl) 40 #[.string ⟨#[]⟩, .slice none 0 0] HR.out part_size rfl (part_one _ _ _ _) ?_
      intro v6 h1 h2 h3
      replace RW := Lib.hid (own_rest RW.out (own_ne RW.out HR.out (by decide)) h3)
      replace BL := Lib.hid (h2 _ _ BL.out RL.out)
      replace HR := Lib.hid h1
      clear h1 h2 h3
      refine hK.out _ _ (SO.out _ BL.out) (fun _ => ?_)
      clear hK K
      simp only [Act.put, List.getElem_toArray, List.getElem_cons_succ, List.getElem_cons_zero]
      refine wpAnyH_done (by kernel_rfl) ?_ _
      rw [FL.out] at RW
      exact hQ _ (.slice p1 i k1) (.slice (some ⟨bt, 0, none⟩) 1 1) (.slice pA1 (i + 1) kA1) br pA2 kA2 _ (by kernel_rfl) HR (Lib.hid (own_sl RW.out LN.out)) (Lib.hid (w_below BY.out BL.out))
    · refine step_lit rfl (.tmp 99) rfl s (by kernel_rfl) ?_
      replace HR := Lib.hid (HR.out.later (w_alloc (w_refl _) (sgO s)))
      have LT := Lib.hid (one_sg v1 s)
      replace BL := Lib.hid (w_alloc BL.out (sgO s))
      refine hK.out _ _ (SO.out _ BL.out) (fun _ => ?_)
      clear hK K
      simp only [Act.put, List.getElem_toArray, List.getElem_cons_succ, List.getElem_cons_zero, List.setIfInBounds_toArray, List.set_cons_succ, List.set_cons_zero]
      obtain ⟨bt, hbt⟩ : ∃ x, v1.heap.size = x := ⟨_, rfl⟩
      rw [hbt] at LT ⊢
      generalize v1.alloc (sgO s) = v2 at *
      clear hbt
      refine wpAnyH_ready (rs := [6]) (by kernel_rfl) (by simp) ?_
      refine AllReadyH.cons rfl (fun K hK => ?_) (AllReadyH.nil)
      refine step_callTo rfl 39 #[.slice (some ⟨bq, oq, none⟩) i c] (by kernel_rfl) ((OS.out _ (FT.out.later BL.out)).mono ?_)
      rintro e v3 ⟨v, rfl, ho⟩
      obtain ⟨p1, k1, rfl⟩ := ho.val
      have RW := Lib.hid (own_base ho.row BL.out.size)
      replace HR := Lib.hid (HR.out.later ho.bel)
      replace LT := Lib.hid (LT.out.later ho.bel)
      replace BL := Lib.hid (w_below BL.out ho.bel)
      clear ho
      refine ⟨_, rfl, ?_⟩
      refine hK.out _ _ (SO.out _ BL.out) (fun _ => ?_)
      clear hK K
      simp only [Act.put, List.getElem_toArray, List.getElem_cons_succ, List.getElem_cons_zero, List.setIfInBounds_toArray, List.set_cons_succ, List.set_cons_zero]
      refine wpAnyH_ready (rs := [9]) (by kernel_rfl) (by simp) ?_
      refine AllReadyH.cons rfl (fun K hK => ?_) (AllReadyH.nil)
      refine step_append_sl rfl (.tmp 98) (.tmp 100) 38 rfl y0.heap.size 27 i0 (sgv zS) 17 128 Tryd.underlying38 hi0 hz0 hz1 hz2 rfl (by decide) (.slice p1 i k1) (i) (flatG (l.take i)) (by kernel_rfl) RW.out (some ⟨bt, 0, none⟩) (1) (1) (flatG [s]) (by kernel_rfl) LT.out (by unfold maxLen; omega) (by omega) BL.out.size ?_
      intro u v4 hown hgrow
      replace HR := Lib.hid (HR.out.kept hgrow (own_ne RW.out HR.out (by decide)))
      replace BL := Lib.hid (BL.out.grown hgrow BL.out.size (fun j e => (RW.out.lt j e).1))
      replace RW := Lib.hid hown
      obtain ⟨pA1, kA1, rfl⟩ := own_val hown
      clear hown hgrow LT
      refine hK.out _ _ (SO.out _ BL.out) (fun _ => ?_)
      clear hK K
      simp only [Act.put, List.getElem_toArray, List.getElem_cons_succ, List.getElem_cons_zero, List.setIfInBounds_toArray, List.set_cons_succ, List.set_cons_zero]
      refine wpAnyH_ready (rs := [14]) (by kernel_rfl) (by simp) ?_
      refine AllReadyH.cons rfl (fun K hK => ?_) (AllReadyH.nil)
      refine step_append_sl rfl (.tmp 101) (.tmp 105) 38 rfl y0.heap.size 27 i0 (sgv zS) 17 128 Tryd.underlying38 hi0 hz0 hz1 hz2 rfl (by decide) (.slice pA1 (i + 1) kA1) (i + 1) (flatG (l.take i) ++ flatG [s]) (by kernel_rfl) RW.out (dropQ (some ⟨bq, oq, none⟩) c i) (l.length - i) (c - i) (flatG (l.drop i)) (by kernel_rfl) (FD.out.later BL.out) (by unfold maxLen; omega) (by omega) BL.out.size ?_
      intro u v5 hown hgrow
      replace HR := Lib.hid (HR.out.kept hgrow (own_ne RW.out HR.out (by decide)))
      replace BL := Lib.hid (BL.out.grown hgrow BL.out.size (fun j e => (RW.out.lt j e).1))
      replace RW := Lib.hid hown
      obtain ⟨pA2, kA2, rfl⟩ := own_val hown
      clear hown hgrow
      refine hK.out _ _ (SO.out _ BL.out) (fun _ => ?_)
      clear hK K
      simp only [Act.put, List.getElem_toArray, List.getElem_cons_succ, List.getElem_cons_zero, List.setIfInBounds_toArray, List.set_cons_succ, List.set_cons_zero]
      refine wpAnyH_take (i := 15) (v := .agg #[.string nm, .slice pA2 (i + 1 + (l.length - i)) kA2]) rfl (by kernel_rfl) (by kernel_rfl) (by kernel_rfl) (fun _ _ _ h => hp _ _ _ _ _ h) (run_yields _ (by kernel_rfl) (fun _ _ => by kernel_rfl)) (SO.out _ BL.out) ?_
      refine wpAnyH_ready (rs := [17]) (by kernel_rfl) (by simp) ?_
      refine AllReadyH.cons rfl (fun K hK => ?_) (AllReadyH.nil)
      refine step_storeTo rfl 40 (.tmp 15) (.tmp 107) rfl br #[.string nm, .slice pA2 (i + 1 + (l.length - i)) kA2] (by kernel_rfl) (by kernel_rfl) 40 #[.string ⟨#[]⟩, .slice none 0 0] HR.out part_size rfl (part_one _ _ _ _) ?_
      intro v6 h1 h2 h3
      replace RW := Lib.hid (own_rest RW.out (own_ne RW.out HR.out (by decide)) h3)
      replace BL := Lib.hid (h2 _ _ BL.out RL.out)
      replace HR := Lib.hid h1
      clear h1 h2 h3
      refine hK.out _ _ (SO.out _ BL.out) (fun _ => ?_)
      clear hK K
      simp only [Act.put, List.getElem_toArray, List.getElem_cons_succ, List.getElem_cons_zero]
      refine wpAnyH_done (by kernel_rfl) ?_ _
      rw [FL.out] at RW
      exact hQ _ (.slice p1 i k1) (.slice (some ⟨bt, 0, none⟩) 1 1) (.slice pA1 (i + 1) kA1) br pA2 kA2 _ (by kernel_rfl) HR (Lib.hid (own_sl RW.out LN.out)) (Lib.hid (w_below BY.out BL.out))

set_option maxRecDepth 100000 in
set_option maxHeartbeats 16000000 in
theorem mv19 {Q : Exit → Act → World → Prop} {x0 x1 x2 x3 x4 x5 x6 x7 x9 x12 x13 x14 x15 x16 x17 x18 x19 x20 x21 x22 x23 x24 x25 x26 x27 x28 x29 x30 x31 x32 x33 x34 x35 x36 x37 x38 x39 x40 x41 x42 x43 x44 x45 x46 x47 x48 x49 x50 x51 x52 x53 x54 x55 x56 x57 x58 x59 x60 x61 x62 x63 x64 x65 x66 x67 x68 x69 x70 x71 x72 x73 x74 x75 x76 x77 x78 x79 x80 x81 x82 x83 x84 x85 x86 x87 x88 x89 x90 x91 x92 x93 x94 x95 x96 x97 x98 x99 x100 x101 x102 x103 x104 x105 x106 x107 x108 x109 x110 x111 x112 x113 x114 x115 x116 x117 x118 x119 x120 x121 x122 x123 x124 x125 x126 x127 x128 x129 x130 x131 x132 x133 x134 x135 x136 x137 x138 x139 x140 x141 x142 x143 x144 x145 x146 x147 x148 x149 x150 x151 x152 x153 x154 x155 x156 x157 x158 x159 x160 x161 : Value} {w y5 : World} {b8 b11 : Nat} {nm : ByteArray} {l : List Sg} {bq oq c i : Nat} (hp : ∀ (c : _) (a : Act) (d : Tmp) (v : Value) (w : World), Q (.panic c) (a.put (some d) v) w → Q (.panic c) a w) (FX : Hid (MvX w y5 b8 nm l (some ⟨bq, oq, none⟩) c)) (hi2 : i ≤ l.length) (fit : l.length ≤ c) (hl60 : l.length ≤ 60) (hlt : i < l.length)
    (hQ : ∀ (a' : Act) (v1 : Value) (br : Nat) (p5 : Option Addr) (k5 : Nat) (wc : World), a' = { tmps := #[x0, x1, x2, x3, x4, x5, x6, x7, .pointer (some ⟨b8, 0, none⟩), x9, .int .i64 (i : Int), .pointer (some ⟨b11, 0, none⟩), x12, x13, x14, x15, .pointer (some ⟨br, 0, none⟩), x17, x18, x19, x20, x21, x22, x23, x24, x25, x26, x27, x28, x29, x30, x31, x32, x33, x34, x35, x36, x37, x38, x39, x40, x41, x42, x43, x44, x45, x46, x47, x48, x49, x50, x51, x52, x53, x54, x55, x56, x57, x58, x59, x60, x61, x62, x63, x64, x65, x66, x67, x68, x69, x70, x71, x72, x73, x74, x75, x76, x77, x78, x79, x80, x81, x82, x83, x84, x85, x86, x87, x88, x89, x90, x91, x92, x93, x94, x95, x96, x97, x98, x99, x100, x101, x102, x103, x104, x105, x106, x107, x108, x109, x110, x111, x112, x113, x114, x115, x116, x117, x118, x119, x120, x121, x122, x123, x124, x125, x126, x127, x128, x129, x130, x131, x132, x133, .pointer (some ⟨b8, 0, none⟩), .string nm, .pointer (some ⟨b8, 1, none⟩), .slice (some ⟨bq, oq, none⟩) l.length c, .int .i64 (i : Int), .slice (some ⟨bq, oq, none⟩) i c, v1, .pointer (some ⟨b8, 1, none⟩), .slice (some ⟨bq, oq, none⟩) l.length c, .int .i64 (i : Int), .int .i64 ((i : Int) + 1), .slice (dropQ (some ⟨bq, oq, none⟩) c (i + 1)) (l.length - (i + 1)) (c - (i + 1)), .slice p5 (i + (l.length - (i + 1))) k5, .agg #[.string nm, .slice p5 (i + (l.length - (i + 1))) k5], x148, x149, x150, x151, x152, x153, x154, x155, x156, x157, x158, x159, x160, x161], defers := [] } → Hid (HoldsB wc br 40 #[.string nm, .slice p5 (i + (l.length - (i + 1))) k5]) → Hid (SlP wc 17 p5 (i + (l.length - (i + 1))) k5 (flatG (l.take i ++ l.drop (i + 1)))) → Hid (Below y5.heap.size y5 wc) → Q .normal a' wc) :
    (Code.region 19 #[{ dst := some 134, op := Op.fieldAddr 40 (Operand.tmp 8) 0, type := 0, pos := "law.go:167", after := #[], guard := none }, { dst := some 135, op := Op.load 9 (Operand.tmp 134), type := 9, pos := "law.go:167", after := #[{ on := 0, ground := Ground.data }], guard := none }, { dst := some 136, op := Op.fieldAddr 40 (Operand.tmp 8) 1, type := 0, pos := "law.go:167", after := #[], guard := none }, { dst := some 137, op := Op.load 38 (Operand.tmp 136), type := 38, pos := "law.go:167", after := #[{ on := 2, ground := Ground.data }], guard := none }, { dst := some 138, op := Op.move (Operand.tmp 10), type := 3, pos := "law.go:167", after := #[], guard := none }, { dst := some 139, op := Op.slice 38 (Operand.tmp 137) none (some (Operand.tmp 138)) none, type := 38, pos := "law.go:167", after := #[{ on := 3, ground := Ground.data }, { on := 4, ground := Ground.data }], guard := none }, { dst := some 140, op := Op.call { callee := Callee.value (Operand.func 39), args := #[Operand.tmp 139], argTypes := #[38] }, type := 38, pos := "law.go:167", after := #[{ on := 5, ground := Ground.data }], guard := none }, { dst := some 141, op := Op.fieldAddr 40 (Operand.tmp 8) 1, type := 0, pos := "law.go:167", after := #[], guard := none }, { dst := some 142, op := Op.load 38 (Operand.tmp 141), type := 38, pos := "law.go:167", after := #[{ on := 7, ground := Ground.data }], guard := none }, { dst := some 143, op := Op.move (Operand.tmp 10), type := 3, pos := "law.go:167", after := #[], guard := none }, { dst := some 144, op := Op.binOp BinOp.add 3 (Operand.tmp 143) (Operand.const (Value.int IntKind.i64 1)) 3, type := 3, pos := "law.go:167", after := #[{ on := 9, ground := Ground.data }], guard := none }, { dst := some 145, op := Op.slice 38 (Operand.tmp 142) (some (Operand.tmp 144)) none none, type := 38, pos := "law.go:167", after := #[{ on := 8, ground := Ground.data }, { on := 10, ground := Ground.data }], guard := none }, { dst := some 146, op := Op.call { callee := Callee.builtin Builtin.append, args := #[Operand.tmp 140, Operand.tmp 145], argTypes := #[38, 38] }, type := 38, pos := "law.go:167", after := #[{ on := 6, ground := Ground.data }, { on := 11, ground := Ground.data }, { on := 6, ground := Ground.chain }], guard := none }, { dst := some 147, op := Op.build 40 #[(0, Operand.tmp 135), (1, Operand.tmp 146)], type := 40, pos := "law.go:167", after := #[{ on := 1, ground := Ground.data }, { on := 12, ground := Ground.data }], guard := none }, { dst := some 16, op := Op.alloc 40, type := 0, pos := "law.go:167", after := #[], guard := none }, { dst := none, op := Op.store 40 (Operand.tmp 16) (Operand.tmp 147), type := 0, pos := "law.go:167", after := #[{ on := 14, ground := Ground.data }, { on := 13, ground := Ground.data }, { on := 12, ground := Ground.chain }, { on := 0, ground := Ground.phase }, { on := 1, ground := Ground.phase }, { on := 2, ground := Ground.phase }, { on := 3, ground := Ground.phase }, { on := 4, ground := Ground.phase }, { on := 5, ground := Ground.phase }, { on := 6, ground := Ground.phase }, { on := 7, ground := Ground.phase }, { on := 8, ground := Ground.phase }, { on := 9, ground := Ground.phase }, { on := 10, ground := Ground.phase }, { on := 11, ground := Ground.phase }, { on := 12, ground := Ground.phase }, { on := 13, ground := Ground.phase }, { on := 14, ground := Ground.phase }], guard := none }] true).wp Tryd.prog Q { tmps := #[x0, x1, x2, x3, x4, x5, x6, x7, .pointer (some ⟨b8, 0, none⟩), x9, .int .i64 (i : Int), .pointer (some ⟨b11, 0, none⟩), x12, x13, x14, x15, x16, x17, x18, x19, x20, x21, x22, x23, x24, x25, x26, x27, x28, x29, x30, x31, x32, x33, x34, x35, x36, x37, x38, x39, x40, x41, x42, x43, x44, x45, x46, x47, x48, x49, x50, x51, x52, x53, x54, x55, x56, x57, x58, x59, x60, x61, x62, x63, x64, x65, x66, x67, x68, x69, x70, x71, x72, x73, x74, x75, x76, x77, x78, x79, x80, x81, x82, x83, x84, x85, x86, x87, x88, x89, x90, x91, x92, x93, x94, x95, x96, x97, x98, x99, x100, x101, x102, x103, x104, x105, x106, x107, x108, x109, x110, x111, x112, x113, x114, x115, x116, x117, x118, x119, x120, x121, x122, x123, x124, x125, x126, x127, x128, x129, x130, x131, x132, x133, x134, x135, x136, x137, x138, x139, x140, x141, x142, x143, x144, x145, x146, x147, x148, x149, x150, x151, x152, x153, x154, x155, x156, x157, x158, x159, x160, x161], defers := [] } y5 := by
  obtain ⟨i0, hi0, hz0, hz1, hz2⟩ := info_parts info_sign
  have hicN : i ≤ c := by omega
  have hi4 : (0 : Int) ≤ (i : Int) + 1 := by omega
  have hi5 : IntKind.i64.wrap ((i : Int) + 1) = (i : Int) + 1 := IntWalk.i64_in _ (by omega)
  have LN := Lib.hid (show (l.take i ++ l.drop (i + 1)).length = (i + (l.length - (i + 1))) by rw [List.length_append, List.length_take_of_le hi2, List.length_drop])
  have FL := Lib.hid (show flatG (l.take i) ++ flatG (l.drop (i + 1)) = flatG (l.take i ++ l.drop (i + 1)) by rw [flatG_app])
  refine wp_region_held (S := fun W => W.cell? ⟨b8, 0, none⟩ = some (.string nm) ∧ W.cell? ⟨b8, 1, none⟩ = some (.slice (some ⟨bq, oq, none⟩) l.length c)) (by kernel_rfl) ?_
  change wpAnyH _ _ _ _ _ _ _ _ (World.drew _)
  have BY := Lib.hid (w_refl y5).drew
  generalize World.drew y5 = y0 at *
  have X0 := Lib.hid (FX.out.later BY.out)
  have SO := Lib.hid (show ∀ W, Below y0.heap.size y0 W → W.cell? ⟨b8, 0, none⟩ = some (.string nm) ∧ W.cell? ⟨b8, 1, none⟩ = some (.slice (some ⟨bq, oq, none⟩) l.length c) from fun W b => ⟨(X0.out.later b).h.cell (j := 0) rfl, (X0.out.later b).h.cell (j := 1) rfl⟩)
  have BL := Lib.hid (w_refl y0)
  have FT := Lib.hid (X0.out.s.takeG hi2)
  have FD := Lib.hid (X0.out.s.dropG (i := i + 1) (by omega))
  have OS := Lib.hid (show ∀ W, SlP W 17 (some ⟨bq, oq, none⟩) i c (flatG (l.take i)) → Calls Tryd.prog 39 #[.slice (some ⟨bq, oq, none⟩) i c] W fun e w' => ∃ v, e = .returned v ∧ OwnL W w' 27 17 v i (flatG (l.take i)) from fun W g => by
    have e : (l.take i).length = i := List.length_take_of_le hi2
    have := owns_any (some ⟨bq, oq, none⟩) c (l.take i) (by omega) W (by rw [e]; exact g)
    rw [e] at this; exact this)
  clear FX
  refine wpAnyH_take (i := 0) (v := .pointer (some ⟨b8, 0, none⟩)) rfl (by kernel_rfl) (by kernel_rfl) (by kernel_rfl) (fun _ _ _ h => hp _ _ _ _ _ h) (run_yields _ (by kernel_rfl) (fun _ _ => by kernel_rfl)) (SO.out _ BL.out) ?_
  refine wpAnyH_take (i := 1) (v := .string nm) rfl (by kernel_rfl) (by kernel_rfl) (by kernel_rfl) (fun _ _ _ h => hp _ _ _ _ _ h) (ld_yields 9 (.tmp 134) ⟨b8, 0, none⟩ _ (by kernel_rfl) rfl (by kernel_rfl) (ld_str _ nm) (fun _ h => h.1)) (SO.out _ BL.out) ?_
  refine wpAnyH_take (i := 2) (v := .pointer (some ⟨b8, 1, none⟩)) rfl (by kernel_rfl) (by kernel_rfl) (by kernel_rfl) (fun _ _ _ h => hp _ _ _ _ _ h) (run_yields _ (by kernel_rfl) (fun _ _ => by kernel_rfl)) (SO.out _ BL.out) ?_
  refine wpAnyH_take (i := 3) (v := .slice (some ⟨bq, oq, none⟩) l.length c) rfl (by kernel_rfl) (by kernel_rfl) (by kernel_rfl) (fun _ _ _ h => hp _ _ _ _ _ h) (ld_yields 38 (.tmp 136) ⟨b8, 1, none⟩ _ (by kernel_rfl) rfl (by kernel_rfl) (ld_sgs _ _ _ _) (fun _ h => h.2)) (SO.out _ BL.out) ?_
  refine wpAnyH_take (i := 4) (v := .int .i64 (i : Int)) rfl (by kernel_rfl) (by kernel_rfl) (by kernel_rfl) (fun _ _ _ h => hp _ _ _ _ _ h) (run_yields _ (by kernel_rfl) (fun _ _ => by kernel_rfl)) (SO.out _ BL.out) ?_
  refine wpAnyH_take (i := 5) (v := .slice (some ⟨bq, oq, none⟩) i c) rfl (by kernel_rfl) (by kernel_rfl) (by kernel_rfl) (fun _ _ _ h => hp _ _ _ _ _ h) (sl_yields 38 (.tmp 137) none (some (.tmp 138)) (.slice (some ⟨bq, oq, none⟩) l.length c) none (some (.int .i64 (i : Int))) _ (by kernel_rfl) rfl (by kernel_rfl) rfl (by kernel_rfl) (sl_to _ _ _ _ _ hicN)) (SO.out _ BL.out) ?_
  refine wpAnyH_take (i := 7) (v := .pointer (some ⟨b8, 1, none⟩)) rfl (by kernel_rfl) (by kernel_rfl) (by kernel_rfl) (fun _ _ _ h => hp _ _ _ _ _ h) (run_yields _ (by kernel_rfl) (fun _ _ => by kernel_rfl)) (SO.out _ BL.out) ?_
  refine wpAnyH_take (i := 8) (v := .slice (some ⟨bq, oq, none⟩) l.length c) rfl (by kernel_rfl) (by kernel_rfl) (by kernel_rfl) (fun _ _ _ h => hp _ _ _ _ _ h) (ld_yields 38 (.tmp 141) ⟨b8, 1, none⟩ _ (by kernel_rfl) rfl (by kernel_rfl) (ld_sgs _ _ _ _) (fun _ h => h.2)) (SO.out _ BL.out) ?_
  refine wpAnyH_take (i := 9) (v := .int .i64 (i : Int)) rfl (by kernel_rfl) (by kernel_rfl) (by kernel_rfl) (fun _ _ _ h => hp _ _ _ _ _ h) (run_yields _ (by kernel_rfl) (fun _ _ => by kernel_rfl)) (SO.out _ BL.out) ?_
  refine wpAnyH_take (i := 10) (v := .int .i64 ((i : Int) + 1)) rfl (by kernel_rfl) (by kernel_rfl) (by kernel_rfl) (fun _ _ _ h => hp _ _ _ _ _ h) (Or.inl ⟨by kernel_rfl, fun _ _ => by go_simp⟩) (SO.out _ BL.out) ?_
  refine wpAnyH_take (i := 11) (v := .slice (dropQ (some ⟨bq, oq, none⟩) c (i + 1)) (l.length - (i + 1)) (c - (i + 1))) rfl (by kernel_rfl) (by kernel_rfl) (by kernel_rfl) (fun _ _ _ h => hp _ _ _ _ _ h) (sl_yields 38 (.tmp 142) (some (.tmp 144)) none (.slice (some ⟨bq, oq, none⟩) l.length c) (some (.int .i64 ((i : Int) + 1))) none _ (by kernel_rfl) rfl (by kernel_rfl) (by kernel_rfl) rfl (sl_from _ _ _ _ _ _ (by omega) hlt)) (SO.out _ BL.out) ?_
  refine wpAnyH_ready (rs := [6, 14]) (by kernel_rfl) (by simp) ?_
  refine AllReadyH.cons rfl (fun K hK => ?_) (AllReadyH.cons rfl (fun K hK => ?_) (AllReadyH.nil))
  · refine step_callTo rfl 39 #[.slice (some ⟨bq, oq, none⟩) i c] (by kernel_rfl) ((OS.out _ (FT.out.later BL.out)).mono ?_)
    rintro e v1 ⟨v, rfl, ho⟩
    obtain ⟨p1, k1, rfl⟩ := ho.val
    have RW := Lib.hid (own_base ho.row BL.out.size)
    replace BL := Lib.hid (w_below BL.out ho.bel)
    clear ho
    refine ⟨_, rfl, ?_⟩
    refine hK.out _ _ (SO.out _ BL.out) (fun _ => ?_)
    clear hK K
    simp only [Act.put, List.getElem_toArray, List.getElem_cons_succ, List.getElem_cons_zero, List.setIfInBounds_toArray, List.set_cons_succ, List.set_cons_zero]
    refine wpAnyH_ready (rs := [12, 14]) (by kernel_rfl) (by simp) ?_
    refine AllReadyH.cons rfl (fun K hK => ?_) (AllReadyH.cons rfl (fun K hK => ?_) (AllReadyH.nil))
    · refine step_append_sl rfl (.tmp 140) (.tmp 145) 38 rfl y0.heap.size 27 i0 (sgv zS) 17 128 Tryd.underlying38 hi0 hz0 hz1 hz2 rfl (by decide) (.slice p1 i k1) (i) (flatG (l.take i)) (by kernel_rfl) RW.out (dropQ (some ⟨bq, oq, none⟩) c (i + 1)) (l.length - (i + 1)) (c - (i + 1)) (flatG (l.drop (i + 1))) (by kernel_rfl) (FD.out.later BL.out) (by unfold maxLen; omega) (by omega) BL.out.size ?_
      intro u v2 hown hgrow
      replace BL := Lib.hid (BL.out.grown hgrow BL.out.size (fun j e => (RW.out.lt j e).1))
      replace RW := Lib.hid hown
      obtain ⟨pA2, kA2, rfl⟩ := own_val hown
      clear hown hgrow
      refine hK.out _ _ (SO.out _ BL.out) (fun _ => ?_)
      clear hK K
      simp only [Act.put, List.getElem_toArray, List.getElem_cons_succ, List.getElem_cons_zero, List.setIfInBounds_toArray, List.set_cons_succ, List.set_cons_zero]
      refine wpAnyH_take (i := 13) (v := .agg #[.string nm, .slice pA2 (i + (l.length - (i + 1))) kA2]) rfl (by kernel_rfl) (by kernel_rfl) (by kernel_rfl) (fun _ _ _ h => hp _ _ _ _ _ h) (run_yields _ (by kernel_rfl) (fun _ _ => by kernel_rfl)) (SO.out _ BL.out) ?_
      refine wpAnyH_ready (rs := [14]) (by kernel_rfl) (by simp) ?_
      refine AllReadyH.cons rfl (fun K hK => ?_) (AllReadyH.nil)
      refine step_runTo rfl (.pointer (some ⟨v2.heap.size, 0, none⟩)) (v2.alloc (ptO ⟨#[]⟩ none 0 0)) (by kernel_rfl) ?_
      replace RW := Lib.hid (own_keep RW.out (w_alloc (w_refl _) (ptO ⟨#[]⟩ none 0 0)) (Nat.le_refl _))
      have HR := Lib.hid (pt_new v2 ⟨#[]⟩ none 0 0)
      have RS := BL.out.size
      replace BL := Lib.hid (w_alloc BL.out (ptO ⟨#[]⟩ none 0 0))
      refine hK.out _ _ (SO.out _ BL.out) (fun _ => ?_)
      clear hK K
      simp only [Act.put, List.getElem_toArray, List.getElem_cons_succ, List.getElem_cons_zero, List.setIfInBounds_toArray, List.set_cons_succ, List.set_cons_zero]
      obtain ⟨br, hbr⟩ : ∃ x, v2.heap.size = x := ⟨_, rfl⟩
      have RL := Lib.hid (show y0.heap.size ≤ br by rw [← hbr]; exact RS)
      clear RS
      rw [hbr] at HR ⊢
      generalize v2.alloc (ptO ⟨#[]⟩ none 0 0) = v3 at *
      clear hbr
      refine wpAnyH_ready (rs := [15]) (by kernel_rfl) (by simp) ?_
      refine AllReadyH.cons rfl (fun K hK => ?_) (AllReadyH.nil)
      refine step_storeTo rfl 40 (.tmp 16) (.tmp 147) rfl br #[.string nm, .slice pA2 (i + (l.length - (i + 1))) kA2] (by kernel_rfl) (by kernel_rfl) 40 #[.string ⟨#[]⟩, .slice none 0 0] HR.out part_size rfl (part_one _ _ _ _) ?_
      intro v4 h1 h2 h3
      replace RW := Lib.hid (own_rest RW.out (own_ne RW.out HR.out (by decide)) h3)
      replace BL := Lib.hid (h2 _ _ BL.out RL.out)
      replace HR := Lib.hid h1
      clear h1 h2 h3
      refine hK.out _ _ (SO.out _ BL.out) (fun _ => ?_)
      clear hK K
      simp only [Act.put, List.getElem_toArray, List.getElem_cons_succ, List.getElem_cons_zero]
      refine wpAnyH_done (by kernel_rfl) ?_ _
      rw [FL.out] at RW
      exact hQ _ (.slice p1 i k1) br pA2 kA2 _ (by kernel_rfl) HR (Lib.hid (own_sl RW.out LN.out)) (Lib.hid (w_below BY.out BL.out))
    · refine step_runTo rfl (.pointer (some ⟨v1.heap.size, 0, none⟩)) (v1.alloc (ptO ⟨#[]⟩ none 0 0)) (by kernel_rfl) ?_
      replace RW := Lib.hid (own_keep RW.out (w_alloc (w_refl _) (ptO ⟨#[]⟩ none 0 0)) (Nat.le_refl _))
      have HR := Lib.hid (pt_new v1 ⟨#[]⟩ none 0 0)
      have RS := BL.out.size
      replace BL := Lib.hid (w_alloc BL.out (ptO ⟨#[]⟩ none 0 0))
      refine hK.out _ _ (SO.out _ BL.out) (fun _ => ?_)
      clear hK K
      simp only [Act.put, List.getElem_toArray, List.getElem_cons_succ, List.getElem_cons_zero, List.setIfInBounds_toArray, List.set_cons_succ, List.set_cons_zero]
      obtain ⟨br, hbr⟩ : ∃ x, v1.heap.size = x := ⟨_, rfl⟩
      have RL := Lib.hid (show y0.heap.size ≤ br by rw [← hbr]; exact RS)
      clear RS
      rw [hbr] at HR ⊢
      generalize v1.alloc (ptO ⟨#[]⟩ none 0 0) = v2 at *
      clear hbr
      refine wpAnyH_ready (rs := [12]) (by kernel_rfl) (by simp) ?_
      refine AllReadyH.cons rfl (fun K hK => ?_) (AllReadyH.nil)
      refine step_append_sl rfl (.tmp 140) (.tmp 145) 38 rfl y0.heap.size 27 i0 (sgv zS) 17 128 Tryd.underlying38 hi0 hz0 hz1 hz2 rfl (by decide) (.slice p1 i k1) (i) (flatG (l.take i)) (by kernel_rfl) RW.out (dropQ (some ⟨bq, oq, none⟩) c (i + 1)) (l.length - (i + 1)) (c - (i + 1)) (flatG (l.drop (i + 1))) (by kernel_rfl) (FD.out.later BL.out) (by unfold maxLen; omega) (by omega) BL.out.size ?_
      intro u v3 hown hgrow
      replace HR := Lib.hid (HR.out.kept hgrow (own_ne RW.out HR.out (by decide)))
      replace BL := Lib.hid (BL.out.grown hgrow BL.out.size (fun j e => (RW.out.lt j e).1))
      replace RW := Lib.hid hown
      obtain ⟨pA2, kA2, rfl⟩ := own_val hown
      clear hown hgrow
      refine hK.out _ _ (SO.out _ BL.out) (fun _ => ?_)
      clear hK K
      simp only [Act.put, List.getElem_toArray, List.getElem_cons_succ, List.getElem_cons_zero, List.setIfInBounds_toArray, List.set_cons_succ, List.set_cons_zero]
      refine wpAnyH_take (i := 13) (v := .agg #[.string nm, .slice pA2 (i + (l.length - (i + 1))) kA2]) rfl (by kernel_rfl) (by kernel_rfl) (by kernel_rfl) (fun _ _ _ h => hp _ _ _ _ _ h) (run_yields _ (by kernel_rfl) (fun _ _ => by kernel_rfl)) (SO.out _ BL.out) ?_
      refine wpAnyH_ready (rs := [15]) (by kernel_rfl) (by simp) ?_
      refine AllReadyH.cons rfl (fun K hK => ?_) (AllReadyH.nil)
      refine step_storeTo rfl 40 (.tmp 16) (.tmp 147) rfl br #[.string nm, .slice pA2 (i + (l.length - (i + 1))) kA2] (by kernel_rfl) (by kernel_rfl) 40 #[.string ⟨#[]⟩, .slice none 0 0] HR.out part_size rfl (part_one _ _ _ _) ?_
      intro v4 h1 h2 h3
      replace RW := Lib.hid (own_rest RW.out (own_ne RW.out HR.out (by decide)) h3)
      replace BL := Lib.hid (h2 _ _ BL.out RL.out)
      replace HR := Lib.hid h1
      clear h1 h2 h3
      refine hK.out _ _ (SO.out _ BL.out) (fun _ => ?_)
      clear hK K
      simp only [Act.put, List.getElem_toArray, List.getElem_cons_succ, List.getElem_cons_zero]
      refine wpAnyH_done (by kernel_rfl) ?_ _
      rw [FL.out] at RW
      exact hQ _ (.slice p1 i k1) br pA2 kA2 _ (by kernel_rfl) HR (Lib.hid (own_sl RW.out LN.out)) (Lib.hid (w_below BY.out BL.out))
  · refine step_runTo rfl (.pointer (some ⟨y0.heap.size, 0, none⟩)) (y0.alloc (ptO ⟨#[]⟩ none 0 0)) (by kernel_rfl) ?_
    have HR := Lib.hid (pt_new y0 ⟨#[]⟩ none 0 0)
    have RS := BL.out.size
    replace BL := Lib.hid (w_alloc BL.out (ptO ⟨#[]⟩ none 0 0))
    refine hK.out _ _ (SO.out _ BL.out) (fun _ => ?_)
    clear hK K
    simp only [Act.put, List.getElem_toArray, List.getElem_cons_succ, List.getElem_cons_zero, List.setIfInBounds_toArray, List.set_cons_succ, List.set_cons_zero]
    obtain ⟨br, hbr⟩ : ∃ x, y0.heap.size = x := ⟨_, rfl⟩
    have RL := Lib.hid (show y0.heap.size ≤ br by rw [← hbr]; exact RS)
    clear RS
    rw [hbr] at HR ⊢
    generalize y0.alloc (ptO ⟨#[]⟩ none 0 0) = v1 at *
    clear hbr
    refine wpAnyH_ready (rs := [6]) (by kernel_rfl) (by simp) ?_
    refine AllReadyH.cons rfl (fun K hK => ?_) (AllReadyH.nil)
    refine step_callTo rfl 39 #[.slice (some ⟨bq, oq, none⟩) i c] (by kernel_rfl) ((OS.out _ (FT.out.later BL.out)).mono ?_)
    rintro e v2 ⟨v, rfl, ho⟩
    obtain ⟨p1, k1, rfl⟩ := ho.val
    have RW := Lib.hid (own_base ho.row BL.out.size)
    replace HR := Lib.hid (HR.out.later ho.bel)
    replace BL := Lib.hid (w_below BL.out ho.bel)
    clear ho
    refine ⟨_, rfl, ?_⟩
    refine hK.out _ _ (SO.out _ BL.out) (fun _ => ?_)
    clear hK K
    simp only [Act.put, List.getElem_toArray, List.getElem_cons_succ, List.getElem_cons_zero, List.setIfInBounds_toArray, List.set_cons_succ, List.set_cons_zero]
    refine wpAnyH_ready (rs := [12]) (by kernel_rfl) (by simp) ?_
    refine AllReadyH.cons rfl (fun K hK => ?_) (AllReadyH.nil)
    refine step_append_sl rfl (.tmp 140) (.tmp 145) 38 rfl y0.heap.size 27 i0 (sgv zS) 17 128 Tryd.underlying38 hi0 hz0 hz1 hz2 rfl (by decide) (.slice p1 i k1) (i) (flatG (l.take i)) (by kernel_rfl) RW.out (dropQ (some ⟨bq, oq, none⟩) c (i + 1)) (l.length - (i + 1)) (c - (i + 1)) (flatG (l.drop (i + 1))) (by kernel_rfl) (FD.out.later BL.out) (by unfold maxLen; omega) (by omega) BL.out.size ?_
    intro u v3 hown hgrow
    replace HR := Lib.hid (HR.out.kept hgrow (own_ne RW.out HR.out (by decide)))
    replace BL := Lib.hid (BL.out.grown hgrow BL.out.size (fun j e => (RW.out.lt j e).1))
    replace RW := Lib.hid hown
    obtain ⟨pA2, kA2, rfl⟩ := own_val hown
    clear hown hgrow
    refine hK.out _ _ (SO.out _ BL.out) (fun _ => ?_)
    clear hK K
    simp only [Act.put, List.getElem_toArray, List.getElem_cons_succ, List.getElem_cons_zero, List.setIfInBounds_toArray, List.set_cons_succ, List.set_cons_zero]
    refine wpAnyH_take (i := 13) (v := .agg #[.string nm, .slice pA2 (i + (l.length - (i + 1))) kA2]) rfl (by kernel_rfl) (by kernel_rfl) (by kernel_rfl) (fun _ _ _ h => hp _ _ _ _ _ h) (run_yields _ (by kernel_rfl) (fun _ _ => by kernel_rfl)) (SO.out _ BL.out) ?_
    refine wpAnyH_ready (rs := [15]) (by kernel_rfl) (by simp) ?_
    refine AllReadyH.cons rfl (fun K hK => ?_) (AllReadyH.nil)
    refine step_storeTo rfl 40 (.tmp 16) (.tmp 147) rfl br #[.string nm, .slice pA2 (i + (l.length - (i + 1))) kA2] (by kernel_rfl) (by kernel_rfl) 40 #[.string ⟨#[]⟩, .slice none 0 0] HR.out part_size rfl (part_one _ _ _ _) ?_
    intro v4 h1 h2 h3
    replace RW := Lib.hid (own_rest RW.out (own_ne RW.out HR.out (by decide)) h3)
    replace BL := Lib.hid (h2 _ _ BL.out RL.out)
    replace HR := Lib.hid h1
    clear h1 h2 h3
    refine hK.out _ _ (SO.out _ BL.out) (fun _ => ?_)
    clear hK K
    simp only [Act.put, List.getElem_toArray, List.getElem_cons_succ, List.getElem_cons_zero]
    refine wpAnyH_done (by kernel_rfl) ?_ _
    rw [FL.out] at RW
    exact hQ _ (.slice p1 i k1) br pA2 kA2 _ (by kernel_rfl) HR (Lib.hid (own_sl RW.out LN.out)) (Lib.hid (w_below BY.out BL.out))

set_option maxRecDepth 100000 in
set_option maxHeartbeats 16000000 in
theorem lmoved_any (p : Option Addr) (cap : Nat) (zs : List Int) (hz : ∀ z ∈ zs, -9223372036854775808 ≤ z ∧ z ≤ 9223372036854775807) (at_ n : Int) (hat : -9223372036854775808 ≤ at_ ∧ at_ ≤ 9223372036854775807) (hn : -9223372036854775808 ≤ n ∧ n ≤ 9223372036854775807)
    (w : World) (h : SlP w 1 p zs.length cap (ints zs)) (T : TabS w) : Calls Tryd.prog 8 #[.slice p zs.length cap, .int .i64 at_, .int .i64 n] w fun e w' => e = .returned (.bool true) ∧ Below w.heap.size w w' := by
  obtain ⟨i0, hi0, hz0, hz1, hz2⟩ := info_parts info_sign
  have KN := Lib.hid (lknown_any w T)
  have F1 := Lib.hid (fun W g => free_any p cap zs hz W g)
  have F2 := Lib.hid (show ∀ W : World, Calls Tryd.prog 37 #[.slice (some ⟨W.heap.size, 0, none⟩) 2 2] (W.alloc (.cells #[.int .i64 n, .int .i64 n] 3)) fun e w' => ∃ v, e = .returned v ∧ FreeR (W.alloc (.cells #[.int .i64 n, .int .i64 n] 3)) w' v from
    fun W => free_any (some ⟨W.heap.size, 0, none⟩) 2 [n, n] (by intro z hz; simp at hz; subst hz; exact hn) _ (ints_new W [n, n] (by simp)))
  have RS := Lib.hid (fun W => lrest_any 4 W)
  have TT := Lib.hid (show ∀ W, Below w.heap.size w W → TabS W from fun W b => T.later b)
  have HL := Lib.hid h
  clear h T hz hn
  go_enter Tryd.func8, Tryd.ntmps8
  go_wp2_with fail
  refine KN.out.mono ?_
  rintro e w1 ⟨rfl, hb⟩
  replace HL := Lib.hid (HL.out.later hb)
  have B := Lib.hid hb
  clear hb KN
  go_wp2_with fail
  refine (F1.out _ HL.out).mono ?_
  rintro e w2 ⟨v, rfl, nm, l, q, c, rfl, hs1, hnm, hst, hl2, hl60, ho⟩
  obtain ⟨bq, oq, rfl, -, -⟩ := (own_sl ho.row rfl).at_ (by omega)
  have FX := Lib.hid (show MvX w (w2.alloc (ptO nm (some ⟨bq, oq, none⟩) l.length c)) w2.heap.size nm l (some ⟨bq, oq, none⟩) c from ⟨pt_new w2 nm (some ⟨bq, oq, none⟩) l.length c, (own_sl ho.row rfl).later (w_alloc (w_refl _) _), w_alloc (w_below B.out ho.bel) _⟩)
  have NS := Lib.hid hs1
  have NA := Lib.hid hnm
  have ST := Lib.hid hst
  have fit := (own_sl ho.row rfl).fit
  have mxc := (own_sl ho.row rfl).max
  clear ho hs1 hnm hst HL F1 B
  go_upto_region 3 with (fail)
  obtain ⟨b8, hb8⟩ : ∃ b, w2.heap.size = b := ⟨_, rfl⟩
  rw [hb8] at FX ⊢
  generalize w2.alloc (ptO nm (some ⟨bq, oq, none⟩) l.length c) = y at *
  clear hb8
  go_wp2_with fail
  refine (F2.out _).mono ?_
  rintro e w3 ⟨v, rfl, nm2, l2, q2, c2, rfl, -, -, hst2, hl22, hl260, ho2⟩
  have hbb := ho2.bel
  replace FX := Lib.hid ((FX.out.later (w_alloc (w_refl y) (.cells #[.int .i64 n, .int .i64 n] 3))).later hbb)
  obtain ⟨j2, hj2⟩ : ∃ j, l2.length = j + 1 := ⟨l2.length - 1, by omega⟩
  obtain ⟨b2, o2, rfl, -, hsg⟩ := (own_sl ho2.row rfl).sg (List.getElem?_eq_getElem (show j2 < l2.length by omega))
  have SG := Lib.hid hsg
  have O2 := Lib.hid (st_ones hst2 (show j2 < l2.length by omega))
  generalize l2[j2] = s2 at *
  have hf2 := (own_sl ho2.row rfl).fit
  have hm2 := (own_sl ho2.row rfl).max
  have n2 : ((l2.length : Nat) : Int) - 1 = (j2 : Int) := by omega
  have n2a : (j2 : Int) < (l2.length : Nat) := by omega
  have n2b : (0 : Int) ≤ j2 := by omega
  have n2c : ((l2.length : Nat) : Int) ≤ 60 := by omega
  generalize l2.length = m2 at *
  clear ho2 hst2 hsg hbb F2 hj2 hl22 hl260
  have x1 : IntKind.i64.wrap ((l.length : Int) + 1) = (l.length : Int) + 1 := IntWalk.i64_in _ (by omega)
  have MD := Lib.hid (mod_any at_ ((l.length : Int) + 1) w3 hat.1 hat.2 (by omega) (by omega))
  obtain ⟨i, hi, hi2⟩ : ∃ i : Nat, at_ % ((l.length : Int) + 1) = (i : Int) ∧ i ≤ l.length := ⟨(at_ % ((l.length : Int) + 1)).toNat, by have := Int.emod_nonneg at_ (show (l.length : Int) + 1 ≠ 0 by omega); omega, by have := Int.emod_nonneg at_ (show (l.length : Int) + 1 ≠ 0 by omega); have := Int.emod_lt_of_pos at_ (show 0 < (l.length : Int) + 1 by omega); omega⟩
  rw [hi] at MD
  clear hi hat
  have k1 := FX.out.h.cell (j := 1) rfl
  have hfd := run_field_part nm2 (some ⟨b2, o2, none⟩) m2 c2 w3
  go_wp2_with fail
  refine MD.out.mono ?_
  rintro e w4 ⟨rfl, rfl⟩
  rename World => w3
  clear MD k1 x1 hfd
  have x2 : IntKind.i64.wrap ((m2 : Int) - 1) = (j2 : Int) := by rw [n2]; exact IntWalk.i64_in _ (by omega)
  go_upto_region 6 with (first | (refine wl_load b2 (o2 + j2 * 17) s2 (by kernel_rfl) SG.out ?_) | (refine wl_store0 _ _ s2 rfl (by kernel_rfl) (by kernel_rfl) rfl ?_) | fail)
  have FW := Lib.hid FX.out
  replace FX := Lib.hid (FX.out.later (w_alloc (w_refl w3) (sgO s2)))
  have HS := Lib.hid (sg_new w3 s2)
  have BS := Lib.hid (w_alloc (w_refl w3) (sgO s2))
  have hb8l : b8 ≠ w3.heap.size := Nat.ne_of_lt FW.out.h.lt
  obtain ⟨b11, hb11⟩ : ∃ b, w3.heap.size = b := ⟨_, rfl⟩
  rw [hb11] at HS hb8l ⊢
  generalize w3.alloc (sgO s2) = y2 at *
  clear SG x2 n2 n2a n2b n2c hf2 hm2
  have k0 := HS.out.cell (j := 0) (v := .int .i64 s2.kind) rfl
  go_upto_if 39 with (fail)
  go_cut [11] (fun s11 wc => ∃ s, s11 = .pointer (some ⟨b11, 0, none⟩) ∧ Hid (oneE s = 0 ∧ (s.kind == 4) = false) ∧ Hid (HoldsB wc b11 27 (sgA s)) ∧ Hid (MvX w wc b8 nm l (some ⟨bq, oq, none⟩) c))
  case first =>
    cases hk : (s2.kind == 4) with
    | false =>
      go_wp2_with fail
      go_meet
      exact ⟨s2, rfl, Lib.hid ⟨O2.out, hk⟩, HS, FX⟩
    | true =>
      go_wp2_with fail
      refine (RS.out _).mono ?_
      rintro e w5 ⟨rfl, hb⟩
      replace HS := Lib.hid (HS.out.later hb)
      replace BS := Lib.hid (show Below w3.heap.size w3 w5 from w_below BS.out hb)
      clear hb k0
      go_wp2_with (first | (refine wl_rowS b11 (sgA s2) (rS 4) HS.out (by kernel_rfl) (by kernel_rfl) rfl ?_) | fail)
      intro W' h1 h2 h3
      have FZ := Lib.hid (FW.out.later (h2 _ _ BS.out (by omega)))
      have HZ := Lib.hid h1
      clear h1 h2 h3
      go_wp2_with fail
      go_meet
      exact ⟨rS 4, rfl, Lib.hid ⟨one_rS ⟨by decide, by decide⟩, rfl⟩, HZ, FZ⟩
  case rest =>
    obtain ⟨s, rfl, SO1, HS, FX⟩ := hcut
    rename World => y3
    clear FW BS O2 RS
    generalize hins : pst l i = ins
    have IN := Lib.hid hins
    clear hins
    have hi2' : (i : Int) ≤ l.length := by omega
    have hi0' : (0 : Int) ≤ i := by omega
    go_upto_region 8 with (fail)
    go_cut [12] (fun s12 wc => s12 = .bool ins ∧ Hid (HoldsB wc b11 27 (sgA s)) ∧ Hid (MvX w wc b8 nm l (some ⟨bq, oq, none⟩) c))
    case first =>
      have k1 := FX.out.h.cell (j := 1) rfl
      have e9 := IN.out
      rcases Nat.eq_zero_or_pos i with hz0 | hz0
      · have e8 : ins = false := by rw [← e9, hz0]; rfl
        have x3 : ¬ (0 : Int) < (i : Int) := by omega
        subst e8
        clear hz0
        go_wp2_with fail
        go_meet
        exact ⟨rfl, HS, FX⟩
      · obtain ⟨j, hij⟩ : ∃ j, i = j + 1 := ⟨i - 1, by omega⟩
        have hj : j < l.length := by omega
        have hj0 : (0 : Int) ≤ j := by omega
        have x1 : (i : Int) - 1 = (j : Int) := by omega
        have x2 : IntKind.i64.wrap ((i : Int) - 1) = (j : Int) := by rw [x1]; exact IntWalk.i64_in _ (by omega)
        have x3 : (0 : Int) < (i : Int) := by omega
        have x4 : (j : Int) < l.length := by omega
        obtain ⟨b', o', eq, -, hsj⟩ := FX.out.s.sg (List.getElem?_eq_getElem hj)
        injection eq with eq
        injection eq with eq1 eq2 _
        subst eq1 eq2
        have gk := hsj.e0
        have gl := hsj.e7
        have hp : ins = ((l[j].kind == 4) && !(l[j].last)) := by rw [← e9, hij, pst_succ, kB_at hj, laB_at hj]
        by_cases hlt : i < l.length
        · have x5 : (i : Int) < l.length := by omega
          obtain ⟨b', o', eq, -, hsi⟩ := FX.out.s.sg (List.getElem?_eq_getElem hlt)
          injection eq with eq
          injection eq with eq1 eq2 _
          subst eq1 eq2
          have gi := hsi.e0
          have hq : ins = true → (l[i].kind == 4) = true := fun e => by have := (st_inside ST.out hi2 (IN.out.trans e)).2; rwa [kB_at hlt] at this
          clear hsi hsj IN e9 SO1 hij hz0
          generalize l[i].kind = ki at *
          generalize l[j].kind = kj at *
          generalize l[j].last = la at *
          cases h1 : (ki == 4) with
          | false =>
            have e8 : ins = false := by cases ins with | false => rfl | true => exact absurd (hq rfl) (by rw [h1]; decide)
            subst e8
            clear hp hq
            go_wp2_with fail
            go_meet
            exact ⟨rfl, HS, FX⟩
          | true =>
            cases h2 : (kj == 4) with
            | false =>
              have e8 : ins = false := by rw [hp, h2]; rfl
              subst e8
              clear hp hq
              go_wp2_with fail
              go_meet
              exact ⟨rfl, HS, FX⟩
            | true =>
              have e8 : ins = !la := by rw [hp, h2]; rfl
              subst e8
              clear hp hq
              cases la with
              | false =>
                go_wp2_with fail
                go_meet
                exact ⟨rfl, HS, FX⟩
              | true =>
                go_wp2_with fail
                go_meet
                exact ⟨rfl, HS, FX⟩
        · have x5 : ¬ (i : Int) < l.length := by omega
          have e8 : ins = false := by rw [← e9, show i = l.length by omega]; exact st_end0 ST.out
          subst e8
          clear hp hsj hij
          go_wp2_with fail
          go_meet
          exact ⟨rfl, HS, FX⟩
    case rest =>
      obtain ⟨rfl, HS, FX⟩ := hcut
      rename World => y4
      have k0 := FX.out.h.cell (j := 0) rfl
      have k1 := FX.out.h.cell (j := 1) rfl
      go_wp2_with fail
      refine (pchk_own nm NS.out NA.out l l.length rfl (0, 0) (st_ok ST.out (by omega)) (some ⟨bq, oq, none⟩) c _ FX.out.s (TT.out _ FX.out.b)).mono ?_
      rintro e w6 ⟨rfl, hb⟩
      replace FX := Lib.hid (FX.out.later hb)
      replace HS := Lib.hid (HS.out.later hb)
      clear hb k0 k1
      go_upto_if 91 with (fail)
      cases ins with
      | true =>
        clear HS
        go_upto_region 17 with (fail)
        rename World => y7
        clear SO1
        have k1 := FX.out.h.cell (j := 1) rfl
        by_cases hlt : i < l.length
        · have x5 : (i : Int) < l.length := by omega
          have x6 : ((i : Int) == ((l.length : Nat) : Int)) = false := by simp; omega
          obtain ⟨b', o', eq, -, hsi⟩ := FX.out.s.sg (List.getElem?_eq_getElem hlt)
          injection eq with eq
          injection eq with eq1 eq2 _
          subst eq1 eq2
          have gi := hsi.e0
          have HK := Lib.hid (fun h => st_out ST.out hlt h)
          clear hsi
          generalize l[i].kind = ki at *
          cases h1 : (ki == 4) with
          | true =>
            go_wp2_with fail
            go_ret
            exact ⟨rfl, FX.out.b⟩
          | false =>
            have SN := Lib.hid (HK.out h1)
            go_upto_region 19 with (fail)
            clear k1 gi h1 HK x6
            have hic : (i : Int) ≤ c := by omega
            have hicN : i ≤ c := by omega
            have hi3 : (i : Int) + 1 ≤ l.length := by omega
            have hi4 : (0 : Int) ≤ (i : Int) + 1 := by omega
            have hi5 : IntKind.i64.wrap ((i : Int) + 1) = (i : Int) + 1 := IntWalk.i64_in _ (by omega)
            have LN := Lib.hid (show (l.take i ++ l.drop (i + 1)).length = (i + (l.length - (i + 1))) by rw [List.length_append, List.length_take_of_le hi2, List.length_drop])
            have FL := Lib.hid (show flatG (l.take i) ++ flatG (l.drop (i + 1)) = flatG (l.take i ++ l.drop (i + 1)) by rw [flatG_app])
            go_cut [16] (fun s16 wc => ∃ (b15 : Nat) (p5 : Option Addr) (k5 : Nat), s16 = .pointer (some ⟨b15, 0, none⟩) ∧ Hid (HoldsB wc b15 40 #[.string nm, .slice p5 (i + (l.length - (i + 1))) k5]) ∧ Hid (SlP wc 17 p5 (i + (l.length - (i + 1))) k5 (flatG (l.take i ++ l.drop (i + 1)))) ∧ Hid (Below y7.heap.size y7 wc))
            case first =>
              refine mv19 (fun _ _ _ _ _ h => h) FX hi2 fit hl60 hlt ?_
              intro a' v1 br p5 k5 wc e h1 h2 h3
              subst e
              go_wp2_with fail
              go_meet
              exact ⟨br, p5, k5, rfl, h1, h2, h3⟩
            case rest =>
              obtain ⟨b15, p5, k5, rfl, HB, HSl, HBl⟩ := hcut
              replace FX := Lib.hid (FX.out.later HBl.out)
              have d0 := HB.out.cell (j := 0) rfl
              have d1 := HB.out.cell (j := 1) rfl
              clear HBl FL
              have PC := Lib.hid (fun W g t => pchk_own nm NS.out NA.out (l.take i ++ l.drop (i + 1)) _ LN.out (0, 0) (st_ok SN.out (by have := LN.out; omega)) p5 k5 W g t)
              generalize hn5 : i + (l.length - (i + 1)) = n5 at *
              clear hn5
              go_wp2_with fail
              refine (PC.out _ HSl.out (TT.out _ FX.out.b)).mono ?_
              rintro e w7 ⟨rfl, hb⟩
              replace FX := Lib.hid (FX.out.later hb)
              clear hb PC d0 d1
              go_wp2_with fail
              go_ret
              exact ⟨rfl, FX.out.b⟩
        · have x6 : ((i : Int) == ((l.length : Nat) : Int)) = true := by simp; omega
          go_wp2_with fail
          go_ret
          exact ⟨rfl, FX.out.b⟩
      | false =>
        go_upto_region 13 with (fail)
        rename World => y5
        have hic : (i : Int) ≤ c := by omega
        have hicN : i ≤ c := by omega
        have SN := Lib.hid (st_put ST.out hi2 IN.out SO1.out.1 SO1.out.2)
        have LN := Lib.hid (show (l.take i ++ s :: l.drop i).length = (i + 1 + (l.length - i)) by rw [List.length_append, List.length_cons, List.length_take_of_le hi2, List.length_drop]; omega)
        have FL := Lib.hid (show flatG (l.take i) ++ flatG [s] ++ flatG (l.drop i) = flatG (l.take i ++ s :: l.drop i) by rw [flatG_app, List.append_assoc]; rfl)
        go_cut [15] (fun s15 wc => ∃ (b15 : Nat) (p5 : Option Addr) (k5 : Nat), s15 = .pointer (some ⟨b15, 0, none⟩) ∧ Hid (HoldsB wc b15 40 #[.string nm, .slice p5 (i + 1 + (l.length - i)) k5]) ∧ Hid (SlP wc 17 p5 (i + 1 + (l.length - i)) k5 (flatG (l.take i ++ s :: l.drop i))) ∧ Hid (Below y5.heap.size y5 wc))
        case first =>
          refine mv13 (fun _ _ _ _ _ h => h) FX HS hi2 fit hl60 ?_
          intro a' v1 v2 v3 br p5 k5 wc e h1 h2 h3
          subst e
          go_wp2_with fail
          go_meet
          exact ⟨br, p5, k5, rfl, h1, h2, h3⟩
        case rest =>
          obtain ⟨b15, p5, k5, rfl, HB, HSl, HBl⟩ := hcut
          replace FX := Lib.hid (FX.out.later HBl.out)
          have d0 := HB.out.cell (j := 0) rfl
          have d1 := HB.out.cell (j := 1) rfl
          clear HBl FL
          have PC := Lib.hid (fun W g t => pchk_own nm NS.out NA.out (l.take i ++ s :: l.drop i) _ LN.out (0, 0) (st_ok SN.out (by have := LN.out; omega)) p5 k5 W g t)
          generalize hn5 : i + 1 + (l.length - i) = n5 at *
          clear hn5
          go_wp2_with fail
          refine (PC.out _ HSl.out (TT.out _ FX.out.b)).mono ?_
          rintro e w7 ⟨rfl, hb⟩
          replace FX := Lib.hid (FX.out.later hb)
          clear hb PC d0 d1 SN LN
          go_upto_region 17 with (fail)
          clear HS
          rename World => y7
          clear SO1
          have k1 := FX.out.h.cell (j := 1) rfl
          by_cases hlt : i < l.length
          · have x5 : (i : Int) < l.length := by omega
            have x6 : ((i : Int) == ((l.length : Nat) : Int)) = false := by simp; omega
            obtain ⟨b', o', eq, -, hsi⟩ := FX.out.s.sg (List.getElem?_eq_getElem hlt)
            injection eq with eq
            injection eq with eq1 eq2 _
            subst eq1 eq2
            have gi := hsi.e0
            have HK := Lib.hid (fun h => st_out ST.out hlt h)
            clear hsi
            generalize l[i].kind = ki at *
            cases h1 : (ki == 4) with
            | true =>
              go_wp2_with fail
              go_ret
              exact ⟨rfl, FX.out.b⟩
            | false =>
              have SN := Lib.hid (HK.out h1)
              go_upto_region 19 with (fail)
              clear k1 gi h1 HK x6
              have hic : (i : Int) ≤ c := by omega
              have hicN : i ≤ c := by omega
              have hi3 : (i : Int) + 1 ≤ l.length := by omega
              have hi4 : (0 : Int) ≤ (i : Int) + 1 := by omega
              have hi5 : IntKind.i64.wrap ((i : Int) + 1) = (i : Int) + 1 := IntWalk.i64_in _ (by omega)
              have LN := Lib.hid (show (l.take i ++ l.drop (i + 1)).length = (i + (l.length - (i + 1))) by rw [List.length_append, List.length_take_of_le hi2, List.length_drop])
              have FL := Lib.hid (show flatG (l.take i) ++ flatG (l.drop (i + 1)) = flatG (l.take i ++ l.drop (i + 1)) by rw [flatG_app])
              go_cut [16] (fun s16 wc => ∃ (b15 : Nat) (p5 : Option Addr) (k5 : Nat), s16 = .pointer (some ⟨b15, 0, none⟩) ∧ Hid (HoldsB wc b15 40 #[.string nm, .slice p5 (i + (l.length - (i + 1))) k5]) ∧ Hid (SlP wc 17 p5 (i + (l.length - (i + 1))) k5 (flatG (l.take i ++ l.drop (i + 1)))) ∧ Hid (Below y7.heap.size y7 wc))
              case first =>
                refine mv19 (fun _ _ _ _ _ h => h) FX hi2 fit hl60 hlt ?_
                intro a' v1 br p5 k5 wc e h1 h2 h3
                subst e
                go_wp2_with fail
                go_meet
                exact ⟨br, p5, k5, rfl, h1, h2, h3⟩
              case rest =>
                obtain ⟨b15, p5, k5, rfl, HB, HSl, HBl⟩ := hcut
                replace FX := Lib.hid (FX.out.later HBl.out)
                have d0 := HB.out.cell (j := 0) rfl
                have d1 := HB.out.cell (j := 1) rfl
                clear HBl FL
                have PC := Lib.hid (fun W g t => pchk_own nm NS.out NA.out (l.take i ++ l.drop (i + 1)) _ LN.out (0, 0) (st_ok SN.out (by have := LN.out; omega)) p5 k5 W g t)
                generalize hn5 : i + (l.length - (i + 1)) = n5 at *
                clear hn5
                go_wp2_with fail
                refine (PC.out _ HSl.out (TT.out _ FX.out.b)).mono ?_
                rintro e w7 ⟨rfl, hb⟩
                replace FX := Lib.hid (FX.out.later hb)
                clear hb PC d0 d1
                go_wp2_with fail
                go_ret
                exact ⟨rfl, FX.out.b⟩
          · have x6 : ((i : Int) == ((l.length : Nat) : Int)) = true := by simp; omega
            go_wp2_with fail
            go_ret
            exact ⟨rfl, FX.out.b⟩

end Go.Proofs.YtcomjcflllfobaaDoor
