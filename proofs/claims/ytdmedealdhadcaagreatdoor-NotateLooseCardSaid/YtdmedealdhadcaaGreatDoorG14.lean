/- The text that a writer has written; the text of a sign. Arguments that are signs and parts; the rows' laid tables. -/
import Derived.Test.YtdmedealdhadcaaGreatDoorG12
import Derived.Test.YtdmedealdhadcaaGreatDoorG13
import Derived.Test.YtdmedealdhadcaaGreatDoorG01
import Derived.Test.YtdmedealdhadcaaGreatDoorG03
import Derived.Test.YtdmedealdhadcaaGreatDoorRows
import Derived.Lib.SmallJoins
import Derived.Lib.LaidU8
import Derived.MakeChecks

namespace Go.Proofs.YtdmedealdhadcaaGreatDoor
open Go.RowKit
theorem below_frz {B : Nat} {w0 w : World} {g : Nat} (h : Below B w0 w) (hg : B ≤ g) (n : Nat) : Below B w0 (w.freeze ⟨g, 0, none⟩ n) := Lib.below_freeze h (p := ⟨g, 0, none⟩) hg n
set_option maxRecDepth 100000 in
set_option maxHeartbeats 4000000 in
theorem wstring_any (B b : Nat) (l : List UInt8) (s : Sg) (w : World) (h : WrX B b l s w) (h0 : l ≠ []) (hl : l.length ≤ 1000) :
    Calls Tryz.prog 36 #[.pointer (some ⟨b, 0, none⟩)] w fun e w' => e = .returned (.string (bytes l)) ∧ Below B w w' := by
  obtain ⟨p, hp⟩ : ∃ p, WrP p B b l s w := by
    rcases h with h | h
    · exact ⟨_, h⟩
    · exact ⟨_, h⟩
  have hB := hp.base
  obtain ⟨v, hbk, hown, hne⟩ := hp.at_
  have hl0 : l.length ≠ 0 := by simpa using h0
  obtain ⟨g, cap, cur, fz, rfl, hbg, hg, hfz, hnc, hcm, hcs, htake⟩ : ∃ g cap cur fz, v = .slice (some ⟨g, 0, none⟩) l.length cap ∧ B ≤ g ∧ w.heap[g]? = some (.cells cur 5 fz) ∧ fz.2 ≤ l.length * 1 ∧ l.length ≤ cap ∧ cap ≤ maxLen ∧ cur.size = cap * 1 ∧ cur.toList.take (l.length * 1) = Lib.byteCells l := by
    rcases hown.2 with ⟨_, hz⟩ | ⟨g, cap, cur, fz, hv, r⟩
    · exact absurd hz hl0
    · exact ⟨g, cap, cur, fz, hv, r⟩
  have c1 : w.drew.cell? ⟨b, 1, none⟩ = some (.slice (some ⟨g, 0, none⟩) l.length cap) := HoldsB.cell (show HoldsB w.drew b _ _ from hbk) rfl
  have hSD : (Builtin.unsafeSliceData_ #[70] 121 #[.slice (some ⟨g, 0, none⟩) l.length cap]).run Tryz.prog w.drew = .ok (.pointer (some ⟨g, 0, none⟩)) w.drew :=
    Lib.run_unsafeSliceData_row _ _ _ _ _ _ (by omega)
  have hUS : (Builtin.unsafeString_ #[121, 3] 9 #[.pointer (some ⟨g, 0, none⟩), .int .i64 l.length]).run Tryz.prog w.drew = .ok (.string ⟨l.toArray⟩) (w.drew.freeze ⟨g, 0, none⟩ l.length) := by
    refine Lib.run_unsafeString_row w.drew 121 3 9 5 Tryz.underlying121 (by kernel_rfl) g cur.size (by have hg' : w.drew.heap[g]? = some (.cells cur 5 fz) := hg; simp [World.shape?, hg']) l h0 (by omega) (by unfold maxLen at hcm; omega) ?_
    intro j x hx
    exact hown.cells (g := g) rfl j (.int .u8 x.toNat) (by simp [Lib.byteCells, hx])
  have fin := Lib.hid (below_frz ((Below.refl B w).drew) hbg l.length)
  have eb : (⟨l.toArray⟩ : ByteArray) = bytes l := rfl
  rw [eb] at hUS
  clear hbk hown hne hg hfz htake hcs hp h eb
  go_enter Tryz.func36, Tryz.ntmps36
  go_wp2
  go_region
  all_goals (go_wp2; go_ret; exact ⟨rfl, fin.out⟩)
/-- The tables that the program reads. -/
structure TabN (w : World) : Prop where
  s : TabS w
  i : ITab w
theorem TabN.later {w w1 : World} (T : TabN w) (b : Below w.heap.size w w1) : TabN w1 := ⟨T.s.later b, T.i.later b⟩
def wdT (s : Sg) : List UInt8 := if oneE s = 0 then wordT s else []
theorem ix_k1 (g3 g9 g11 g12 : Nat) (V : World) : (Instr.index 79 (.agg (mannA g3 g9 g11 g12)) (.int .i64 1)).run Tryz.prog V = .ok (.agg #[fn0 64, fn0 65]) V := by kernel_rfl
theorem ix_k2 (g3 g9 g11 g12 : Nat) (V : World) : (Instr.index 79 (.agg (mannA g3 g9 g11 g12)) (.int .i64 2)).run Tryz.prog V = .ok (.agg #[fn0 66, fn0 67]) V := by kernel_rfl
theorem ix_k3 (g3 g9 g11 g12 : Nat) (V : World) : (Instr.index 79 (.agg (mannA g3 g9 g11 g12)) (.int .i64 3)).run Tryz.prog V = .ok (.agg #[fnC 125 g3, fnC 126 g3]) V := by kernel_rfl
theorem ix_k4 (g3 g9 g11 g12 : Nat) (V : World) : (Instr.index 79 (.agg (mannA g3 g9 g11 g12)) (.int .i64 4)).run Tryz.prog V = .ok (.agg #[fn0 69, fn0 70]) V := by kernel_rfl
theorem ix_k5 (g3 g9 g11 g12 : Nat) (V : World) : (Instr.index 79 (.agg (mannA g3 g9 g11 g12)) (.int .i64 5)).run Tryz.prog V = .ok (.agg #[fn0 71, fn0 72]) V := by kernel_rfl
theorem ix_k6 (g3 g9 g11 g12 : Nat) (V : World) : (Instr.index 79 (.agg (mannA g3 g9 g11 g12)) (.int .i64 6)).run Tryz.prog V = .ok (.agg #[fn0 73, fn0 74]) V := by kernel_rfl
theorem ix_k7 (g3 g9 g11 g12 : Nat) (V : World) : (Instr.index 79 (.agg (mannA g3 g9 g11 g12)) (.int .i64 7)).run Tryz.prog V = .ok (.agg #[fn0 75, fn0 76]) V := by kernel_rfl
theorem ix_k8 (g3 g9 g11 g12 : Nat) (V : World) : (Instr.index 79 (.agg (mannA g3 g9 g11 g12)) (.int .i64 8)).run Tryz.prog V = .ok (.agg #[fn0 77, fn0 78]) V := by kernel_rfl
theorem ix_k9 (g3 g9 g11 g12 : Nat) (V : World) : (Instr.index 79 (.agg (mannA g3 g9 g11 g12)) (.int .i64 9)).run Tryz.prog V = .ok (.agg #[fnC 125 g9, fnC 126 g9]) V := by kernel_rfl
theorem ix_k10 (g3 g9 g11 g12 : Nat) (V : World) : (Instr.index 79 (.agg (mannA g3 g9 g11 g12)) (.int .i64 10)).run Tryz.prog V = .ok (.agg #[fn0 79, fn0 80]) V := by kernel_rfl
theorem ix_k11 (g3 g9 g11 g12 : Nat) (V : World) : (Instr.index 79 (.agg (mannA g3 g9 g11 g12)) (.int .i64 11)).run Tryz.prog V = .ok (.agg #[fnC 125 g11, fnC 126 g11]) V := by kernel_rfl
theorem ix_k12 (g3 g9 g11 g12 : Nat) (V : World) : (Instr.index 79 (.agg (mannA g3 g9 g11 g12)) (.int .i64 12)).run Tryz.prog V = .ok (.agg #[fnC 125 g12, fnC 126 g12]) V := by kernel_rfl
theorem fld_m (f g : Fn) (x1 c1 x2 c2 : Array Value) (V : World) : (Instr.field 78 (.agg #[.func f x1 c1, .func g x2 c2]) 0).run Tryz.prog V = .ok (.func f x1 c1) V := by kernel_rfl
theorem cell_blw {B c j : Nat} {W V : World} {v : Value} (h : Below B W V) (k : W.cell? ⟨c, j, none⟩ = some v) (hc : c < B) : V.cell? ⟨c, j, none⟩ = some v := by
  rw [← k]; exact World.cell?_of_block (w := W) (a := ⟨c, j, none⟩) (h.block c hc)
section
variable {ops : Array Oper} {rest : List Oper} {t : TypeId} {ps : String} {af : Array Edge} {a : Act} {Q : Exit → Act → World → Prop}
theorem wl_buildT {w : World} {d : Tmp} (ty : TypeId) (parts : Array (Nat × Operand)) (cs : Array Value) (hb : Tryz.prog.built ty (parts.map fun (i, x) => (i, a.eval x)).toList = some cs) (h : wpList Tryz.prog ops Q rest (a.put (some d) (.agg cs)) w) :
    wpList Tryz.prog ops Q ({ dst := some d, op := .build ty parts, type := t, pos := ps, after := af, guard := none } :: rest) a w := by
  refine wpList_build rfl ty parts rfl (by rw [hb]; rfl) ?_
  rw [hb]
  exact h
end
set_option maxRecDepth 100000 in
set_option maxHeartbeats 4000000 in
theorem pword_no (s : Sg) (h : ¬ oneE s = 0) (w : World) (T : TabN w) : Calls Tryz.prog 11 #[sgv s] w fun e w' => e = .returned (.tuple #[.string (bytes []), .int .i64 (oneE s)]) ∧ Below w.heap.size w w' := by
  have C := Lib.hid (fun W (T : TabS W) => pone_any s W T)
  have T1 := Lib.hid (T.s.al (sgO s))
  have B1 := Lib.hid (w_alloc (w_refl w) (sgO s))
  have S1 := Lib.hid (sg_new w s).sg
  have hne : (oneE s != 0) = true := by simpa using h
  generalize oneE s = E at *
  clear T h
  go_enter Tryz.func11, Tryz.ntmps11
  go_wp2_with (first | (refine wl_box s (by kernel_rfl) ?_) | (refine wl_load w.heap.size 0 s (by kernel_rfl) S1.out ?_) | fail)
  refine (C.out _ T1.out).mono ?_
  rintro e w1 ⟨rfl, hb⟩
  have HB := Lib.hid (w_below B1.out hb)
  clear hb C T1 B1 S1
  go_wp2_with fail
  go_ret2
  exact ⟨rfl, HB.out⟩
set_option maxRecDepth 100000 in
set_option maxHeartbeats 16000000 in
theorem pword_ok (s : Sg) (h : oneE s = 0) (w : World) (T : TabN w) : Calls Tryz.prog 11 #[sgv s] w fun e w' => e = .returned (.tuple #[.string (bytes (wordT s)), .int .i64 0]) ∧ Below w.heap.size w w' := by
  have C := Lib.hid (fun W (T : TabS W) => pone_any s W T)
  rw [h] at C
  have T1 := Lib.hid (T.later (w_alloc (w_refl w) (sgO s)))
  have B1 := Lib.hid (w_alloc (w_refl w) (sgO s))
  have S1 := Lib.hid (sg_new w s)
  have MA := Lib.hid (fun V => manners_any V)
  obtain ⟨hk, -, hm, hr, -⟩ := one_zero h
  obtain ⟨k, k1, k2, ek⟩ := kind_nat hk
  have hwp := word_plain h
  have HN := Lib.hid (fun B b V (hV : WrX B b (wordT s) s V) => wstring_any B b (wordT s) s V hV hwp.2.1 (Nat.le_trans hwp.2.2 (by decide)))
  have KI := Lib.hid (⟨k1, k2, ek, hm, hr⟩ : 1 ≤ k ∧ k ≤ 12 ∧ s.kind = (k : Int) ∧ (s.kind = 5 → okM (mq s)) ∧ rngB s = true)
  clear T h hk hwp k1 k2 ek hm hr
  go_enter Tryz.func11, Tryz.ntmps11
  go_wp2_with (first | (refine wl_box s (by kernel_rfl) ?_) | (refine wl_load w.heap.size 0 s (by kernel_rfl) S1.out.sg ?_) | fail)
  refine (C.out _ T1.out.s).mono ?_
  rintro e w1 ⟨rfl, hb⟩
  replace B1 := Lib.hid (w_below B1.out hb)
  replace T1 := Lib.hid (T1.out.later hb)
  have HS := Lib.hid (S1.out.later hb)
  have SG := Lib.hid HS.out.sg
  clear hb C S1
  go_wp2_with (first | (refine wl_load w.heap.size 0 s (by kernel_rfl) SG.out ?_) | (refine wl_buildT 74 _ (wrA (.pointer none) (.slice none 0 0) s) (by kernel_rfl) ?_) | (refine wl_row 74 w1.heap.size _ _ (wrA (.pointer none) (.slice none 0 0) s) (HoldsB.new w1 _ _) (by kernel_rfl) (by kernel_rfl) (by kernel_rfl) rfl (by kernel_rfl) ?_) | fail)
  intro W hW hBW ho
  clear ho
  have bw := Lib.hid (hBW _ _ (w_alloc (w_refl w1) _) (Nat.le_refl _))
  have HW := Lib.hid hW
  clear hW hBW
  have H0 := Lib.hid (show WrT w1.heap.size w1.heap.size [] s W.drew from
    ⟨.inl ⟨Nat.le_refl _, .slice none 0 0, HW.out, World.ownsRowF_of (World.ownsRow_nil _ _ _ _), by simp [Value.ownBlock]⟩, ⟨w1, T1.out.i, Nat.le_refl _, bw.out.drew, bw.out.size⟩⟩)
  have B0 := Lib.hid (show Below w1.heap.size w1 W.drew from bw.out.drew)
  have CB := Lib.hid HS.out.lt
  replace HS := Lib.hid (show HoldsB W.drew w.heap.size 27 (sgA s) from HS.out.later bw.out.drew)
  clear bw HW SG T1
  generalize w1.heap.size = b at *
  generalize hcw : w.heap.size = c at *
  have CW := Lib.hid hcw
  clear hcw
  go_wp2_with fail
  go_cut [18] (fun s18 wx => Hid (WrX b b (wordT s) s wx) ∧ Hid (Below b w1 wx))
  case first =>
    clear HN
    obtain ⟨k1, k2, ek, hm, hr⟩ := KI.out
    clear KI
    have hk0 := Lib.hid ek
    have hc : k = 1 ∨ k = 2 ∨ k = 3 ∨ k = 4 ∨ k = 5 ∨ k = 6 ∨ k = 7 ∨ k = 8 ∨ k = 9 ∨ k = 10 ∨ k = 11 ∨ k = 12 := by omega
    clear ek k1 k2
    have hfd := fun f g x1 c1 x2 c2 V => fld_m f g x1 c1 x2 c2 V
    rcases hc with rfl | rfl | rfl | rfl | rfl | rfl | rfl | rfl | rfl | rfl | rfl | rfl
    · have ek : s.kind = ((1 : Nat) : Int) := hk0.out.trans rfl
      have OK := Lib.hid (show okNt s from ⟨(rng1 ek hr).1, (rng1 ek hr).2⟩)
      have P := Lib.hid (fun V (hV : WrT b b [] s V) => wnote_any b b [] s V (by decide) OK.out hV)
      have hcell : (World.drew W).cell? ⟨c, 0, none⟩ = some (.int .i64 1) := by have := HS.out.cell (j := 0) (v := .int .i64 s.kind) rfl; rw [ek] at this; exact this
      have EW := Lib.hid (show wordT s = wordK 1 s from word_kind ek)
      clear hk0 ek hr hm
      go_region_held3 (fun V => V.cell? ⟨c, 0, none⟩ = some (.int .i64 1))
        (first | exact hcell | assumption)
        (first
          | (go_at_call 35; refine (MA.out _).mono ?_; rintro e wn ⟨g3, g9, g11, g12, rfl, hmn, hb⟩; replace B0 := Lib.hid (B0.out.trans (hb.mono H0.out.it.sz)); replace H0 := Lib.hid (H0.out.later hb); have HM := Lib.hid hmn; replace hcell := cell_later hb hcell; have hix := fun V => ix_k1 g3 g9 g11 g12 V; unfold fn0 at hix; clear hb hmn)
          | (go_at_call 64; refine (P.out _ H0.out).mono ?_; rintro e wm ⟨rfl, hx, hb⟩; have HX := Lib.hid hx; have HY := Lib.hid hb; replace hcell := cell_blw hb hcell CB.out; clear hx hb)
          | fail)
      all_goals
        go_wp2_with fail
        go_meet
        exact ⟨Lib.hid (by rw [EW.out]; have q := HX.out.wr; rw [List.nil_append] at q; exact q), Lib.hid (B0.out.trans HY.out)⟩
    · have ek : s.kind = ((2 : Nat) : Int) := hk0.out.trans rfl
      have OK := Lib.hid (show okVl s from rng2 ek hr)
      have P := Lib.hid (fun V (hV : WrT b b [] s V) => wrest_any b b [] s V (by decide) OK.out hV)
      have hcell : (World.drew W).cell? ⟨c, 0, none⟩ = some (.int .i64 2) := by have := HS.out.cell (j := 0) (v := .int .i64 s.kind) rfl; rw [ek] at this; exact this
      have EW := Lib.hid (show wordT s = wordK 2 s from word_kind ek)
      clear hk0 ek hr hm
      go_region_held3 (fun V => V.cell? ⟨c, 0, none⟩ = some (.int .i64 2))
        (first | exact hcell | assumption)
        (first
          | (go_at_call 35; refine (MA.out _).mono ?_; rintro e wn ⟨g3, g9, g11, g12, rfl, hmn, hb⟩; replace B0 := Lib.hid (B0.out.trans (hb.mono H0.out.it.sz)); replace H0 := Lib.hid (H0.out.later hb); have HM := Lib.hid hmn; replace hcell := cell_later hb hcell; have hix := fun V => ix_k2 g3 g9 g11 g12 V; unfold fn0 at hix; clear hb hmn)
          | (go_at_call 66; refine (P.out _ H0.out).mono ?_; rintro e wm ⟨rfl, hx, hb⟩; have HX := Lib.hid hx; have HY := Lib.hid hb; replace hcell := cell_blw hb hcell CB.out; clear hx hb)
          | fail)
      all_goals
        go_wp2_with fail
        go_meet
        exact ⟨Lib.hid (by rw [EW.out]; have q := HX.out.wr; rw [List.nil_append] at q; exact q), Lib.hid (B0.out.trans HY.out)⟩
    · have ek : s.kind = ((3 : Nat) : Int) := hk0.out.trans rfl
      have P := Lib.hid (fun V g (hg : Txt V g [46]) (hV : WrT b b [] s V) => walone_any [46] (by decide) g b b [] s V (by decide) hg hV)
      have hcell : (World.drew W).cell? ⟨c, 0, none⟩ = some (.int .i64 3) := by have := HS.out.cell (j := 0) (v := .int .i64 s.kind) rfl; rw [ek] at this; exact this
      have EW := Lib.hid (show wordT s = wordK 3 s from word_kind ek)
      clear hk0 ek hr hm
      go_region_held3 (fun V => V.cell? ⟨c, 0, none⟩ = some (.int .i64 3))
        (first | exact hcell | assumption)
        (first
          | (go_at_call 35; refine (MA.out _).mono ?_; rintro e wn ⟨g3, g9, g11, g12, rfl, hmn, hb⟩; replace B0 := Lib.hid (B0.out.trans (hb.mono H0.out.it.sz)); replace H0 := Lib.hid (H0.out.later hb); have HM := Lib.hid hmn; replace hcell := cell_later hb hcell; have hix := fun V => ix_k3 g3 g9 g11 g12 V; unfold fnC at hix; clear hb hmn)
          | (go_at_call 125; refine (P.out _ _ HM.out.t3 H0.out).mono ?_; rintro e wm ⟨rfl, hx, hb⟩; have HX := Lib.hid hx; have HY := Lib.hid hb; replace hcell := cell_blw hb hcell CB.out; clear hx hb)
          | fail)
      all_goals
        go_wp2_with fail
        go_meet
        exact ⟨Lib.hid (by rw [EW.out]; have q := HX.out.wr; rw [List.nil_append] at q; exact q), Lib.hid (B0.out.trans HY.out)⟩
    · have ek : s.kind = ((4 : Nat) : Int) := hk0.out.trans rfl
      have OK := Lib.hid (show okT s from rng4 ek hr)
      have P := Lib.hid (fun V (hV : WrT b b [] s V) => wtied_any b b [] s V (by decide) OK.out hV)
      have hcell : (World.drew W).cell? ⟨c, 0, none⟩ = some (.int .i64 4) := by have := HS.out.cell (j := 0) (v := .int .i64 s.kind) rfl; rw [ek] at this; exact this
      have EW := Lib.hid (show wordT s = wordK 4 s from word_kind ek)
      clear hk0 ek hr hm
      go_region_held3 (fun V => V.cell? ⟨c, 0, none⟩ = some (.int .i64 4))
        (first | exact hcell | assumption)
        (first
          | (go_at_call 35; refine (MA.out _).mono ?_; rintro e wn ⟨g3, g9, g11, g12, rfl, hmn, hb⟩; replace B0 := Lib.hid (B0.out.trans (hb.mono H0.out.it.sz)); replace H0 := Lib.hid (H0.out.later hb); have HM := Lib.hid hmn; replace hcell := cell_later hb hcell; have hix := fun V => ix_k4 g3 g9 g11 g12 V; unfold fn0 at hix; clear hb hmn)
          | (go_at_call 69; refine (P.out _ H0.out).mono ?_; rintro e wm ⟨rfl, hx, hb⟩; have HX := Lib.hid hx; have HY := Lib.hid hb; replace hcell := cell_blw hb hcell CB.out; clear hx hb)
          | fail)
      all_goals
        go_wp2_with fail
        go_meet
        exact ⟨Lib.hid (by rw [EW.out]; have q := HX.out.wr; rw [List.nil_append] at q; exact q), Lib.hid (B0.out.trans HY.out)⟩
    · have ek : s.kind = ((5 : Nat) : Int) := hk0.out.trans rfl
      have OK := Lib.hid (show okM5 s from hm ek)
      have P := Lib.hid (fun V (hV : WrT b b [] s V) => wmens_any b b [] s V (by decide) OK.out hV)
      have hcell : (World.drew W).cell? ⟨c, 0, none⟩ = some (.int .i64 5) := by have := HS.out.cell (j := 0) (v := .int .i64 s.kind) rfl; rw [ek] at this; exact this
      have EW := Lib.hid (show wordT s = wordK 5 s from word_kind ek)
      clear hk0 ek hr hm
      go_region_held3 (fun V => V.cell? ⟨c, 0, none⟩ = some (.int .i64 5))
        (first | exact hcell | assumption)
        (first
          | (go_at_call 35; refine (MA.out _).mono ?_; rintro e wn ⟨g3, g9, g11, g12, rfl, hmn, hb⟩; replace B0 := Lib.hid (B0.out.trans (hb.mono H0.out.it.sz)); replace H0 := Lib.hid (H0.out.later hb); have HM := Lib.hid hmn; replace hcell := cell_later hb hcell; have hix := fun V => ix_k5 g3 g9 g11 g12 V; unfold fn0 at hix; clear hb hmn)
          | (go_at_call 71; refine (P.out _ H0.out).mono ?_; rintro e wm ⟨rfl, hx, hb⟩; have HX := Lib.hid hx; have HY := Lib.hid hb; replace hcell := cell_blw hb hcell CB.out; clear hx hb)
          | fail)
      all_goals
        go_wp2_with fail
        go_meet
        exact ⟨Lib.hid (by rw [EW.out]; have q := HX.out.wr; rw [List.nil_append] at q; exact q), Lib.hid (B0.out.trans HY.out)⟩
    · have ek : s.kind = ((6 : Nat) : Int) := hk0.out.trans rfl
      have OK := Lib.hid (show okND s from ⟨⟨by have := (rng6 ek hr).1; omega, (rng6 ek hr).1.2⟩, ⟨by have := (rng6 ek hr).2; omega, (rng6 ek hr).2.2⟩⟩)
      have P := Lib.hid (fun V (hV : WrT b b [] s V) => wprop_any b b [] s V (by decide) OK.out hV)
      have hcell : (World.drew W).cell? ⟨c, 0, none⟩ = some (.int .i64 6) := by have := HS.out.cell (j := 0) (v := .int .i64 s.kind) rfl; rw [ek] at this; exact this
      have EW := Lib.hid (show wordT s = wordK 6 s from word_kind ek)
      clear hk0 ek hr hm
      go_region_held3 (fun V => V.cell? ⟨c, 0, none⟩ = some (.int .i64 6))
        (first | exact hcell | assumption)
        (first
          | (go_at_call 35; refine (MA.out _).mono ?_; rintro e wn ⟨g3, g9, g11, g12, rfl, hmn, hb⟩; replace B0 := Lib.hid (B0.out.trans (hb.mono H0.out.it.sz)); replace H0 := Lib.hid (H0.out.later hb); have HM := Lib.hid hmn; replace hcell := cell_later hb hcell; have hix := fun V => ix_k6 g3 g9 g11 g12 V; unfold fn0 at hix; clear hb hmn)
          | (go_at_call 73; refine (P.out _ H0.out).mono ?_; rintro e wm ⟨rfl, hx, hb⟩; have HX := Lib.hid hx; have HY := Lib.hid hb; replace hcell := cell_blw hb hcell CB.out; clear hx hb)
          | fail)
      all_goals
        go_wp2_with fail
        go_meet
        exact ⟨Lib.hid (by rw [EW.out]; have q := HX.out.wr; rw [List.nil_append] at q; exact q), Lib.hid (B0.out.trans HY.out)⟩
    · have ek : s.kind = ((7 : Nat) : Int) := hk0.out.trans rfl
      have OK := Lib.hid (show okC7 s from rng7 ek hr)
      have P := Lib.hid (fun V (hV : WrT b b [] s V) => wclef_any b b [] s V (by decide) OK.out hV)
      have hcell : (World.drew W).cell? ⟨c, 0, none⟩ = some (.int .i64 7) := by have := HS.out.cell (j := 0) (v := .int .i64 s.kind) rfl; rw [ek] at this; exact this
      have EW := Lib.hid (show wordT s = wordK 7 s from word_kind ek)
      clear hk0 ek hr hm
      go_region_held3 (fun V => V.cell? ⟨c, 0, none⟩ = some (.int .i64 7))
        (first | exact hcell | assumption)
        (first
          | (go_at_call 35; refine (MA.out _).mono ?_; rintro e wn ⟨g3, g9, g11, g12, rfl, hmn, hb⟩; replace B0 := Lib.hid (B0.out.trans (hb.mono H0.out.it.sz)); replace H0 := Lib.hid (H0.out.later hb); have HM := Lib.hid hmn; replace hcell := cell_later hb hcell; have hix := fun V => ix_k7 g3 g9 g11 g12 V; unfold fn0 at hix; clear hb hmn)
          | (go_at_call 75; refine (P.out _ H0.out).mono ?_; rintro e wm ⟨rfl, hx, hb⟩; have HX := Lib.hid hx; have HY := Lib.hid hb; replace hcell := cell_blw hb hcell CB.out; clear hx hb)
          | fail)
      all_goals
        go_wp2_with fail
        go_meet
        exact ⟨Lib.hid (by rw [EW.out]; have q := HX.out.wr; rw [List.nil_append] at q; exact q), Lib.hid (B0.out.trans HY.out)⟩
    · have ek : s.kind = ((8 : Nat) : Int) := hk0.out.trans rfl
      have OK := Lib.hid (show okN s from ⟨(rng8 ek hr).1, by have := rng8 ek hr; omega⟩)
      have P := Lib.hid (fun V (hV : WrT b b [] s V) => wkey_any b b [] s V (by decide) OK.out hV)
      have hcell : (World.drew W).cell? ⟨c, 0, none⟩ = some (.int .i64 8) := by have := HS.out.cell (j := 0) (v := .int .i64 s.kind) rfl; rw [ek] at this; exact this
      have EW := Lib.hid (show wordT s = wordK 8 s from word_kind ek)
      clear hk0 ek hr hm
      go_region_held3 (fun V => V.cell? ⟨c, 0, none⟩ = some (.int .i64 8))
        (first | exact hcell | assumption)
        (first
          | (go_at_call 35; refine (MA.out _).mono ?_; rintro e wn ⟨g3, g9, g11, g12, rfl, hmn, hb⟩; replace B0 := Lib.hid (B0.out.trans (hb.mono H0.out.it.sz)); replace H0 := Lib.hid (H0.out.later hb); have HM := Lib.hid hmn; replace hcell := cell_later hb hcell; have hix := fun V => ix_k8 g3 g9 g11 g12 V; unfold fn0 at hix; clear hb hmn)
          | (go_at_call 77; refine (P.out _ H0.out).mono ?_; rintro e wm ⟨rfl, hx, hb⟩; have HX := Lib.hid hx; have HY := Lib.hid hb; replace hcell := cell_blw hb hcell CB.out; clear hx hb)
          | fail)
      all_goals
        go_wp2_with fail
        go_meet
        exact ⟨Lib.hid (by rw [EW.out]; have q := HX.out.wr; rw [List.nil_append] at q; exact q), Lib.hid (B0.out.trans HY.out)⟩
    · have ek : s.kind = ((9 : Nat) : Int) := hk0.out.trans rfl
      have P := Lib.hid (fun V g (hg : Txt V g [91]) (hV : WrT b b [] s V) => walone_any [91] (by decide) g b b [] s V (by decide) hg hV)
      have hcell : (World.drew W).cell? ⟨c, 0, none⟩ = some (.int .i64 9) := by have := HS.out.cell (j := 0) (v := .int .i64 s.kind) rfl; rw [ek] at this; exact this
      have EW := Lib.hid (show wordT s = wordK 9 s from word_kind ek)
      clear hk0 ek hr hm
      go_region_held3 (fun V => V.cell? ⟨c, 0, none⟩ = some (.int .i64 9))
        (first | exact hcell | assumption)
        (first
          | (go_at_call 35; refine (MA.out _).mono ?_; rintro e wn ⟨g3, g9, g11, g12, rfl, hmn, hb⟩; replace B0 := Lib.hid (B0.out.trans (hb.mono H0.out.it.sz)); replace H0 := Lib.hid (H0.out.later hb); have HM := Lib.hid hmn; replace hcell := cell_later hb hcell; have hix := fun V => ix_k9 g3 g9 g11 g12 V; unfold fnC at hix; clear hb hmn)
          | (go_at_call 125; refine (P.out _ _ HM.out.t9 H0.out).mono ?_; rintro e wm ⟨rfl, hx, hb⟩; have HX := Lib.hid hx; have HY := Lib.hid hb; replace hcell := cell_blw hb hcell CB.out; clear hx hb)
          | fail)
      all_goals
        go_wp2_with fail
        go_meet
        exact ⟨Lib.hid (by rw [EW.out]; have q := HX.out.wr; rw [List.nil_append] at q; exact q), Lib.hid (B0.out.trans HY.out)⟩
    · have ek : s.kind = ((10 : Nat) : Int) := hk0.out.trans rfl
      have OK := Lib.hid (show okN s from ⟨by have := rng10 ek hr; omega, by have := rng10 ek hr; omega⟩)
      have P := Lib.hid (fun V (hV : WrT b b [] s V) => wclose_any b b [] s V (by decide) OK.out hV)
      have hcell : (World.drew W).cell? ⟨c, 0, none⟩ = some (.int .i64 10) := by have := HS.out.cell (j := 0) (v := .int .i64 s.kind) rfl; rw [ek] at this; exact this
      have EW := Lib.hid (show wordT s = wordK 10 s from word_kind ek)
      clear hk0 ek hr hm
      go_region_held3 (fun V => V.cell? ⟨c, 0, none⟩ = some (.int .i64 10))
        (first | exact hcell | assumption)
        (first
          | (go_at_call 35; refine (MA.out _).mono ?_; rintro e wn ⟨g3, g9, g11, g12, rfl, hmn, hb⟩; replace B0 := Lib.hid (B0.out.trans (hb.mono H0.out.it.sz)); replace H0 := Lib.hid (H0.out.later hb); have HM := Lib.hid hmn; replace hcell := cell_later hb hcell; have hix := fun V => ix_k10 g3 g9 g11 g12 V; unfold fn0 at hix; clear hb hmn)
          | (go_at_call 79; refine (P.out _ H0.out).mono ?_; rintro e wm ⟨rfl, hx, hb⟩; have HX := Lib.hid hx; have HY := Lib.hid hb; replace hcell := cell_blw hb hcell CB.out; clear hx hb)
          | fail)
      all_goals
        go_wp2_with fail
        go_meet
        exact ⟨Lib.hid (by rw [EW.out]; have q := HX.out.wr; rw [List.nil_append] at q; exact q), Lib.hid (B0.out.trans HY.out)⟩
    · have ek : s.kind = ((11 : Nat) : Int) := hk0.out.trans rfl
      have P := Lib.hid (fun V g (hg : Txt V g turnL) (hV : WrT b b [] s V) => walone_any turnL (by decide) g b b [] s V (by decide) hg hV)
      have hcell : (World.drew W).cell? ⟨c, 0, none⟩ = some (.int .i64 11) := by have := HS.out.cell (j := 0) (v := .int .i64 s.kind) rfl; rw [ek] at this; exact this
      have EW := Lib.hid (show wordT s = wordK 11 s from word_kind ek)
      clear hk0 ek hr hm
      go_region_held3 (fun V => V.cell? ⟨c, 0, none⟩ = some (.int .i64 11))
        (first | exact hcell | assumption)
        (first
          | (go_at_call 35; refine (MA.out _).mono ?_; rintro e wn ⟨g3, g9, g11, g12, rfl, hmn, hb⟩; replace B0 := Lib.hid (B0.out.trans (hb.mono H0.out.it.sz)); replace H0 := Lib.hid (H0.out.later hb); have HM := Lib.hid hmn; replace hcell := cell_later hb hcell; have hix := fun V => ix_k11 g3 g9 g11 g12 V; unfold fnC at hix; clear hb hmn)
          | (go_at_call 125; refine (P.out _ _ HM.out.t11 H0.out).mono ?_; rintro e wm ⟨rfl, hx, hb⟩; have HX := Lib.hid hx; have HY := Lib.hid hb; replace hcell := cell_blw hb hcell CB.out; clear hx hb)
          | fail)
      all_goals
        go_wp2_with fail
        go_meet
        exact ⟨Lib.hid (by rw [EW.out]; have q := HX.out.wr; rw [List.nil_append] at q; exact q), Lib.hid (B0.out.trans HY.out)⟩
    · have ek : s.kind = ((12 : Nat) : Int) := hk0.out.trans rfl
      have P := Lib.hid (fun V g (hg : Txt V g sigL) (hV : WrT b b [] s V) => walone_any sigL (by decide) g b b [] s V (by decide) hg hV)
      have hcell : (World.drew W).cell? ⟨c, 0, none⟩ = some (.int .i64 12) := by have := HS.out.cell (j := 0) (v := .int .i64 s.kind) rfl; rw [ek] at this; exact this
      have EW := Lib.hid (show wordT s = wordK 12 s from word_kind ek)
      clear hk0 ek hr hm
      go_region_held3 (fun V => V.cell? ⟨c, 0, none⟩ = some (.int .i64 12))
        (first | exact hcell | assumption)
        (first
          | (go_at_call 35; refine (MA.out _).mono ?_; rintro e wn ⟨g3, g9, g11, g12, rfl, hmn, hb⟩; replace B0 := Lib.hid (B0.out.trans (hb.mono H0.out.it.sz)); replace H0 := Lib.hid (H0.out.later hb); have HM := Lib.hid hmn; replace hcell := cell_later hb hcell; have hix := fun V => ix_k12 g3 g9 g11 g12 V; unfold fnC at hix; clear hb hmn)
          | (go_at_call 125; refine (P.out _ _ HM.out.t12 H0.out).mono ?_; rintro e wm ⟨rfl, hx, hb⟩; have HX := Lib.hid hx; have HY := Lib.hid hb; replace hcell := cell_blw hb hcell CB.out; clear hx hb)
          | fail)
      all_goals
        go_wp2_with fail
        go_meet
        exact ⟨Lib.hid (by rw [EW.out]; have q := HX.out.wr; rw [List.nil_append] at q; exact q), Lib.hid (B0.out.trans HY.out)⟩
  case rest =>
    obtain ⟨HX, HB⟩ := hcut
    have P := Lib.hid (HN.out _ _ _ HX.out)
    clear HN KI H0 B0 HS MA
    go_wp2_with fail
    refine P.out.mono ?_
    rintro e w5 ⟨rfl, hb⟩
    have HB2 := Lib.hid (HB.out.trans hb)
    clear hb P
    go_wp2_with fail
    go_ret2
    exact ⟨rfl, by rw [CW.out]; exact B1.out.trans (HB2.out.mono (Nat.le_of_lt CB.out))⟩
theorem pword_any (s : Sg) (w : World) (T : TabN w) : Calls Tryz.prog 11 #[sgv s] w fun e w' => e = .returned (.tuple #[.string (bytes (wdT s)), .int .i64 (oneE s)]) ∧ Below w.heap.size w w' := by
  unfold wdT
  by_cases h : oneE s = 0
  · rw [if_pos h, h]; exact pword_ok s h w T
  · rw [if_neg h]; exact pword_no s h w T
end Go.Proofs.YtdmedealdhadcaaGreatDoor

namespace Go.Proofs.YtdmedealdhadcaaGreatDoor
open Go.ChangeShapes Go.WideShapes Go.ChangeAt Go.RowKit Go.Deep Go.Joins
section
variable {H : Type} {enc : TypeId × Value → H} {W : World} {sp : Nat → Bool} {hd : Bool} {b0 : Nat}
set_option maxRecDepth 100000 in
/-- An argument that is a sign. -/
theorem open_sign {base : Nat} {r : Reach} {v : Value} {d : DataW H} {ps : List MemPlace} (hw : Value.okWide Tryz.prog W r base 27 v)
    (h : DataW.Trod enc Tryz.prog W 0 (fun _ => true) true 27 v d ps) : ∃ s : Sg, v = sgv s := by
  obtain ⟨cs, rfl, hsz⟩ := okWide_struct Tryz.underlying27 hw
  obtain ⟨fuel, hf⟩ := h
  obtain ⟨s, hs⟩ := cells_sign hf (by rw [size_sig4] at hsz; show cs.toList.length = 17; rw [Array.length_toList]; exact hsz)
  refine ⟨s, ?_⟩
  have : cs.toList = (sgA s).toList := hs
  unfold sgv
  rw [Array.toList_inj.1 this]
end
/-! ### The tables -/
theorem ty_tab : (Tryz.prog.globals[5]?).map (·.type) = some 228 := by kernel_rfl
theorem cells_tab : Tryz.prog.cellsOf 228 = 20 := by kernel_rfl
theorem cells_u64 : Tryz.prog.cellsOf 221 = 1 := by kernel_rfl
theorem data_tab : (Rows.laid_internal_strconv_uint64pow10 : DataW Unit) = Lib.tabData .u64 Lib.pow10Tab := by kernel_rfl
theorem itab_of {W : World} (h : Lib.VarReads Tryz.prog W "internal/strconv.uint64pow10" Rows.laid_internal_strconv_uint64pow10) : ITab W := by
  obtain ⟨g, t, cs, fuel, p, hg, hty, hvar, hd⟩ := h
  obtain rfl := Option.some.inj (gITab.symm.trans hg)
  obtain rfl := Option.some.inj (ty_tab.symm.trans hty)
  rw [data_tab] at hd
  unfold ITab Lib.TabIs
  rw [hvar, ← Lib.cells_of_tab Tryz.underlying228 Tryz.underlying221 cells_u64 cells_tab hd]
theorem tabn_laid {L : List (String × DataW Unit)} {W : World} (h : laidMet Tryz.prog L W) (h1 : ("tactus/clef.clefPitches", Rows.laid_tactus_clef_clefPitches) ∈ L) (h2 : ("tactus/sign.usedBy", Rows.laid_tactus_sign_usedBy) ∈ L) (h3 : ("internal/strconv.uint64pow10", Rows.laid_internal_strconv_uint64pow10) ∈ L) : TabN W := by
  exact ⟨tabs_of (Lib.laidMet.reads h h1) (Lib.laidMet.reads h h2), itab_of (Lib.laidMet.reads h h3)⟩
set_option maxRecDepth 100000 in
theorem tabs_letters {W : World} (hL : laidMetH Tryz.prog Rows.notateLettersRow.laid W) : TabN W := by
  rw [MakeChecks.laidMetH_plain _ _ _ (by kernel_rfl)] at hL
  exact tabn_laid hL (.tail _ (.tail _ (.tail _ (.tail _ (.head _))))) (.tail _ (.tail _ (.tail _ (.tail _ (.tail _ (.head _)))))) (.tail _ (.tail _ (.head _)))
end Go.Proofs.YtdmedealdhadcaaGreatDoor
