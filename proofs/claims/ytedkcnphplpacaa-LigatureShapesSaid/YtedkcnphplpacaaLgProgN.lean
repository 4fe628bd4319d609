/- The program's divisions: the best division from each note on. -/
import Derived.Test.YtedkcnphplpacaaLgProgK
import Derived.Laws.MakeOwn
namespace Go.Proofs.Ytedkcnphplpacaa
open Go.RowKit

/-! ### The table, as the loops reckon it -/
def setD (F : Nat → Int × Int) (i : Nat) (p : Int × Int) : Nat → Int × Int := fun j => if j = i then p else F j
theorem setD_at (F : Nat → Int × Int) (i : Nat) (p : Int × Int) : setD F i p i = p := if_pos rfl
theorem setD_ne (F : Nat → Int × Int) {i j : Nat} (p : Int × Int) (h : j ≠ i) : setD F i p j = F j := if_neg h
theorem setD_set (F : Nat → Int × Int) (i : Nat) (p q : Int × Int) : setD (setD F i p) i q = setD F i q := by
  funext j; unfold setD; split <;> rfl
def stepD (C : Nat → Nat → Bool) (F : Nat → Int × Int) (i : Nat) (cur : Int × Int) (t : Nat) : Int × Int := if (F t).2 + 1 ≤ cur.2 ∧ C i t = true then ((t : Int) - i, (F t).2 + 1) else cur
def rowD (C : Nat → Nat → Bool) (F : Nat → Int × Int) (i m : Nat) : Int × Int := (List.range' (i + 2) m).foldl (stepD C F i) (1, (F (i + 1)).2 + 1)
theorem rowD_zero (C : Nat → Nat → Bool) (F : Nat → Int × Int) (i : Nat) : rowD C F i 0 = (1, (F (i + 1)).2 + 1) := rfl
theorem rowD_succ (C : Nat → Nat → Bool) (F : Nat → Int × Int) (i m : Nat) : rowD C F i (m + 1) = stepD C F i (rowD C F i m) (i + 2 + m) := by
  unfold rowD
  rw [List.range'_1_concat, List.foldl_append]; rfl
def tabD (C : Nat → Nat → Bool) (n : Nat) : Nat → Nat → Int × Int
  | 0 => fun _ => (0, 0)
  | m + 1 => setD (tabD C n m) (n - 1 - m) (rowD C (tabD C n m) (n - 1 - m) m)
theorem row_bds (C : Nat → Nat → Bool) (F : Nat → Int × Int) (i : Nat) (B : Int) (h : ∀ j, 0 ≤ (F j).2 ∧ (F j).2 ≤ B) : ∀ m, 0 ≤ (rowD C F i m).2 ∧ (rowD C F i m).2 ≤ B + 1 ∧ 1 ≤ (rowD C F i m).1 ∧ (rowD C F i m).1 ≤ m + 1
  | 0 => by rw [rowD_zero]; have := h (i + 1); simp; omega
  | m + 1 => by
    have ih := row_bds C F i B h m
    rw [rowD_succ]
    unfold stepD
    split
    · have := h (i + 2 + m); simp only; omega
    · omega
theorem tab_bdsD (C : Nat → Nat → Bool) (n : Nat) : ∀ m j, 0 ≤ (tabD C n m j).2 ∧ (tabD C n m j).2 ≤ m
  | 0, j => by simp [tabD]
  | m + 1, j => by
    show 0 ≤ (setD _ _ _ j).2 ∧ (setD _ _ _ j).2 ≤ _
    unfold setD
    split
    · have := row_bds C (tabD C n m) (n - 1 - m) m (fun j => tab_bdsD C n m j) m; omega
    · have := tab_bdsD C n m j; omega

/-! ### The table in memory -/
structure DvC (N : Nat) (F : Nat → Int × Int) (cur : Array Value) : Prop where
  size : cur.size = N * 2
  a0 : ∀ j, j < N → cur[j * 2]? = some (.int .i64 (F j).1)
  a1 : ∀ j, j < N → cur[j * 2 + 1]? = some (.int .i64 (F j).2)
theorem DvC.zero (N : Nat) : DvC N (fun _ => (0, 0)) (madeCells #[.int .i64 0, .int .i64 0] (N * 2)) := by
  have key : ∀ k, k < N * 2 → (madeCells #[.int .i64 0, .int .i64 0] (N * 2))[k]? = some (.int .i64 0) := fun k hk => by
    unfold madeCells
    rw [Array.getElem?_map, Array.getElem?_range, if_pos hk, Option.map_some]
    have h2 : k % 2 = 0 ∨ k % 2 = 1 := by omega
    rcases h2 with e | e
    · show some (#[Value.int .i64 0, .int .i64 0][k % 2]!) = _; rw [e]; rfl
    · show some (#[Value.int .i64 0, .int .i64 0][k % 2]!) = _; rw [e]; rfl
  exact ⟨size_madeCells _ _, fun j hj => key _ (by omega), fun j hj => key _ (by omega)⟩
theorem DvC.put {N : Nat} {F : Nat → Int × Int} {cur : Array Value} (h : DvC N F cur) {i : Nat} (hi : i < N) (p : Int × Int) : DvC N (setD F i p) ((cur.setIfInBounds (i * 2) (.int .i64 p.1)).setIfInBounds (i * 2 + 1) (.int .i64 p.2)) := by
  have hs := h.size
  refine ⟨by simp [hs], fun j hj => ?_, fun j hj => ?_⟩
  · rw [Array.getElem?_setIfInBounds, if_neg (by omega), Array.getElem?_setIfInBounds]
    by_cases e : j = i
    · subst e; rw [if_pos rfl, if_pos (by omega), setD_at]
    · rw [if_neg (by omega), setD_ne _ _ e]; exact h.a0 j hj
  · rw [Array.getElem?_setIfInBounds]
    by_cases e : j = i
    · subst e; rw [if_pos rfl, if_pos (by simp; omega), setD_at]
    · rw [if_neg (by omega), Array.getElem?_setIfInBounds, if_neg (by omega), setD_ne _ _ e]; exact h.a1 j hj
def TbD (N : Nat) (F : Nat → Int × Int) (k : Nat) (W : World) : Prop := ∃ cur, HoldsB W k 79 cur ∧ DvC N F cur
theorem TbD.later {N k : Nat} {F : Nat → Int × Int} {W W' : World} (h : TbD N F k W) (b : Below W.heap.size W W') : TbD N F k W' := by
  obtain ⟨cur, h1, h2⟩ := h; exact ⟨cur, h1.later b, h2⟩
theorem TbD.c0 {N k : Nat} {F : Nat → Int × Int} {W : World} (h : TbD N F k W) {j : Nat} (hj : j < N) : W.cell? ⟨k, j * 2, none⟩ = some (.int .i64 (F j).1) := by
  obtain ⟨cur, h1, h2⟩ := h; exact h1.cell (h2.a0 j hj)
theorem TbD.c1 {N k : Nat} {F : Nat → Int × Int} {W : World} (h : TbD N F k W) {j : Nat} (hj : j < N) : W.cell? ⟨k, j * 2 + 1, none⟩ = some (.int .i64 (F j).2) := by
  obtain ⟨cur, h1, h2⟩ := h; exact h1.cell (h2.a1 j hj)
theorem TbD.fr {N k : Nat} {F : Nat → Int × Int} {W : World} (h : TbD N F k W) (j : Nat) : W.frozen? ⟨k, j, none⟩ = false := by
  obtain ⟨cur, h1, h2⟩ := h; exact h1.frozen j
theorem TbD.put {N k : Nat} {F : Nat → Int × Int} {W : World} (h : TbD N F k W) {i : Nat} (hi : i < N) (a b : Int) : TbD N (setD F i (a, b)) k ((W.setCell ⟨k, i * 2, none⟩ (.int .i64 a)).setCell ⟨k, i * 2 + 1, none⟩ (.int .i64 b)) := by
  obtain ⟨cur, h1, h2⟩ := h; exact ⟨_, (h1.set (i * 2) _).set (i * 2 + 1) _, h2.put hi (a, b)⟩
theorem info_div : (Try.prog.info? 79).map (fun i => (i.zero, i.size, i.bytes)) = some (some (.agg #[.int .i64 0, .int .i64 0]), 2, 16) := by kernel_rfl

/-! ### A piece of a list -/
def segI (l : List Int) (i t : Nat) : List Int := (l.drop i).take (t - i)
theorem segI_len (l : List Int) {i t : Nat} (h : t ≤ l.length) : (segI l i t).length = t - i := by unfold segI; simp; omega
theorem SlP.seg {w : World} {b off cap n : Nat} {l : List Int} (h : SlP w 1 (some ⟨b, off, none⟩) n cap (ints l)) {i t : Nat} (hit : i ≤ t) (ht : t ≤ n) : SlP w 1 (some ⟨b, off + i, none⟩) (t - i) (cap - i) (ints (segI l i t)) := by
  have hl := h.len
  rw [List.length_map, Nat.mul_one] at hl
  have hf := h.fit
  have hm := h.max
  refine ⟨by rw [List.length_map, segI_len l (by omega), Nat.mul_one], by omega, by omega, fun e => (by cases e), ints_one _, fun h0 => ?_⟩
  obtain ⟨b', o', e, hb, hu⟩ := h.at_ (by omega)
  injection e with e
  injection e with e1 e2 _
  subst e1 e2
  refine ⟨b, off + i, rfl, hb, fun j u hj => ?_⟩
  rw [Nat.add_assoc]
  refine hu (i + j) u ?_
  have hlt := (List.getElem?_eq_some_iff.1 hj).1
  rw [List.length_map, segI_len l (by omega)] at hlt
  rw [← hj, List.getElem?_map, List.getElem?_map]
  unfold segI
  rw [List.getElem?_take, if_pos hlt, List.getElem?_drop]
/-- Whether a piece can be ligated. -/
def CNP (ps vs : List Int) (i t : Nat) : Bool := decide (0 < (pAll (segI ps i t) (segI vs i t) (t - i) []).length)

set_option maxRecDepth 100000 in
set_option maxHeartbeats 4000000 in
theorem pdiv_any (ps vs : List Int) (n : Nat) (hn : ps.length = n) (hn2 : 2 ≤ n) (hn12 : n ≤ 12) (p q : Option Addr) (cp cq : Nat) (w : World) (hp : SlP w 1 p n cp (ints ps)) (hq : SlP w 1 q n cq (ints vs)) :
    Calls Try.prog 55 #[.slice p n cp, .slice q n cq] w fun e w' => ∃ k, e = .returned (.slice (some ⟨k, 0, none⟩) (n + 1) (n + 1)) ∧ TbD (n + 1) (tabD (CNP ps vs) n n) k w' ∧ Below w.heap.size w w' := by
  have f1 := hp.fit
  have f2 := hp.max
  have g1 := hq.fit
  have g2 := hq.max
  obtain ⟨pb, po, rfl, -, -⟩ := hp.at_ (by omega)
  obtain ⟨qb, qo, rfl, -, -⟩ := hq.at_ (by omega)
  have CN := Lib.hid (show ∀ i t, i + 2 ≤ t → t ≤ n → ∀ W, Below w.heap.size w W → Calls Try.prog 54 #[.slice (some ⟨pb, po + i, none⟩) (t - i : Nat) (cp - i), .slice (some ⟨qb, qo + i, none⟩) (t - i : Nat) (cq - i)] W fun e w' => e = .returned (.bool (CNP ps vs i t)) ∧ Below W.heap.size W w' from fun i t h1 h2 W b =>
    pcan0_any (segI ps i t) (segI vs i t) (t - i) (segI_len ps (by omega)) (by omega) (by omega) _ _ _ _ W ((hp.later b).seg (by omega) h2) ((hq.later b).seg (by omega) h2))
  have hBd := Lib.hid (tab_bdsD (CNP ps vs) n)
  clear hp hq hn
  generalize CNP ps vs = C at *
  obtain ⟨N, hN⟩ : ∃ N, n + 1 = N := ⟨_, rfl⟩
  rw [hN]
  have xN : IntKind.i64.wrap ((n : Int) + 1) = (N : Int) := by rw [IntWalk.i64_in _ (by omega)]; omega
  have x0 : IntKind.i64.wrap ((n : Int) - 1) = (n : Int) - 1 := IntWalk.i64_in _ (by omega)
  have mk : ∃ cur0, DvC N (fun _ => (0, 0)) cur0 ∧ ∀ W, (Instr.makeSlice 76 (.int .i64 (N : Int)) (.int .i64 (N : Int))).run Try.prog W = .ok (.slice (some ⟨W.heap.size, 0, none⟩) N N) (W.alloc (.cells cur0 79)) := by
    obtain ⟨i0, hi0, hz0, hz1, hz2⟩ := info_parts info_div
    refine ⟨_, DvC.zero N, fun W => ?_⟩
    have := run_make (P := Try.prog) W 76 79 i0 (.agg #[.int .i64 0, .int .i64 0]) Try.underlying76 hi0 hz0 .i64 .i64 N N (by omega) (by omega) (by rw [hz2]; omega) (by omega)
    rw [hz1] at this
    simp at this
    exact this
  obtain ⟨cur0, hcur, mk⟩ := mk
  have T0 := Lib.hid (show TbD N (tabD C n 0) w.heap.size (w.alloc (.cells cur0 79)) from ⟨cur0, HoldsB.new w _ _, hcur⟩)
  have B0 := Lib.hid (w_alloc (w_refl w) (.cells cur0 79))
  obtain ⟨k, hk⟩ : ∃ k, w.heap.size = k := ⟨_, rfl⟩
  have hkk := Lib.hid (Nat.le_of_eq hk)
  clear hcur
  go_enter Try.func55, Try.ntmps55
  go_wp2_with fail
  clear mk xN x0
  rw [hk] at T0
  try rw [hk]
  go_loopw [6] (fun s6 wr => ∃ m : Nat, m ≤ n ∧ s6 = .int .i64 ((n : Int) - 1 - m) ∧ Hid (TbD N (tabD C n m) k wr ∧ Below w.heap.size w wr)) (fun s6 _ => (intOf s6 + 1).toNat)
  case atStart => exact ⟨0, by omega, by simp, Lib.hid ⟨T0.out, B0.out⟩⟩
  case round =>
    clear T0 B0 hk
    rename World => wr
    obtain ⟨m, hm, rfl, hG⟩ := hrel
    by_cases hlt : m < n
    · obtain ⟨i, hi⟩ : ∃ i, n - 1 - m = i := ⟨_, rfl⟩
      obtain ⟨i1, hi1⟩ : ∃ i1, i + 1 = i1 := ⟨_, rfl⟩
      have ei : (n : Int) - 1 - m = (i : Int) := by omega
      have ei2 : IntKind.i64.wrap ((i : Int) - 1) = (n : Int) - 1 - ((m + 1 : Nat) : Int) := by rw [IntWalk.i64_in _ (by omega)]; omega
      rw [ei]
      have hi0 : (0 : Int) ≤ i := by omega
      have hin : (i : Int) < N := by omega
      have xi1 : IntKind.i64.wrap ((i : Int) + 1) = (i1 : Int) := by rw [IntWalk.i64_in _ (by omega)]; omega
      have hi10 : (0 : Int) ≤ i1 := by omega
      have hi1n : (i1 : Int) < N := by omega
      have hiN : i < N := by omega
      have xi2 : IntKind.i64.wrap ((i : Int) + 2) = ((i + 2 + 0 : Nat) : Int) := by rw [IntWalk.i64_in _ (by omega)]; omega
      have hFt := Lib.hid (show tabD C n (m + 1) = setD (tabD C n m) i (rowD C (tabD C n m) i m) by rw [← hi]; rfl)
      have hFb := Lib.hid (show ∀ j, 0 ≤ (tabD C n m j).2 ∧ (tabD C n m j).2 ≤ m from fun j => hBd.out m j)
      have hrm := Lib.hid (show i + 1 + m = n by omega)
      generalize tabD C n m = FF at *
      have hRb := Lib.hid (row_bds C FF i m hFb.out)
      have c1 := hG.out.1.c1 (show i1 < N by omega)
      have d0 := hG.out.1.c0 hiN
      have d1 := hG.out.1.c1 hiN
      have fr0 := hG.out.1.fr (i * 2)
      have fr1 := hG.out.1.fr (i * 2 + 1)
      have hb1 := hFb.out i1
      have xa : IntKind.i64.wrap ((FF i1).2 + 1) = (FF i1).2 + 1 := IntWalk.i64_in _ (by omega)
      have HP := Lib.hid (show TbD N (setD FF i (rowD C FF i 0)) k _ from (by rw [rowD_zero, hi1]; exact hG.out.1.put hiN 1 ((FF i1).2 + 1)))
      have HB := Lib.hid (w_put (w_put hG.out.2 hkk.out (i * 2) (.int .i64 1)) hkk.out (i * 2 + 1) (.int .i64 ((FF i1).2 + 1)))
      clear hG hb1
      generalize (FF i1).2 = a1 at *
      go_wp2_with fail
      clear c1 d0 d1 fr0 fr1 xa
      go_loopw [7] (fun s7 wx => ∃ r : Nat, r ≤ m ∧ s7 = .int .i64 ((i + 2 + r : Nat) : Int) ∧ Hid (TbD N (setD FF i (rowD C FF i r)) k wx ∧ Below w.heap.size w wx)) (fun s7 _ => n + 1 - (intOf s7).toNat)
      case atStart => exact ⟨0, by omega, rfl, Lib.hid ⟨HP.out, HB.out⟩⟩
      case round =>
        clear HP HB
        rename World => wx
        obtain ⟨r, hr, rfl, hH⟩ := hrel
        obtain ⟨t, ht⟩ : ∃ t, i + 2 + r = t := ⟨_, rfl⟩
        rw [ht]
        by_cases hrt : r < m
        · have htn : t ≤ n := by have := hrm.out; omega
          have htn' : (t : Int) ≤ n := by omega
          have ht0 : (0 : Int) ≤ t := by omega
          have htN : (t : Int) < N := by omega
          have hit : i + 2 ≤ t := by omega
          have hit' : (i : Int) ≤ t := by omega
          have xt : IntKind.i64.wrap ((t : Int) + 1) = ((i + 2 + (r + 1) : Nat) : Int) := by rw [IntWalk.i64_in _ (by omega)]; omega
          have hRs := Lib.hid (show rowD C FF i (r + 1) = stepD C FF i (rowD C FF i r) t by rw [rowD_succ, ht])
          have hbt := hFb.out t
          have hbr := hRb.out r
          have c1 := hH.out.1.c1 (show t < N by omega)
          rw [setD_ne _ _ (by omega)] at c1
          have d0 := hH.out.1.c0 hiN
          have d1 := hH.out.1.c1 hiN
          rw [setD_at] at d0 d1
          have xb : IntKind.i64.wrap ((FF t).2 + 1) = (FF t).2 + 1 := IntWalk.i64_in _ (by omega)
          have hS : stepD C FF i (rowD C FF i r) t = if (FF t).2 + 1 ≤ (rowD C FF i r).2 ∧ C i t = true then ((t : Int) - i, (FF t).2 + 1) else rowD C FF i r := rfl
          have HS3 := Lib.hid (show ∀ W, TbD N (setD FF i (rowD C FF i r)) k W ∧ Below w.heap.size w W → W.cell? ⟨k, t * 2 + 1, none⟩ = some (.int .i64 (FF t).2) ∧ W.cell? ⟨k, i * 2 + 1, none⟩ = some (.int .i64 (rowD C FF i r).2) from fun W h => ⟨by have := h.1.c1 (show t < N by omega); rwa [setD_ne _ _ (by omega)] at this, by have := h.1.c1 hiN; rwa [setD_at] at this⟩)
          rw [hS] at hRs
          clear hS
          obtain ⟨b, hbb⟩ : ∃ b, (FF t).2 = b := ⟨_, rfl⟩
          obtain ⟨cc, hcc⟩ : ∃ c, (rowD C FF i r).2 = c := ⟨_, rfl⟩
          rw [hbb] at c1 xb hRs HS3 hbt
          rw [hcc] at d1 hRs HS3 hbr
          clear hbb hcc hbt hbr hFb hRb
          go_wp2_with fail
          obtain ⟨BO, hBO⟩ : ∃ x, (decide (b + 1 ≤ cc) && C i t) = x := ⟨_, rfl⟩
          have HBO := Lib.hid hBO
          clear hBO
          go_cut [62] (fun s62 wy => s62 = .bool BO ∧ Hid (TbD N (setD FF i (rowD C FF i r)) k wy ∧ Below w.heap.size w wy))
          case first =>
            have FX0 := hH
            clear hRs hH xt
            by_cases hle : b + 1 ≤ cc
            ·
              refine wp_region_held (S := (fun W => W.cell? ⟨k, t * 2 + 1, none⟩ = some (.int .i64 b) ∧ W.cell? ⟨k, i * 2 + 1, none⟩ = some (.int .i64 cc))) (by kernel_rfl) ?_
              change wpAnyH _ _ _ _ _ _ _ _ (World.drew _)
              have FX := Lib.hid (show TbD N (setD FF i (rowD C FF i r)) k (World.drew wx) ∧ Below w.heap.size w (World.drew wx) from ⟨FX0.out.1.later (w_refl _).drew, w_below FX0.out.2 (w_refl _).drew⟩)
              clear FX0
              generalize World.drew wx = y at *
              refine wpAnyH_take (i := 0) (v := .int .i64 (b + 1)) rfl (by kernel_rfl) (by kernel_rfl) (by kernel_rfl) (fun _ _ _ h => h) (Or.inl ⟨by kernel_rfl, fun _ _ => by go_simp⟩) (HS3.out _ FX.out) ?_
              refine wpAnyH_take (i := 1) (v := .slice (some ⟨k, 0, none⟩) N N) rfl (by kernel_rfl) (by kernel_rfl) (by kernel_rfl) (fun _ _ _ h => h) (Or.inl ⟨by kernel_rfl, fun _ _ => by go_simp⟩) (HS3.out _ FX.out) ?_
              refine wpAnyH_take (i := 2) (v := .int .i64 (i : Int)) rfl (by kernel_rfl) (by kernel_rfl) (by kernel_rfl) (fun _ _ _ h => h) (Or.inl ⟨by kernel_rfl, fun _ _ => by go_simp⟩) (HS3.out _ FX.out) ?_
              refine wpAnyH_take (i := 3) (v := .pointer (some ⟨k, i * 2, none⟩)) rfl (by kernel_rfl) (by kernel_rfl) (by kernel_rfl) (fun _ _ _ h => h) (Or.inl ⟨by kernel_rfl, fun _ _ => by go_simp⟩) (HS3.out _ FX.out) ?_
              refine wpAnyH_take (i := 4) (v := .pointer (some ⟨k, i * 2 + 1, none⟩)) rfl (by kernel_rfl) (by kernel_rfl) (by kernel_rfl) (fun _ _ _ h => h) (Or.inl ⟨by kernel_rfl, fun _ _ => by go_simp⟩) (HS3.out _ FX.out) ?_
              refine wpAnyH_take (i := 5) (v := .int .i64 cc) rfl (by kernel_rfl) (by kernel_rfl) (by kernel_rfl) (fun _ _ _ h => h) (Or.inl ⟨by kernel_rfl, fun W hW => by (obtain ⟨c1, c2⟩ := hW; go_simp)⟩) (HS3.out _ FX.out) ?_
              refine wpAnyH_take (i := 6) (v := .bool true) rfl (by kernel_rfl) (by kernel_rfl) (by kernel_rfl) (fun _ _ _ h => h) (Or.inl ⟨by kernel_rfl, fun _ _ => by go_simp⟩) (HS3.out _ FX.out) ?_
              refine wpAnyH_take (i := 7) (v := .bool true) rfl (by kernel_rfl) (by kernel_rfl) (by kernel_rfl) (fun _ _ _ h => h) (Or.inl ⟨by kernel_rfl, fun _ _ => by go_simp⟩) (HS3.out _ FX.out) ?_
              refine wpAnyH_take (i := 8) (v := .slice (some ⟨pb, po, none⟩) n cp) rfl (by kernel_rfl) (by kernel_rfl) (by kernel_rfl) (fun _ _ _ h => h) (Or.inl ⟨by kernel_rfl, fun _ _ => by go_simp⟩) (HS3.out _ FX.out) ?_
              refine wpAnyH_take (i := 9) (v := .int .i64 (i : Int)) rfl (by kernel_rfl) (by kernel_rfl) (by kernel_rfl) (fun _ _ _ h => h) (Or.inl ⟨by kernel_rfl, fun _ _ => by go_simp⟩) (HS3.out _ FX.out) ?_
              refine wpAnyH_take (i := 10) (v := .int .i64 (t : Int)) rfl (by kernel_rfl) (by kernel_rfl) (by kernel_rfl) (fun _ _ _ h => h) (Or.inl ⟨by kernel_rfl, fun _ _ => by go_simp⟩) (HS3.out _ FX.out) ?_
              refine wpAnyH_take (i := 11) (v := .slice (some ⟨pb, po + i, none⟩) (t - i) (cp - i)) rfl (by kernel_rfl) (by kernel_rfl) (by kernel_rfl) (fun _ _ _ h => h) (Or.inl ⟨by kernel_rfl, fun W _ => by go_simp; rw [if_pos (by omega), if_pos (by omega), if_neg (by omega)]⟩) (HS3.out _ FX.out) ?_
              refine wpAnyH_take (i := 12) (v := .slice (some ⟨qb, qo, none⟩) n cq) rfl (by kernel_rfl) (by kernel_rfl) (by kernel_rfl) (fun _ _ _ h => h) (Or.inl ⟨by kernel_rfl, fun _ _ => by go_simp⟩) (HS3.out _ FX.out) ?_
              refine wpAnyH_take (i := 13) (v := .int .i64 (i : Int)) rfl (by kernel_rfl) (by kernel_rfl) (by kernel_rfl) (fun _ _ _ h => h) (Or.inl ⟨by kernel_rfl, fun _ _ => by go_simp⟩) (HS3.out _ FX.out) ?_
              refine wpAnyH_take (i := 14) (v := .int .i64 (t : Int)) rfl (by kernel_rfl) (by kernel_rfl) (by kernel_rfl) (fun _ _ _ h => h) (Or.inl ⟨by kernel_rfl, fun _ _ => by go_simp⟩) (HS3.out _ FX.out) ?_
              refine wpAnyH_take (i := 15) (v := .slice (some ⟨qb, qo + i, none⟩) (t - i) (cq - i)) rfl (by kernel_rfl) (by kernel_rfl) (by kernel_rfl) (fun _ _ _ h => h) (Or.inl ⟨by kernel_rfl, fun W _ => by go_simp; rw [if_pos (by omega), if_pos (by omega), if_neg (by omega)]⟩) (HS3.out _ FX.out) ?_
              refine wpAnyH_ready (rs := [16]) (by kernel_rfl) (by simp) ?_
              refine AllReadyH.cons rfl (fun K hK => ?_) AllReadyH.nil
              rw [if_pos (by kernel_rfl)]
              go_simp
              go_at_call 54
              refine (CN.out i t hit htn _ FX.out.2).mono ?_
              rintro e y2 ⟨rfl, hb⟩
              replace FX := Lib.hid (show TbD N (setD FF i (rowD C FF i r)) k y2 ∧ Below w.heap.size w y2 from ⟨FX.out.1.later hb, w_below FX.out.2 hb⟩)
              clear hb
              go_simp
              refine hK.out _ _ (HS3.out _ FX.out) (fun _ => ?_)
              clear hK K
              refine wpAnyH_take (i := 17) (v := .bool (C i t)) rfl (by kernel_rfl) (by kernel_rfl) (by kernel_rfl) (fun _ _ _ h => h) (Or.inl ⟨by kernel_rfl, fun _ _ => by go_simp⟩) (HS3.out _ FX.out) ?_
              refine wpAnyH_done (by kernel_rfl) ?_ _
              go_wp2_with fail
              try simp only [Act.put, List.getElem_toArray, List.getElem_cons_succ, List.getElem_cons_zero, List.setIfInBounds_toArray, List.set_cons_succ, List.set_cons_zero]
              go_meet
              exact ⟨by rw [← HBO.out, decide_eq_true hle, Bool.true_and], FX⟩
            · go_quiet (fail)
              go_wp2_with fail
              go_meet
              exact ⟨by rw [← HBO.out, decide_eq_false (show ¬ b + 1 ≤ cc by omega), Bool.false_and], Lib.hid ⟨FX0.out.1.later ⟨rfl, rfl, rfl, Nat.le_refl _, fun _ _ => rfl⟩, w_below FX0.out.2 ⟨rfl, rfl, rfl, Nat.le_refl _, fun _ _ => rfl⟩⟩⟩
          case rest =>
            clear c1 d0 d1 hH HS3
            rename World => wy
            obtain ⟨rfl, hH⟩ := hcut
            by_cases hdo : b + 1 ≤ cc ∧ C i t = true
            · rw [if_pos hdo] at hRs
              obtain rfl : true = BO := by rw [← HBO.out, decide_eq_true hdo.1, hdo.2]; rfl
              have xs : IntKind.i64.wrap ((t : Int) - i) = (t : Int) - i := IntWalk.i64_in _ (by omega)
              have d0 := hH.out.1.c0 hiN
              have d1 := hH.out.1.c1 hiN
              rw [setD_at] at d0 d1
              have fr0 := hH.out.1.fr (i * 2)
              have fr1 := hH.out.1.fr (i * 2 + 1)
              have HN := Lib.hid (show TbD N (setD FF i (rowD C FF i (r + 1))) k _ from (by rw [hRs.out]; have := hH.out.1.put hiN ((t : Int) - i) (b + 1); rw [setD_set] at this; exact this))
              have HM := Lib.hid (w_put (w_put hH.out.2 hkk.out (i * 2) (.int .i64 ((t : Int) - i))) hkk.out (i * 2 + 1) (.int .i64 (b + 1)))
              clear hH hRs hdo HBO
              go_wp2_with fail
              go_roundw
              case rel => exact ⟨r + 1, by omega, by go_num, Lib.hid ⟨HN.out, HM.out⟩⟩
              case measure => simp [intOf]; omega
            · rw [if_neg hdo] at hRs
              have e0 : (decide (b + 1 ≤ cc) && C i t) = false := by
                cases h : (decide (b + 1 ≤ cc) && C i t) with
                | false => rfl
                | true => rw [Bool.and_eq_true, decide_eq_true_iff] at h; exact absurd h hdo
              obtain rfl : false = BO := by rw [← HBO.out, e0]
              have HN := Lib.hid (show TbD N (setD FF i (rowD C FF i (r + 1))) k wy ∧ Below w.heap.size w wy from ⟨by rw [hRs.out]; exact hH.out.1, hH.out.2⟩)
              clear hH hRs hdo e0 HBO
              go_wp2_with fail
              go_roundw
              case rel => exact ⟨r + 1, by omega, by go_num, HN⟩
              case measure => simp [intOf]; omega
        · obtain rfl : r = m := by omega
          have htn : ¬ (t : Int) ≤ n := by have := hrm.out; omega
          rw [← hFt.out] at hH
          clear hFt hFb hRb
          go_wp2_with fail
          go_roundw
          case rel => exact ⟨r + 1, by omega, by go_num, hH⟩
          case measure => simp [intOf]; omega
    · obtain rfl : m = n := by omega
      have hneg : ¬ (0 : Int) ≤ (m : Int) - 1 - m := by omega
      clear CN hBd
      go_wp2_with fail
      go_ret
      exact ⟨k, rfl, hG.out.1, hG.out.2⟩

end Go.Proofs.Ytedkcnphplpacaa
