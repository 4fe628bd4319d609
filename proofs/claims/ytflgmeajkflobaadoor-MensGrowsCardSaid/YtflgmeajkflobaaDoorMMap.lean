/- The map of the texts: what it holds; and what is read as a mensuration, of the program and of the reference. -/
import Derived.Test.YtflgmeajkflobaaDoorMText
import Derived.Maps.OwnSet
import Derived.Maps.OwnOps
namespace Go.Proofs.YtflgmeajkflobaaDoor
open Go.RowKit Go.Maps Go.WideMaps

/-- What a list of four numbers reads as. -/
def numElem {H : Type} : Value → Option (DataW H × List MemPlace)
  | .agg cs => match cs.toList with
    | [.int .i64 a, .int .i64 b, .int .i64 c, .int .i64 d] => some (.agg [.lit (.int .i64 a), .lit (.int .i64 b), .lit (.int .i64 c), .lit (.int .i64 d)], [])
    | _ => none
  | _ => none
def datQ {H : Type} (q : Q4) : DataW H := .agg [.lit (.int .i64 q.1), .lit (.int .i64 q.2.1), .lit (.int .i64 q.2.2.1), .lit (.int .i64 q.2.2.2)]
theorem numElem_mk {H : Type} (q : Q4) : numElem (H := H) (mv q) = some (datQ q, []) := rfl
theorem numElem_inv {H : Type} {v : Value} {q : Q4} {ps : List MemPlace} (h : numElem (H := H) v = some (datQ q, ps)) : v = mv q := by
  unfold numElem at h
  split at h
  · rename_i cs
    split at h
    · rename_i a b c d hcs
      simp only [Option.some.injEq, Prod.mk.injEq, datQ, DataW.agg.injEq, List.cons.injEq, DataW.lit.injEq, Lit.int.injEq, true_and, and_true] at h
      obtain ⟨⟨rfl, rfl, rfl, rfl⟩, _⟩ := h
      show Value.agg cs = Value.agg _
      congr 1
      apply Array.ext'
      rw [hcs]
    · cases h
  · cases h

def keyN (n : Nat) : Lit := .string (texL (ofN (n : Int)))
theorem tex_inj : ∀ i ∈ List.range 16, ∀ j ∈ List.range 16, texL (ofN ((i : Nat) : Int)) = texL (ofN ((j : Nat) : Int)) → i = j := by decide +kernel
theorem key_inj {i j : Nat} (hi : i < 16) (hj : j < 16) (h : keyN i = keyN j) : i = j := by
  injection h with h
  exact tex_inj i (List.mem_range.2 hi) j (List.mem_range.2 hj) h
def mapD {H : Type} : Nat → DataW H
  | 0 => .map []
  | k + 1 => (mapD k).put (keyN k) (datQ (ofN (k : Int)))
theorem mapD_map {H : Type} : ∀ k, IsMap (mapD (H := H) k)
  | 0 => isMap_empty
  | k + 1 => (mapD_map k).put _ _
theorem map_none {H : Type} {kl : Lit} (z : DataW H) : ∀ k, (∀ i, i < k → keyN i ≠ kl) → Maps.has (mapD (H := H) k) kl = false ∧ (mapD k).atKey kl z = z
  | 0, _ => ⟨rfl, rfl⟩
  | k + 1, h => by
    have ih := map_none z k (fun i hi => h i (by omega))
    have hne := (h k (by omega)).symm
    exact ⟨by show Maps.has ((mapD k).put _ _) kl = false; rw [has_put_other hne]; exact ih.1, by show ((mapD k).put _ _).atKey kl z = z; rw [atKey_put_other hne]; exact ih.2⟩
theorem map_some {H : Type} {n : Nat} (z : DataW H) : ∀ k, k ≤ 16 → n < k → Maps.has (mapD (H := H) k) (keyN n) = true ∧ (mapD k).atKey (keyN n) z = datQ (ofN (n : Int))
  | 0, _, h => by omega
  | k + 1, hk, h => by
    by_cases e : n = k
    · subst e
      exact ⟨has_put_same (mapD_map n) (by trivial) _, atKey_put_same (mapD_map n) (by trivial) _ _⟩
    · have ih := map_some z k (by omega) (show n < k by omega)
      have hne : keyN n ≠ keyN k := fun x => e (key_inj (by omega) (by omega) x)
      exact ⟨by show Maps.has ((mapD k).put _ _) _ = true; rw [has_put_other hne]; exact ih.1, by show ((mapD k).put _ _).atKey _ z = _; rw [atKey_put_other hne]; exact ih.2⟩

/-- The mensuration of a text, and the error. -/
def parF (s : ByteArray) : Option Nat := (List.range 16).find? (fun n : Nat => texL (ofN (n : Int)) == s.data.toList)
def parQ (s : ByteArray) : Q4 := match parF s with | some n => ofN (n : Int) | none => (0, 0, 0, 0)
def parE (s : ByteArray) : Int := match parF s with | some _ => 0 | none => 3
theorem tex_eq {n : Nat} {s : ByteArray} : texB (ofN (n : Int)) = s ↔ texL (ofN (n : Int)) = s.data.toList := by
  constructor
  · rintro rfl; simp [texB]
  · intro h
    apply ByteArray.ext
    unfold texB
    rw [h]
theorem parF_none {s : ByteArray} (h : ∀ i : Nat, i < 16 → texL (ofN (i : Int)) ≠ s.data.toList) : parF s = none := by
  unfold parF
  rw [List.find?_eq_none]
  intro i hi
  have := h i (List.mem_range.1 hi)
  simpa using this
theorem parF_some {s : ByteArray} {n : Nat} (hn : n < 16) (h : texL (ofN (n : Int)) = s.data.toList) : parF s = some n := by
  cases hf : parF s with
  | none =>
    unfold parF at hf
    rw [List.find?_eq_none] at hf
    exact absurd (by simpa using h) (hf n (List.mem_range.2 hn))
  | some m =>
    unfold parF at hf
    have h1 := List.find?_some hf
    have h2 := List.mem_of_find?_eq_some hf
    simp only [beq_iff_eq] at h1
    rw [tex_inj m h2 n (List.mem_range.2 hn) (h1.trans h.symm)]
theorem par_none {s : ByteArray} (h : ∀ i : Nat, i < 16 → texL (ofN (i : Int)) ≠ s.data.toList) : parQ s = (0, 0, 0, 0) ∧ parE s = 3 := by
  unfold parQ parE; rw [parF_none h]; exact ⟨rfl, rfl⟩
theorem par_some {s : ByteArray} {n : Nat} (hn : n < 16) (h : texL (ofN (n : Int)) = s.data.toList) : parQ s = ofN (n : Int) ∧ parE s = 0 := by
  unfold parQ parE; rw [parF_some hn h]; exact ⟨rfl, rfl⟩
theorem ofN_ok {n : Nat} (h : n < 16) : okM (ofN (n : Int)) := by
  have hall : ∀ n ∈ List.range 16, okM (ofN ((n : Nat) : Int)) := by decide
  exact hall n (List.mem_range.2 h)
def ParPost (s : ByteArray) (w : World) (e : Ending) (w' : World) : Prop := e = .returned (mev (parQ s) (parE s)) ∧ Below w.heap.size w w'

theorem law_key : Keyed Tryd.prog 9 := string_keyed Tryd.underlying9
theorem zero_nums (w : World) : (zeroValue 57).run Tryd.prog w = .ok (mv (0, 0, 0, 0)) w := by kernel_rfl
theorem tex_len {q : Q4} (h : okM q) : (texB q).size ≤ 4 := by
  have hall : ∀ q ∈ mensL, (texB q).size ≤ 4 := by decide +kernel
  exact hall q ((mens_iff q).2 h)

theorem beq_no {t s : ByteArray} (h : s ≠ t) : (t.toList == s.toList) = false := by
  rw [Lib.toList_data, Lib.toList_data, beq_eq_false_iff_ne]
  intro e
  exact h (by cases s; cases t; congr; exact (Array.toList_inj.1 e).symm)
theorem step_store {H : Type} {P : Program} (w : World) {ops : Array Oper} {o : Oper} {a : Act} {K : Act → World → Prop} {Q : Exit → Act → World → Prop} {E : Prop} (hgd : o.guard = none)
    (m x v : Operand) (t : TypeId) (hop : o.op = Op.mapUpdate t m x v)
    (k e : TypeId) (Kd : Keyed P k) (ht : P.underlying t = some (.map k e)) (R : Value → Option (DataW H × List MemPlace)) (b n : Nat) (D : DataW H)
    (hm : a.eval m = .map (some b)) (hown : w.ownsMap P k R b n D) (hn : n < maxLen) (key val : Value) (kl : Lit) (hx : a.eval x = key) (hv : a.eval v = val) (hkey : keyOf P k key = some kl)
    (d : DataW H) (ps : List MemPlace) (hval : R val = some (d, ps))
    (hK : ∀ w', w'.ownsMap P k R b (n + 1) (D.put kl d) → w.grownBy w' (some b) → K (a.put o.dst undef) w') :
    if Region.wanted o (yielded ops a.tmps) = true then Oper.wp P o a w K Q else E := by
  have hw : Region.wanted o (yielded ops a.tmps) = true := by simp [Region.wanted, hgd]
  rw [if_pos hw]
  obtain ⟨w', hrun, r1, r2⟩ := hown.update Kd ht hn hkey hval
  unfold Oper.wp
  simp [execOp, hop, hm, hx, hv, hrun, Result.andThen]
  exact hK w' r1 r2

set_option maxHeartbeats 4000000 in
theorem byText_any (w : World) : Calls Tryd.prog 48 #[] w fun e w' => e = .returned (.map (some w.heap.size)) ∧ w'.ownsMap Tryd.prog 9 (numElem (H := Unit)) w.heap.size 16 (mapD 16) ∧ Below w.heap.size w w' := by
  have hmm := @run_makeMap Tryd.prog
  have NA := Lib.hid (fun n hn W => numsAt_any n hn W)
  have M0 := Lib.hid (World.ownsMap_made w Tryd.prog 9 (numElem (H := Unit)))
  have hB := Lib.hid (w_alloc (w_refl w) (.map #[] 0))
  go_enter Tryd.func48, Tryd.ntmps48
  go_wp2_with fail
  go_loopw [5] (fun s5 wr => ∃ k : Nat, k ≤ 16 ∧ s5 = .int .i64 k ∧ Hid (wr.ownsMap Tryd.prog 9 (numElem (H := Unit)) w.heap.size k (mapD k)) ∧ Hid (Below w.heap.size w wr)) (fun s5 _ => (16 - intOf s5).toNat)
  case atStart => exact ⟨0, by omega, rfl, M0, hB⟩
  case round =>
    clear hB M0
    obtain ⟨k, hk, rfl, hM, hbr⟩ := hrel
    by_cases hlt : k < 16
    · have hlt' : (k : Int) < 16 := by omega
      have N1 := Lib.hid (fun W => NA.out (k : Int) (by omega) W)
      have hq := ofN_ok hlt
      have TX := Lib.hid (fun W => ntext_any (ofN (k : Int)) hq W)
      have hkey := keyOf_string_mk (k := 9) Tryd.underlying9 (s := texB (ofN (k : Int))) (by have := tex_len hq; unfold maxLen; omega)
      rw [show (texB (ofN (k : Int))).data.toList = texL (ofN (k : Int)) by simp [texB]] at hkey
      have HK := Lib.hid hkey
      have hD := Lib.hid (show (mapD (H := Unit) k).put (.string (texL (ofN (k : Int)))) (datQ (ofN (k : Int))) = mapD (k + 1) from rfl)
      clear hkey hq NA
      generalize texB (ofN (k : Int)) = tb at *
      generalize texL (ofN (k : Int)) = tl at *
      generalize ofN (k : Int) = q at *
      have hval := Lib.hid (numElem_mk (H := Unit) q)
      obtain ⟨a, b, c, d⟩ := q
      go_wp2_with fail
      refine (N1.out _).mono ?_
      rintro e w1 ⟨rfl, hb⟩
      have hB1 := Lib.hid (w_alloc (w_below hbr.out hb) (nO (a, b, c, d)))
      have hM1 := Lib.hid (show World.ownsMap (w1.alloc (nO (a, b, c, d))) Tryd.prog 9 (numElem (H := Unit)) w.heap.size k (mapD k) from (hM.out.kept (row := none) ⟨hb.os, hb.tape, hb.output, hb.size, fun i hi _ => hb.block i hi⟩ (by simp)).alloc _)
      have hN1 := Lib.hid (HoldsB.new w1 57 #[.int .i64 a, .int .i64 b, .int .i64 c, .int .i64 d])
      have hlt1 := (hM.out.kept (w' := w1) (row := none) ⟨hb.os, hb.tape, hb.output, hb.size, fun i hi _ => hb.block i hi⟩ (by simp)).lt
      clear hb N1
      go_wp2_with fail
      refine wp_region_held (S := fun W => W.cell? ⟨w1.heap.size, 0, none⟩ = some (.int .i64 a) ∧ W.cell? ⟨w1.heap.size, 1, none⟩ = some (.int .i64 b) ∧ W.cell? ⟨w1.heap.size, 2, none⟩ = some (.int .i64 c) ∧ W.cell? ⟨w1.heap.size, 3, none⟩ = some (.int .i64 d)) (by kernel_rfl) ?_
      change wpAnyH _ _ _ _ _ _ _ _ (World.drew _)
      have hN2 := Lib.hid (show HoldsB (World.drew (w1.alloc (nO (a, b, c, d)))) w1.heap.size 57 #[.int .i64 a, .int .i64 b, .int .i64 c, .int .i64 d] from hN1.out)
      have hM2 := Lib.hid hM1.out.drew
      have hB2 := Lib.hid hB1.out.drew
      clear hN1 hM1 hB1
      generalize hw0 : World.drew (w1.alloc (nO (a, b, c, d))) = w0 at *
      clear hw0
      have c0 := hN2.out.cell (j := 0) rfl
      have c1 := hN2.out.cell (j := 1) rfl
      have c2 := hN2.out.cell (j := 2) rfl
      have c3 := hN2.out.cell (j := 3) rfl
      refine wpAnyH_take (i := 0) (v := .map (some w.heap.size)) rfl (by kernel_rfl) (by kernel_rfl) (by kernel_rfl) (fun _ _ _ h => h) (Or.inl ⟨by kernel_rfl, fun _ _ => by go_simp⟩) ⟨c0, c1, c2, c3⟩ ?_
      refine wpAnyH_take (i := 1) (v := mv (a, b, c, d)) rfl (by kernel_rfl) (by kernel_rfl) (by kernel_rfl) (fun _ _ _ h => h) (Or.inl ⟨by kernel_rfl, fun W hW => by (obtain ⟨hA, hB, hC, hD⟩ := hW; go_simp)⟩) ⟨c0, c1, c2, c3⟩ ?_
      refine wpAnyH_take (i := 3) (v := mv (a, b, c, d)) rfl (by kernel_rfl) (by kernel_rfl) (by kernel_rfl) (fun _ _ _ h => h) (Or.inl ⟨by kernel_rfl, fun W hW => by (obtain ⟨hA, hB, hC, hD⟩ := hW; go_simp)⟩) ⟨c0, c1, c2, c3⟩ ?_
      refine wpAnyH_ready (rs := [2]) (by kernel_rfl) (by simp) ?_
      refine AllReadyH.cons rfl (fun K hK => ?_) AllReadyH.nil
      rw [if_pos (by kernel_rfl)]
      go_simp
      go_at_call 47
      refine (TX.out _).mono ?_
      rintro e w2 ⟨rfl, hb⟩
      have hN3 := Lib.hid (hN2.out.later hb)
      have hM3 := Lib.hid (hM2.out.kept (w' := w2) (row := none) ⟨hb.os, hb.tape, hb.output, hb.size, fun i hi _ => hb.block i hi⟩ (by simp))
      have hB3 := Lib.hid (w_below hB2.out hb)
      clear hb TX c0 c1 c2 c3 hN2 hM2 hB2
      have c0 := hN3.out.cell (j := 0) rfl
      have c1 := hN3.out.cell (j := 1) rfl
      have c2 := hN3.out.cell (j := 2) rfl
      have c3 := hN3.out.cell (j := 3) rfl
      go_simp
      refine hK.out _ _ ⟨c0, c1, c2, c3⟩ (fun _ => ?_)
      clear hK K
      refine wpAnyH_ready (rs := [4]) (by kernel_rfl) (by simp) ?_
      refine AllReadyH.cons rfl (fun K hK => ?_) AllReadyH.nil
      refine step_store (H := Unit) _ rfl (.tmp 10) (.tmp 12) (.tmp 13) 69 rfl 9 57 law_key Tryd.underlying69 numElem w.heap.size k (mapD k) (by kernel_rfl) hM3.out (by unfold maxLen; omega) (.string tb) (mv (a, b, c, d)) (.string tl) (by kernel_rfl) (by kernel_rfl) HK.out _ [] hval.out ?_
      intro w3 hown hgrow
      have hN4 := Lib.hid (hN3.out.kept hgrow (by intro e; injection e with e; omega))
      have hM4 := Lib.hid (show w3.ownsMap Tryd.prog 9 (numElem (H := Unit)) w.heap.size (k + 1) (mapD (k + 1)) by rw [← hD.out]; exact hown)
      have hB4 := Lib.hid (hB3.out.grown hgrow hB3.out.size (fun g hg => by cases hg; exact Nat.le_refl _))
      clear hown hgrow c0 c1 c2 c3 hN3 hM3 hB3
      have c0 := hN4.out.cell (j := 0) rfl
      have c1 := hN4.out.cell (j := 1) rfl
      have c2 := hN4.out.cell (j := 2) rfl
      have c3 := hN4.out.cell (j := 3) rfl
      refine hK.out _ _ ⟨c0, c1, c2, c3⟩ (fun _ => ?_)
      clear hK K
      refine wpAnyH_done (by kernel_rfl) ?_ _
      clear c0 c1 c2 c3
      go_wp2_with fail
      go_roundw
      case rel => exact ⟨k + 1, by omega, by go_num, hM4, hB4⟩
      case measure => simp [intOf]; omega
    · obtain rfl : k = 16 := by omega
      clear NA
      go_wp2_with fail
      go_ret
      exact ⟨rfl, hM.out, hbr.out⟩

theorem numElem_zero {H : Type} : numElem (H := H) (mv (0, 0, 0, 0)) = some (datQ (0, 0, 0, 0), []) := rfl

set_option maxHeartbeats 4000000 in
theorem parse_any (s : ByteArray) (hs : s.size ≤ maxLen) (w : World) : Calls Tryd.prog 26 #[.string s] w (ParPost s w) := by
  unfold ParPost
  have BT := Lib.hid (fun W => byText_any W)
  have r0 := Lib.hid (HoldsB.new w 23 #[.int .i64 0, .int .i64 0, .int .i64 0, .int .i64 0])
  have hkey := keyOf_string_mk (k := 9) Tryd.underlying9 hs
  by_cases h : ∃ n : Nat, n < 16 ∧ texL (ofN (n : Int)) = s.data.toList
  · obtain ⟨n, hn, ht⟩ := h
    obtain ⟨e1, e2⟩ := par_some hn ht
    rw [e1, e2]
    rw [← ht] at hkey
    obtain ⟨hh, hat⟩ := map_some (H := Unit) (n := n) (datQ (0, 0, 0, 0)) 16 (by omega) hn
    unfold keyN at hh hat
    have HH := Lib.hid hh
    have HAT := Lib.hid hat
    clear ht hn e1 e2 hs hh hat
    generalize texL (ofN (n : Int)) = tl at *
    generalize ofN (n : Int) = q at *
    have TM := Lib.hid (fun W => toMens_any q W)
    go_enter Tryd.func26, Tryd.ntmps26
    go_wp2_with fail
    refine (BT.out _).mono ?_
    rintro e w1 ⟨rfl, hM, hb⟩
    have hB := Lib.hid (w_below (w_alloc (w_refl w) (mO (0, 0, 0, 0))) hb)
    replace r0 := Lib.hid (r0.out.later hb)
    have HM := Lib.hid hM
    clear hb hM BT
    obtain ⟨v, ps, hrun, hv⟩ := HM.out.look_ok law_key Tryd.underlying69 (zero_nums w1) (numElem_zero (H := Unit)) hkey
    rw [HAT.out] at hv
    rw [HH.out] at hrun
    obtain rfl := numElem_inv hv
    clear hv HM HAT HH hkey
    rw [World.size_alloc] at hrun
    obtain ⟨a, b, c, d⟩ := q
    go_wp2_with fail
    refine (TM.out _).mono ?_
    rintro e w2 ⟨rfl, hb⟩
    have hB2 := Lib.hid (w_below (w_alloc hB.out _) hb)
    have r1 := Lib.hid ((r0.out.al _).later hb)
    clear hb TM hB r0 hrun
    obtain ⟨d0, d1, d2, d3⟩ := mens_put r1.out (.int .i64 a) (.int .i64 b) (.int .i64 c) (.int .i64 d)
    have e0 := r1.out.cell (j := 0) rfl
    have e1 := r1.out.cell (j := 1) rfl
    have e2 := r1.out.cell (j := 2) rfl
    have e3 := r1.out.cell (j := 3) rfl
    have ef := r1.out.frozen
    go_wp2_with fail
    refine bodyPost_ret (v := mev (a, b, c, d) 0) (by simp [results, Tryd.results26, go_sem, d0, d1, d2, d3]) rfl ⟨rfl, ?_⟩
    exact w_put (w_put (w_put (w_put hB2.out (by omega) _ _) (by omega) _ _) (by omega) _ _) (by omega) _ _
  · have hall : ∀ i : Nat, i < 16 → texL (ofN (i : Int)) ≠ s.data.toList := fun i hi e => h ⟨i, hi, e⟩
    obtain ⟨e1, e2⟩ := par_none hall
    rw [e1, e2]
    obtain ⟨hh, hat⟩ := map_none (H := Unit) (kl := .string s.data.toList) (datQ (0, 0, 0, 0)) 16 (fun i hi e => by unfold keyN at e; injection e with e; exact hall i hi e)
    have HH := Lib.hid hh
    have HAT := Lib.hid hat
    clear hall h e1 e2 hs hh hat
    go_enter Tryd.func26, Tryd.ntmps26
    go_wp2_with fail
    refine (BT.out _).mono ?_
    rintro e w1 ⟨rfl, hM, hb⟩
    have hB := Lib.hid (w_below (w_alloc (w_refl w) (mO (0, 0, 0, 0))) hb)
    replace r0 := Lib.hid (r0.out.later hb)
    have HM := Lib.hid hM
    clear hb hM BT
    obtain ⟨v, ps, hrun, hv⟩ := HM.out.look_ok law_key Tryd.underlying69 (zero_nums w1) (numElem_zero (H := Unit)) hkey
    rw [HAT.out] at hv
    rw [HH.out] at hrun
    obtain rfl := numElem_inv hv
    clear hv HM HAT HH hkey
    rw [World.size_alloc] at hrun
    have r1 := Lib.hid (r0.out.al (nO (0, 0, 0, 0)))
    have hB2 := Lib.hid (w_alloc hB.out (nO (0, 0, 0, 0)))
    obtain ⟨d0, d1, d2, d3⟩ := mens_put r1.out (.int .i64 0) (.int .i64 0) (.int .i64 0) (.int .i64 0)
    have e0 := r1.out.cell (j := 0) rfl
    have e1 := r1.out.cell (j := 1) rfl
    have e2 := r1.out.cell (j := 2) rfl
    have e3 := r1.out.cell (j := 3) rfl
    have ef := r1.out.frozen
    go_wp2_with fail
    refine bodyPost_ret (v := mev (0, 0, 0, 0) 3) (by simp [results, Tryd.results26, go_sem, d0, d1, d2, d3]) rfl ⟨rfl, ?_⟩
    exact w_put (w_put (w_put (w_put hB2.out (by omega) _ _) (by omega) _ _) (by omega) _ _) (by omega) _ _

set_option maxHeartbeats 4000000 in
theorem rparse_any (s : ByteArray) (w : World) : Calls Tryd.prog 27 #[.string s] w (ParPost s w) := by
  unfold ParPost
  have OF := Lib.hid (fun n W => rof_any n W)
  have TX := Lib.hid (fun q W => rtext_any q W)
  have r0 := Lib.hid (HoldsB.new w 23 #[.int .i64 0, .int .i64 0, .int .i64 0, .int .i64 0])
  have hB := Lib.hid (w_alloc (w_refl w) (mO (0, 0, 0, 0)))
  go_enter Tryd.func27, Tryd.ntmps27
  go_wp2_with fail
  go_loopw [4] (fun s4 wr => ∃ k : Nat, k ≤ 16 ∧ s4 = .int .i64 k ∧ Hid (∀ i : Nat, i < k → texL (ofN (i : Int)) ≠ s.data.toList) ∧ Hid (HoldsB wr w.heap.size 23 #[.int .i64 0, .int .i64 0, .int .i64 0, .int .i64 0]) ∧ Hid (Below w.heap.size w wr)) (fun s4 _ => (16 - intOf s4).toNat)
  case atStart => exact ⟨0, by omega, rfl, Lib.hid (fun i hi => by omega), r0, hB⟩
  case round =>
    clear r0 hB
    obtain ⟨k, hk, rfl, hall, r0, hbr⟩ := hrel
    by_cases hlt : k < 16
    · have hlt' : (k : Int) < 16 := by omega
      have O1 := Lib.hid (fun W => OF.out (k : Int) W)
      unfold OfPost at O1
      rw [show ofQ (k : Int) = ofN (k : Int) from if_pos (by omega), show ofE (k : Int) = 0 from if_pos (by omega)] at O1
      have hq := ofN_ok hlt
      have T1 := Lib.hid (fun W => TX.out (ofN (k : Int)) W)
      unfold TexPost at T1
      rw [texS_ok hq, chkM_ok hq] at T1
      clear OF TX hq
      by_cases he : texB (ofN (k : Int)) = s
      · obtain ⟨e1, e2⟩ := par_some hlt (tex_eq.1 he)
        rw [he] at T1
        have hp := Lib.hid (show Ending.returned (mev (parQ s) (parE s)) = .returned (mev (ofN (k : Int)) 0) by rw [e1, e2])
        clear e1 e2 he hall
        generalize ofN (k : Int) = q at *
        obtain ⟨a, b, c, d⟩ := q
        go_wp2_with fail
        refine (O1.out _).mono ?_
        rintro e w1 ⟨rfl, hb⟩
        have hB1 := Lib.hid (w_alloc (w_below hbr.out hb) (mO (a, b, c, d)))
        have r1 := Lib.hid ((r0.out.later hb).al (mO (a, b, c, d)))
        have k1 := Lib.hid (HoldsB.new w1 23 #[.int .i64 a, .int .i64 b, .int .i64 c, .int .i64 d])
        clear hb O1
        go_wp2_with fail
        refine (T1.out _).mono ?_
        rintro e w2 ⟨rfl, hb⟩
        replace hB1 := Lib.hid (w_below hB1.out hb)
        replace r1 := Lib.hid (r1.out.later hb)
        replace k1 := Lib.hid (k1.out.later hb)
        clear hb T1
        have f0 := k1.out.cell (j := 0) rfl
        have f1 := k1.out.cell (j := 1) rfl
        have f2 := k1.out.cell (j := 2) rfl
        have f3 := k1.out.cell (j := 3) rfl
        obtain ⟨d0, d1, d2, d3⟩ := mens_put r1.out (.int .i64 a) (.int .i64 b) (.int .i64 c) (.int .i64 d)
        have e0 := r1.out.cell (j := 0) rfl
        have e1 := r1.out.cell (j := 1) rfl
        have e2 := r1.out.cell (j := 2) rfl
        have e3 := r1.out.cell (j := 3) rfl
        have ef := r1.out.frozen
        go_wp2_with fail
        refine bodyPost_ret (v := mev (a, b, c, d) 0) (by simp [results, Tryd.results27, go_sem, d0, d1, d2, d3]) rfl ⟨hp.out.symm, ?_⟩
        exact w_put (w_put (w_put (w_put hB1.out (by omega) _ _) (by omega) _ _) (by omega) _ _) (by omega) _ _
      · have hne := beq_no (t := texB (ofN (k : Int))) (fun e => he e.symm)
        have hall2 := Lib.hid (show ∀ i : Nat, i < k + 1 → texL (ofN (i : Int)) ≠ s.data.toList from fun i hi => by
          by_cases e : i = k
          · rw [e]; exact fun x => he (tex_eq.2 x)
          · exact hall.out i (by omega))
        clear hall he
        generalize texB (ofN (k : Int)) = tb at *
        generalize ofN (k : Int) = q at *
        obtain ⟨a, b, c, d⟩ := q
        go_wp2_with fail
        refine (O1.out _).mono ?_
        rintro e w1 ⟨rfl, hb⟩
        have hB1 := Lib.hid (w_alloc (w_below hbr.out hb) (mO (a, b, c, d)))
        have r1 := Lib.hid ((r0.out.later hb).al (mO (a, b, c, d)))
        clear hb O1
        go_wp2_with fail
        refine (T1.out _).mono ?_
        rintro e w2 ⟨rfl, hb⟩
        replace hB1 := Lib.hid (w_below hB1.out hb)
        replace r1 := Lib.hid (r1.out.later hb)
        clear hb T1
        go_wp2_with fail
        go_roundw
        case rel => exact ⟨k + 1, by omega, by go_num, hall2, r1, hB1⟩
        case measure => simp [intOf]; omega
    · obtain rfl : k = 16 := by omega
      obtain ⟨e1, e2⟩ := par_none hall.out
      have hp := Lib.hid (show Ending.returned (mev (parQ s) (parE s)) = .returned (mev (0, 0, 0, 0) 3) by rw [e1, e2])
      clear hall e1 e2 OF TX
      obtain ⟨d0, d1, d2, d3⟩ := mens_put r0.out (.int .i64 0) (.int .i64 0) (.int .i64 0) (.int .i64 0)
      have e0 := r0.out.cell (j := 0) rfl
      have e1 := r0.out.cell (j := 1) rfl
      have e2 := r0.out.cell (j := 2) rfl
      have e3 := r0.out.cell (j := 3) rfl
      have ef := r0.out.frozen
      go_wp2_with fail
      refine bodyPost_ret (v := mev (0, 0, 0, 0) 3) (by simp [results, Tryd.results27, go_sem, d0, d1, d2, d3]) rfl ⟨hp.out.symm, ?_⟩
      exact w_put (w_put (w_put (w_put hbr.out (by omega) _ _) (by omega) _ _) (by omega) _ _) (by omega) _ _

end Go.Proofs.YtflgmeajkflobaaDoor
