/- The program's Name, Number, Signed: they answer as the reference does, for every text. A cursor in memory; stores of single fields; what a cursor takes. A strings.Builder at the head of a writer: what its methods do. What the methods of a writer write: numbers and marks. -/
import Derived.Test.YtdmedealdhadcaaGreatDoorG05
import Derived.Test.YtdmedealdhadcaaGreatDoorG03
import Derived.Deep.MidRow
import Derived.Shelf.Strings.BuilderF
import Derived.Lib.LaidTab
import Derived.Deep.RegionHeld3

namespace Go.Proofs.YtdmedealdhadcaaGreatDoor
open Go.RowKit
theorem runN_iff (p : Int → Bool) : ∀ l, runN p l = l.length ↔ l.all (fun c => p (clsI c.toNat)) = true
  | [] => by simp [runN]
  | c :: t => by
    have h := runN_iff p t
    by_cases hp : p (clsI c.toNat) = true
    · rw [show runN p (c :: t) = runN p t + 1 from if_pos hp, List.length_cons, List.all_cons, hp, Bool.true_and, ← h]; omega
    · rw [show runN p (c :: t) = 0 from if_neg hp, List.length_cons, List.all_cons, show p (clsI c.toNat) = false by simpa using hp, Bool.false_and]
      simp
theorem runN_all (p : Int → Bool) (l : List UInt8) : decide (runN p l = l.length) = l.all (fun c => p (clsI c.toNat)) := by
  rw [Bool.eq_iff_iff, decide_eq_true_iff]; exact runN_iff p l
theorem naming_eq : (fun c : UInt8 => namingC (clsI c.toNat)) = nameB := by
  funext c; rw [cls_naming]; rfl
theorem head_letter {s : ByteArray} (h : 0 < s.size) : headLetter s.data.toList = letterI (s[0].toNat : Int) := by
  rw [head_byte s h]; rfl
set_option maxRecDepth 100000 in
set_option maxHeartbeats 2000000 in
theorem wname_any (s : ByteArray) (w : World) (hs : s.size ≤ maxLen) : Calls Tryz.prog 91 #[.string s] w fun e w' => e = .returned (.bool (nameV s.data.toList)) ∧ w = w' := by
  have R := Lib.hid (fun W => wrun_naming s W hs)
  have hl : s.data.toList.length = s.size := by simp
  unfold maxLen at hs
  by_cases hz : 0 < s.size
  · have hem := ne_empty hz
    by_cases h20 : 20 < s.size
    · have h20' : (20 : Int) < s.size := by omega
      have hfin := Lib.hid (show nameV s.data.toList = false by
        unfold nameV; rw [hl, decide_eq_false (by omega)]; simp)
      clear hl R
      go_enter Tryz.func91, Tryz.ntmps91
      go_wp2_with fail
      go_ret
      rw [hfin.out]; exact ⟨rfl, rfl⟩
    · have h20' : ¬ (20 : Int) < s.size := by omega
      have hcl := cls_lit s[0].toNat s[0].toNat_lt s[0].toNat_lt
      have h256 : (s[0].toNat : Int) < 256 := by have := s[0].toNat_lt; omega
      cases hc : letterI (s[0].toNat : Int) with
      | false =>
        have h97 : (clsI (s[0].toNat : Int) != 97) = true := by
          have := cls_letter (s[0].toNat : Int); rw [hc] at this; simpa using this
        have hfin := Lib.hid (show nameV s.data.toList = false by
          unfold nameV; rw [head_letter hz, hc]; simp)
        clear hl R hc
        go_enter Tryz.func91, Tryz.ntmps91
        go_wp2_with fail
        go_ret
        rw [hfin.out]; exact ⟨rfl, rfl⟩
      | true =>
        have h97 : (clsI (s[0].toNat : Int) != 97) = false := by
          have := cls_letter (s[0].toNat : Int); rw [hc] at this; simpa using this
        obtain ⟨b, hb⟩ : ∃ b, ((runN namingC s.data.toList : Int) == (s.size : Int)) = b := ⟨_, rfl⟩
        have hfin := Lib.hid (show nameV s.data.toList = b by
          have h1 := runN_all namingC s.data.toList
          rw [naming_eq] at h1
          unfold nameV; rw [head_letter hz, hc, hl, decide_eq_true (by omega), ← h1, ← hb, hl]
          by_cases e : runN namingC s.data.toList = s.size
          · simp [e]
          · simp [e]; omega)
        clear hl hc
        go_enter Tryz.func91, Tryz.ntmps91
        go_wp2_with fail
        refine (R.out _).mono ?_
        rintro e w1 ⟨rfl, rfl⟩
        go_wp2_with fail
        go_ret
        rw [hfin.out]; exact ⟨rfl, rfl⟩
  · have hem : s.toList.isEmpty = true := by simpa using (w_nil s).2 (by omega)
    have hfin := Lib.hid (show nameV s.data.toList = false by rw [data_nil hz]; rfl)
    clear hl R
    go_enter Tryz.func91, Tryz.ntmps91
    go_wp2_with fail
    go_ret
    rw [hfin.out]; exact ⟨rfl, rfl⟩
theorem only_zero {s : ByteArray} (h : 0 < s.size) (h0 : ((s[0].toNat : Int) == 48) = true) : (s.toList == [48]) = decide (s.size = 1) := by
  have e := head_byte s h
  have e0 : s[0] = 48 := UInt8.toNat_inj.1 (by rw [beq_iff_eq] at h0; have : (48 : UInt8).toNat = 48 := rfl; omega)
  rw [e0] at e
  rw [Lib.toList_data]
  by_cases h1 : s.size = 1
  · have : s.data.toList.drop 1 = [] := List.drop_of_length_le (by simp; omega)
    rw [e, this]; simp [h1]
  · rw [decide_eq_false h1, beq_eq_false_iff_ne]
    intro x
    have := congrArg List.length x
    simp at this; omega
theorem digit_sub {c : UInt8} (h : digitI (c.toNat : Int) = true) : IntKind.u8.wrap ((c.toNat : Int) - 48) = (c.toNat : Int) - 48 ∧ 0 ≤ (c.toNat : Int) - 48 ∧ (c.toNat : Int) - 48 ≤ 9 := by
  have hd : 48 ≤ (c.toNat : Int) ∧ (c.toNat : Int) ≤ 57 := by simpa [digitI] using h
  obtain ⟨d1, d2⟩ := hd
  refine ⟨?_, by omega, by omega⟩
  obtain ⟨m, hm⟩ : ∃ m : Nat, (c.toNat : Int) - 48 = m ∧ m ≤ 9 := ⟨c.toNat - 48, by omega, by omega⟩
  rw [hm.1]
  have : m = 0 ∨ m = 1 ∨ m = 2 ∨ m = 3 ∨ m = 4 ∨ m = 5 ∨ m = 6 ∨ m = 7 ∨ m = 8 ∨ m = 9 := by omega
  rcases this with rfl | rfl | rfl | rfl | rfl | rfl | rfl | rfl | rfl | rfl <;> decide
set_option maxRecDepth 100000 in
set_option maxHeartbeats 2000000 in
theorem wnumber_any (s : ByteArray) (w : World) (hs : s.size ≤ maxLen) : Calls Tryz.prog 173 #[.string s] w fun e w' => e = .returned (numRes (numberV s.data.toList)) ∧ w = w' := by
  unfold maxLen at hs
  by_cases hz : 0 < s.size
  · have hem := ne_empty hz
    by_cases hb : ((s[0].toNat : Int) == 48) = true ∧ 1 < s.size
    · obtain ⟨h0, h1⟩ := hb
      have hq : (s.toList == [48]) = false := by rw [only_zero hz h0]; exact decide_eq_false (by omega)
      have hfin := Lib.hid (numberV_zero hz h0 h1)
      go_enter Tryz.func173, Tryz.ntmps173
      go_wp2_with fail
      go_ret2
      rw [hfin.out]; exact ⟨rfl, rfl⟩
    · obtain ⟨q, hq⟩ : ∃ q, numberV s.data.toList = q := ⟨_, rfl⟩
      have hg := Lib.hid (show numG 0 s.data.toList = q by
        rw [← hq, numberV_digits hz]
        by_cases x : ((s[0].toNat : Int) == 48) = true
        · exact .inr (fun y => hb ⟨x, y⟩)
        · left; simpa using x)
      rw [hq]
      clear hq
      have part : (((s[0].toNat : Int) == 48) = true ∧ (s.toList == [48]) = true) ∨ ((s[0].toNat : Int) == 48) = false := by
        by_cases x : ((s[0].toNat : Int) == 48) = true
        · left; exact ⟨x, by rw [only_zero hz x]; exact decide_eq_true (by have : ¬ 1 < s.size := fun y => hb ⟨x, y⟩; omega)⟩
        · right; simpa using x
      clear hb
      rcases part with ⟨h0, h1⟩ | h0
      all_goals
        go_enter Tryz.func173, Tryz.ntmps173
        go_wp2_with fail
        go_loop [4, 19] (fun x i => ∃ (k : Nat) (n : Int), k ≤ s.size ∧ 0 ≤ n ∧ n ≤ 1099511627776 ∧ x = .int .i64 n ∧ i = .int .i64 k ∧ Hid (numG n (s.data.toList.drop k) = q)) (fun _ i => s.size - (intOf i).toNat)
        case atStart => exact ⟨0, 0, by omega, by omega, by omega, rfl, rfl, hg⟩
        case round =>
          obtain ⟨k, n, hk, n0, n1, rfl, rfl, hgk⟩ := hrel
          by_cases hlt : k < s.size
          · have hcl := cls_lit s[k].toNat s[k].toNat_lt s[k].toNat_lt
            have h256 : (s[k].toNat : Int) < 256 := by have := s[k].toNat_lt; omega
            have hst := Lib.hid (show (if digitI (s[k].toNat : Int) = true then (if 1099511627776 < 10 * n + ((s[k].toNat : Int) - 48) then none else numG (10 * n + ((s[k].toNat : Int) - 48)) (s.data.toList.drop (k + 1))) else none) = q by
              rw [← hgk.out, w_drop s k hlt]; rfl)
            clear hgk
            by_cases hd : digitI (s[k].toNat : Int) = true
            · have h48 : (clsI (s[k].toNat : Int) != 48) = false := by
                have := cls_digit (s[k].toNat : Int); rw [hd] at this; simpa using this
              obtain ⟨hw8, d1, d2⟩ := digit_sub hd
              by_cases hbig : 1099511627776 < 10 * n + ((s[k].toNat : Int) - 48)
              · have hbig' : 1099511627776 < n * 10 + ((s[k].toNat : Int) - 48) := by omega
                have hfin := Lib.hid (show q = none by rw [← hst.out, if_pos hd, if_pos hbig])
                clear hst hd hbig
                go_wp2_with fail
                go_ret2
                rw [hfin.out]; exact ⟨rfl, rfl⟩
              · have hbig' : ¬ 1099511627776 < n * 10 + ((s[k].toNat : Int) - 48) := by omega
                have hnew := Lib.hid (show numG (n * 10 + ((s[k].toNat : Int) - 48)) (s.data.toList.drop (k + 1)) = q by rw [← hst.out, if_pos hd, if_neg hbig, Int.mul_comm])
                clear hst hd hbig
                go_wp2_with fail
                go_round
                case rel => exact ⟨k + 1, _, by omega, by omega, by omega, rfl, by go_num, hnew⟩
                case measure => simp [intOf]; omega
            · have h48 : (clsI (s[k].toNat : Int) != 48) = true := by
                have := cls_digit (s[k].toNat : Int); rw [show digitI (s[k].toNat : Int) = false by simpa using hd] at this; simpa using this
              have hfin := Lib.hid (show q = none by rw [← hst.out, if_neg hd])
              clear hst hd
              go_wp2_with fail
              go_ret2
              rw [hfin.out]; exact ⟨rfl, rfl⟩
          · have hfin := Lib.hid (show q = some n by rw [← hgk.out, List.drop_of_length_le (by simp; omega)]; rfl)
            clear hgk
            go_wp2_with fail
            go_ret2
            rw [hfin.out]; exact ⟨rfl, rfl⟩
  · have hem : s.toList.isEmpty = true := by simpa using (w_nil s).2 (by omega)
    have hfin := Lib.hid (numberV_nil hz)
    go_enter Tryz.func173, Tryz.ntmps173
    go_wp2_with fail
    go_ret2
    rw [hfin.out]; exact ⟨rfl, rfl⟩
theorem pre_45 (l : List UInt8) : Lib.hasPrefix l (⟨#[45]⟩ : ByteArray).data.toList = decide (l.head? = some 45) := by
  cases l with
  | nil => rfl
  | cons c t =>
    simp [Lib.hasPrefix, List.isPrefixOf]
    by_cases h : c = 45
    · subst h; rfl
    · simp [h]; exact fun e => h e.symm
theorem trim_45 (l : List UInt8) : Lib.trimPrefix l (⟨#[45]⟩ : ByteArray).data.toList = if l.head? = some 45 then l.drop 1 else l := by
  unfold Lib.trimPrefix
  rw [pre_45]
  by_cases h : l.head? = some 45 <;> simp [h]
set_option maxRecDepth 100000 in
set_option maxHeartbeats 2000000 in
theorem wsigned_any (s : ByteArray) (w : World) (hs : s.size ≤ maxLen) : Calls Tryz.prog 165 #[.string s] w fun e w' => e = .returned (signedRes s.data.toList) ∧ w = w' := by
  have P := Lib.hid (fun W => Tryz.strings_CutPrefix s ⟨#[45]⟩ W)
  have hl : s.data.toList.length = s.size := by simp
  rw [pre_45, trim_45] at P
  by_cases h : s.data.toList.head? = some 45
  · rw [if_pos h, decide_eq_true h] at P
    have N := Lib.hid (fun W => wnumber_any ⟨(s.data.toList.drop 1).toArray⟩ W (by show (s.data.toList.drop 1).toArray.size ≤ _; simp; omega))
    have hres := Lib.hid (show signedRes s.data.toList = _ by unfold signedRes; rw [if_pos h])
    clear h hl hs
    rw [hres.out]
    clear hres
    generalize (s.data.toList.drop 1) = d at *
    change Hid (∀ W, Calls Tryz.prog 173 #[.string ⟨d.toArray⟩] W fun e w' => e = .returned (numRes (numberV d)) ∧ W = w') at N
    cases hv : numberV d with
    | none =>
      rw [hv] at N
      have N3 := Lib.hid (fun W => show Calls Tryz.prog 173 #[.string ⟨d.toArray⟩] W fun e w' => e = .returned (.tuple #[.int .i64 0, .bool false]) ∧ W = w' from N.out W)
      clear N hv
      go_enter Tryz.func165, Tryz.ntmps165
      go_wp2_with fail
      refine (P.out _).mono ?_
      rintro e w1 ⟨rfl, rfl⟩
      go_wp2_with fail
      refine (N3.out _).mono ?_
      rintro e w1 ⟨rfl, rfl⟩
      go_wp2_with fail
      go_ret2
      exact ⟨rfl, rfl⟩
    | some n =>
      obtain ⟨b0, b1⟩ := numberV_bds hv
      rw [hv] at N
      have N3 := Lib.hid (fun W => show Calls Tryz.prog 173 #[.string ⟨d.toArray⟩] W fun e w' => e = .returned (.tuple #[.int .i64 n, .bool true]) ∧ W = w' from N.out W)
      clear N hv
      go_enter Tryz.func165, Tryz.ntmps165
      go_wp2_with fail
      refine (P.out _).mono ?_
      rintro e w1 ⟨rfl, rfl⟩
      go_wp2_with fail
      refine (N3.out _).mono ?_
      rintro e w1 ⟨rfl, rfl⟩
      go_wp2_with fail
      go_ret2
      exact ⟨rfl, rfl⟩
  · rw [if_neg h, decide_eq_false h] at P
    have N := Lib.hid (fun W => wnumber_any s W hs)
    have hres := Lib.hid (show signedRes s.data.toList = numRes (numberV s.data.toList) by unfold signedRes; rw [if_neg h])
    rw [hres.out]
    clear hres h hl hs
    change Hid (∀ W, Calls Tryz.prog 168 #[.string s, .string ⟨#[45]⟩] W fun e w' => e = .returned (.tuple #[.string s, .bool false]) ∧ w' = W) at P
    generalize numberV s.data.toList = q at *
    have N3 : ∃ a b, numRes q = .tuple #[.int .i64 a, .bool b] := by
      cases q with
      | none => exact ⟨0, false, rfl⟩
      | some n => exact ⟨n, true, rfl⟩
    obtain ⟨a, b, hab⟩ := N3
    rw [hab] at N ⊢
    clear hab
    go_enter Tryz.func165, Tryz.ntmps165
    go_wp2_with fail
    refine (P.out _).mono ?_
    rintro e w1 ⟨rfl, rfl⟩
    go_wp2_with fail
    refine (N.out _).mono ?_
    rintro e w1 ⟨rfl, rfl⟩
    go_wp2_with fail
    go_ret2
    exact ⟨rfl, rfl⟩
end Go.Proofs.YtdmedealdhadcaaGreatDoor

namespace Go.Proofs.YtdmedealdhadcaaGreatDoor
open Go.RowKit
/-! ### Stores of single cells -/
theorem run_cell (W : World) (ty : TypeId) (b j : Nat) (t0 : TypeId) (cs : Array Value) (v : Value) (hg : HoldsB W b t0 cs) (hj : j < cs.size) (hs : (Tryz.prog.info? ty).map (·.size) = some 1) (hv : v.cells = #[v]) (h1 : v.oneCell' = true) :
    (Instr.storeAt ty (.pointer (some ⟨b, j, none⟩)) v).run Tryz.prog W = .ok () (W.setCell ⟨b, j, none⟩ v) := by
  have hc : (W.cell? ⟨b, j, none⟩).isSome = true := by rw [hg.cell (v := cs[j]) (Array.getElem?_eq_getElem hj)]; rfl
  have := run_storeCells_cells (P := Tryz.prog) b j [v] 0 W (fun i hi => by
    obtain rfl : i = 0 := by simpa using hi
    simpa using hc) (fun i hi => by
    obtain rfl : i = 0 := by simpa using hi
    simpa using hg.frozen j) (fun u hu => by
    obtain rfl : u = v := by simpa using hu
    exact h1)
  cases hq : Tryz.prog.info? ty with
  | none => rw [hq] at hs; cases hs
  | some i =>
    have hz : i.size = 1 := by rw [hq] at hs; simpa using hs
    simp only [Nat.add_zero] at this
    simp [Instr.storeAt, Instr.sureAddr, storeVar, sizeOf, typeInfo, hq, hv, hz, this, World.setCells, Sem.run_bind, Sem.run_pure]
theorem grown_set (W : World) (b j : Nat) (v : Value) : W.grownBy (W.setCell ⟨b, j, none⟩ v) (some b) :=
  ⟨rfl, rfl, rfl, by simp [World.setCell], fun k _ hk => Below.heap_setCell _ _ _ _ (fun e => hk (by simp [e]))⟩
/-- Only block b, and what is new, may differ. -/
def Mv (b : Nat) (W W' : World) : Prop := W.grownBy W' (some b)
theorem Mv.refl (b : Nat) (W : World) : Mv b W W := ⟨rfl, rfl, rfl, Nat.le_refl _, fun _ _ _ => rfl⟩
theorem Mv.trans {b : Nat} {W V U : World} (h : Mv b W V) (k : Mv b V U) : Mv b W U :=
  ⟨k.os.trans h.os, k.tape.trans h.tape, k.output.trans h.output, Nat.le_trans h.size k.size, fun c hc hn => (k.block c (Nat.lt_of_lt_of_le hc h.size) hn).trans (h.block c hc hn)⟩
theorem Mv.of {b : Nat} {W V : World} (h : Below W.heap.size W V) : Mv b W V := ⟨h.os, h.tape, h.output, h.size, fun c hc _ => h.block c hc⟩
theorem Mv.bel {b : Nat} {W V : World} (h : Mv b W V) {B : Nat} {w0 : World} (k : Below B w0 W) (hB : B ≤ b) (hs : B ≤ W.heap.size) : Below B w0 V :=
  k.grown h hs (fun g hg => by cases hg; exact hB)
theorem Mv.old {b : Nat} {w V : World} (h : Mv b w V) (hb : w.heap.size ≤ b) : Below w.heap.size w V := h.bel (w_refl w) hb (Nat.le_refl _)
theorem HoldsB.mv {b c : Nat} {W V : World} {t : TypeId} {cs : Array Value} (h : HoldsB W c t cs) (k : Mv b W V) (hne : c ≠ b) : HoldsB V c t cs := h.kept k (fun e => hne (by simpa using e))
section
variable {ops : Array Oper} {rest : List Oper} {x y : Operand} {t : TypeId} {ps : String} {af : Array Edge} {a : Act} {Q : Exit → Act → World → Prop}
theorem wl_cell {W : World} (ty : TypeId) (b j : Nat) (t0 : TypeId) (cs : Array Value) (v : Value) (hx : a.eval x = .pointer (some ⟨b, j, none⟩)) (hy : a.eval y = v) (hg : HoldsB W b t0 cs) (hj : j < cs.size)
    (hs : (Tryz.prog.info? ty).map (·.size) = some 1) (hv : v.cells = #[v]) (h1 : v.oneCell' = true)
    (h : ∀ W', HoldsB W' b t0 (cs.setIfInBounds j v) → Mv b W W' → wpList Tryz.prog ops Q rest a W') :
    wpList Tryz.prog ops Q ({ dst := none, op := .store ty x y, type := t, pos := ps, after := af, guard := none } :: rest) a W := by
  refine wpList_plain rfl fun _ hK => ?_
  unfold Oper.wp execOp
  simp only [hx, hy, Sem.run_bind, run_cell W ty b j t0 cs v hg hj hs hv h1, Result.andThen_ok, Sem.run_pure]
  exact hK _ _ (h _ (hg.set j v) (grown_set W b j v))
end
theorem sz_int : (Tryz.prog.info? 3).map (·.size) = some 1 := by kernel_rfl
theorem sz_bool : (Tryz.prog.info? 4).map (·.size) = some 1 := by kernel_rfl
theorem sz_string : (Tryz.prog.info? 9).map (·.size) = some 1 := by kernel_rfl
/-! ### A cursor -/
def cuA (l : List UInt8) (s : Sg) : Array Value := #[.string (bytes l), .int .i64 s.kind, .int .i64 s.val, .int .i64 s.place, .int .i64 s.acc, .bool s.col, .int .i64 s.stem, .bool s.obl, .bool s.last, .int .i64 s.m0, .int .i64 s.m1, .int .i64 s.m2, .int .i64 s.m3, .bool s.stk, .int .i64 s.n, .int .i64 s.d, .int .i64 s.c0, .int .i64 s.c1]
def CuX (W : World) (b : Nat) (x : Cu) : Prop := HoldsB W b 123 (cuA x.1 x.2)
theorem CuX.left {W : World} {b : Nat} {x : Cu} (h : CuX W b x) : W.cell? ⟨b, 0, none⟩ = some (.string (bytes x.1)) := HoldsB.cell h rfl
theorem CuX.later {W V : World} {b : Nat} {x : Cu} (h : CuX W b x) (k : Below W.heap.size W V) : CuX V b x := HoldsB.later h k
/-! ### take -/
theorem pre_tk (c : UInt8) (l : List UInt8) : Lib.hasPrefix l (bytes [c]).data.toList = (tk c l).isSome ∧ Lib.trimPrefix l (bytes [c]).data.toList = (tk c l).getD l := by
  rw [bytes_data]
  cases l with
  | nil => exact ⟨rfl, rfl⟩
  | cons d t =>
    unfold Lib.trimPrefix Lib.hasPrefix
    by_cases h : d = c
    · subst h; rw [tk_cons]; simp [List.isPrefixOf]
    · rw [tk_no h]
      have : (c == d) = false := by rw [beq_eq_false_iff_ne]; exact fun e => h e.symm
      simp [List.isPrefixOf, this]
set_option maxRecDepth 100000 in
set_option maxHeartbeats 2000000 in
theorem take_raw (m : ByteArray) (b : Nat) (x : Cu) (W : World) (h : CuX W b x) : Calls Tryz.prog 124 #[.pointer (some ⟨b, 0, none⟩), .string m] W
    fun e W' => e = .returned (.bool (Lib.hasPrefix x.1 m.data.toList)) ∧ CuX W' b (Lib.trimPrefix x.1 m.data.toList, x.2) ∧ Mv b W W' := by
  have P := Lib.hid (fun W => Tryz.strings_CutPrefix (bytes x.1) m W)
  rw [bytes_data] at P
  have c0 := h.left
  have HX := Lib.hid h
  unfold CuX at HX
  clear h
  obtain ⟨l, s⟩ := x
  go_enter Tryz.func124, Tryz.ntmps124
  go_wp2_with fail
  refine (P.out _).mono ?_
  rintro e w1 ⟨rfl, rfl⟩
  clear P
  go_wp2_with (first | (refine wl_cell 9 b 0 123 _ (.string (bytes (Lib.trimPrefix l m.data.toList))) (by kernel_rfl) (by kernel_rfl) HX.out (show 0 < 18 by decide) sz_string rfl rfl ?_) | fail)
  intro W2 h2 h3
  have H2 := Lib.hid h2
  have H3 := Lib.hid h3
  clear h2 h3 HX c0
  go_wp2_with fail
  go_ret
  exact ⟨rfl, H2.out, H3.out⟩
theorem take_yes {c : UInt8} {x : Cu} {t : List UInt8} (e : tk c x.1 = some t) (b : Nat) (W : World) (h : CuX W b x) : Calls Tryz.prog 124 #[.pointer (some ⟨b, 0, none⟩), .string (bytes [c])] W
    fun e W' => e = .returned (.bool true) ∧ CuX W' b (t, x.2) ∧ Mv b W W' := by
  have := take_raw (bytes [c]) b x W h
  rw [(pre_tk c x.1).1, (pre_tk c x.1).2, e] at this
  exact this
theorem take_no {c : UInt8} {x : Cu} (e : tk c x.1 = none) (b : Nat) (W : World) (h : CuX W b x) : Calls Tryz.prog 124 #[.pointer (some ⟨b, 0, none⟩), .string (bytes [c])] W
    fun e W' => e = .returned (.bool false) ∧ CuX W' b x ∧ Mv b W W' := by
  have := take_raw (bytes [c]) b x W h
  rw [(pre_tk c x.1).1, (pre_tk c x.1).2, e] at this
  exact this
end Go.Proofs.YtdmedealdhadcaaGreatDoor

namespace Go.Proofs.YtdmedealdhadcaaGreatDoor
open Go.RowKit
def wrA (p v : Value) (s : Sg) : Array Value := #[p, v, .int .i64 s.kind, .int .i64 s.val, .int .i64 s.place, .int .i64 s.acc, .bool s.col, .int .i64 s.stem, .bool s.obl, .bool s.last, .int .i64 s.m0, .int .i64 s.m1, .int .i64 s.m2, .int .i64 s.m3, .bool s.stk, .int .i64 s.n, .int .i64 s.d, .int .i64 s.c0, .int .i64 s.c1]
/-- The writer in block b has written l; its buffer is the call's own. -/
structure WrP (p : Value) (B b : Nat) (l : List UInt8) (s : Sg) (w : World) : Prop where
  base : B ≤ b
  at_ : ∃ v, HoldsB w b 74 (wrA p v s) ∧ w.ownsRowF B 5 1 v l.length (Lib.byteCells l) ∧ v.ownBlock ≠ some b
def WrX (B b : Nat) (l : List UInt8) (s : Sg) (w : World) : Prop := WrP (.pointer none) B b l s w ∨ WrP (.pointer (some ⟨b, 0, none⟩)) B b l s w
theorem WrP.p {p : Value} {B b : Nat} {l : List UInt8} {s : Sg} {w : World} (h : WrP p B b l s w) : w.cell? ⟨b, 0, none⟩ = some p := by
  obtain ⟨v, hb, _⟩ := h.at_
  exact hb.cell rfl
theorem WrP.shape {p : Value} {B b : Nat} {l : List UInt8} {s : Sg} {w : World} (h : WrP p B b l s w) : w.shape? b = some (74, 19) := by
  obtain ⟨v, hb, _⟩ := h.at_
  simp [World.shape?, show w.heap[b]? = _ from hb, wrA]
theorem WrP.fz {p : Value} {B b : Nat} {l : List UInt8} {s : Sg} {w : World} (h : WrP p B b l s w) : w.frozen? ⟨b, 0, none⟩ = false := by
  obtain ⟨v, hb, _⟩ := h.at_
  exact hb.frozen 0
theorem WrP.used {p : Value} {B b : Nat} {l : List UInt8} {s : Sg} {w : World} (h : WrP p B b l s w) (q : Value) : WrP q B b l s (w.setCell ⟨b, 0, none⟩ q) := by
  obtain ⟨v, hb, hown, hne⟩ := h.at_
  refine ⟨h.base, v, hb.set 0 q, ?_, hne⟩
  exact hown.kept (row := some b) ⟨rfl, rfl, rfl, by simp [World.setCell], fun k _ hk => Below.heap_setCell _ _ _ _ (fun e => hk (by simp [e]))⟩ (Or.inr hne)
set_option maxRecDepth 100000 in
set_option maxHeartbeats 2000000 in
theorem wcheck_fresh (b : Nat) (w : World) (h0 : w.cell? ⟨b, 0, none⟩ = some (.pointer none)) (hsh : w.shape? b = some (74, 19)) (hfz : w.frozen? ⟨b, 0, none⟩ = false) :
    Calls Tryz.prog 149 #[.pointer (some ⟨b, 0, none⟩)] w fun e w' => e = .returned (.tuple #[]) ∧ w' = w.setCell ⟨b, 0, none⟩ (.pointer (some ⟨b, 0, none⟩)) := by
  obtain ⟨j, hj, hjs⟩ := Option.map_eq_some_iff.1 (show (Tryz.prog.info? 72).map (·.size) = some 2 by kernel_rfl)
  go_enter Tryz.func149, Tryz.ntmps149
  go_wp2
  rw [Lib.run_to_unsafe w ⟨b, 0, none⟩ Tryz.underlying69 Tryz.underlying191 hj (by rw [hjs]; decide) hsh (show 0 < 19 by decide)]
  simp only [Result.andThen]
  rw [Oper.upon_value]
  go_wp2
  rw [run_callFunc_extern Tryz.func176 (by kernel_rfl) (by kernel_rfl) (by kernel_rfl) (e := Extern.AbiNoEscape.same) (by kernel_rfl)]
  rw [Lib.run_noEscape]
  simp only [Result.andThen]
  rw [Oper.upon_value]
  go_wp2
  rw [Lib.run_from_unsafe w ⟨b, 0, none⟩ Tryz.underlying191 Tryz.underlying69 hj hsh (show liesAt Tryz.prog Tryz.prog.depth 74 (19 / Tryz.prog.cellsOf 74) 0 72 1 = true by kernel_rfl)]
  simp only [Result.andThen]
  rw [Oper.upon_value]
  go_wp2
  go_end0
  exact ⟨rfl, rfl⟩
set_option maxRecDepth 100000 in
set_option maxHeartbeats 2000000 in
theorem wcheck_used (b : Nat) (w : World) (h0 : w.cell? ⟨b, 0, none⟩ = some (.pointer (some ⟨b, 0, none⟩))) :
    Calls Tryz.prog 149 #[.pointer (some ⟨b, 0, none⟩)] w fun e w' => e = .returned (.tuple #[]) ∧ w' = w := by
  obtain ⟨j, hj, _⟩ := Option.map_eq_some_iff.1 (show (Tryz.prog.info? 72).map (·.size) = some 2 by kernel_rfl)
  go_enter Tryz.func149, Tryz.ntmps149
  go_wp2
  rw [Lib.run_neq_ptr_same w _ Tryz.underlying69 hj]
  go_wp2
  go_end0
  exact ⟨rfl, rfl⟩
/-- Blocks that hold no bytes, b aside, are as they were. -/
def Kb (b : Nat) (W V : World) : Prop := ∀ (g : Nat) (t : TypeId) (cs : Array Value), g ≠ b → t ≠ 5 → HoldsB W g t cs → HoldsB V g t cs
theorem wcheck_any (B b : Nat) (l : List UInt8) (s : Sg) (w : World) (h : WrX B b l s w) :
    Calls Tryz.prog 149 #[.pointer (some ⟨b, 0, none⟩)] w fun e w' => e = .returned (.tuple #[]) ∧ WrP (.pointer (some ⟨b, 0, none⟩)) B b l s w' ∧ Below B w w' ∧ Kb b w w' := by
  rcases h with h | h
  · refine (wcheck_fresh b w h.p h.shape h.fz).mono ?_
    rintro e w' ⟨rfl, rfl⟩
    exact ⟨rfl, h.used _, (Below.refl B w).setCell (p := ⟨b, 0, none⟩) h.base _, fun g t cs hg _ hh => hh.other hg 0 _⟩
  · refine (wcheck_used b w h.p).mono ?_
    rintro e w' ⟨rfl, rfl⟩
    exact ⟨rfl, h, Below.refl B _, fun g t cs _ _ hh => hh⟩
theorem own_slice {w : World} {B n : Nat} {e : TypeId} {xs : List Value} {v : Value} (h : w.ownsRowF B e 1 v n xs) : ∃ q c, v = .slice q n c := by
  rcases h.2 with ⟨rfl, rfl⟩ | ⟨g', cap, cur, fz, rfl, _⟩
  · exact ⟨none, 0, rfl⟩
  · exact ⟨_, _, rfl⟩
set_option maxRecDepth 100000 in
set_option maxHeartbeats 4000000 in
theorem wstr_keep (B b : Nat) (l : List UInt8) (s : Sg) (t : ByteArray) (w : World) (h : WrX B b l s w) (hlen : l.length + t.size ≤ 140737488355328) (hBw : B ≤ w.heap.size) :
    Calls Tryz.prog 95 #[.pointer (some ⟨b, 0, none⟩), .string t] w fun e w' => e = .returned (.tuple #[.int .i64 t.size, .nilIface]) ∧ WrX B b (l ++ t.data.toList) s w' ∧ Below B w w' ∧ Kb b w w' := by
  obtain ⟨i0, hi, hz0, hz1, hz2⟩ := info_parts (show (Tryz.prog.info? 5).map (fun i => (i.zero, i.size, i.bytes)) = some (some (.int .u8 0), 1, 1) by kernel_rfl)
  have C := Lib.hid (wcheck_any B b l s w h)
  clear h
  go_enter Tryz.func95, Tryz.ntmps95
  go_wp2_with fail
  refine C.out.mono ?_
  rintro e w1 ⟨rfl, h1, hb1, hk1⟩
  have HK1 := Lib.hid hk1
  clear C hk1
  have hBb := h1.base
  obtain ⟨v, hbk, hown, hne⟩ := h1.at_
  have c0 : w1.cell? ⟨b, 0, none⟩ = some (.pointer (some ⟨b, 0, none⟩)) := hbk.cell rfl
  have c1 : w1.cell? ⟨b, 1, none⟩ = some v := hbk.cell rfl
  have HB := Lib.hid hbk
  have HO := Lib.hid hown
  have HN := Lib.hid hne
  have HL := Lib.hid hb1
  have hs1 : B ≤ w1.heap.size := Nat.le_trans hBw hb1.size
  have HS1 := Lib.hid hs1
  clear h1 hbk hown hne hb1 hs1
  go_wp2_with (at_builtin; refine Lib.wpList_append_own_stringF _ rfl _ _ 70 9 rfl B 5 i0 Tryz.underlying70 Tryz.underlying9 hi hz0 hz1 hz2 v l.length (Lib.byteCells l) rfl HO.out t rfl ?c3 ?c4 ?c5 ?_)
  case c3 => unfold maxLen; omega
  case c4 => omega
  case c5 => exact HS1.out
  intro v' w2 hown' hgrow _
  have hbl : b < w1.heap.size := HB.out.lt
  obtain ⟨q, c, rfl⟩ := own_slice hown'
  have hb2 := Lib.hid (show HoldsB w2 b 74 (wrA (.pointer (some ⟨b, 0, none⟩)) v s) from HB.out.kept hgrow (fun e => HN.out e.symm))
  have hne2 := Lib.hid (Lib.ownBlock_neF hown' hb2.out (show 74 ≠ 5 by decide))
  have HL2 := Lib.hid (HL.out.grown hgrow HS1.out (fun g hg => by
    rcases HO.out.2 with ⟨rfl, _⟩ | ⟨g', cap, cur, fz, rfl, hbg, _⟩
    · cases hg
    · injection hg with hg; subst hg; exact hbg))
  have HO2 := Lib.hid (show w2.ownsRowF B 5 1 (.slice q (l.length + t.size) c) (l ++ t.data.toList).length (Lib.byteCells (l ++ t.data.toList)) by
    have e1 : (l ++ t.data.toList).length = l.length + t.size := by rw [List.length_append]; simp
    rw [e1, Lib.byteCells_append]
    exact hown')
  have HS2 := Lib.hid (Nat.le_trans HS1.out hgrow.size)
  have HK2 := Lib.hid (show Kb b w w2 from fun g t0 cs hg ht hh => by
    have h1 := HK1.out g t0 cs hg ht hh
    refine h1.kept hgrow (fun e => ?_)
    exact Lib.ownBlock_neF HO.out h1 ht e.symm)
  clear hown' hgrow hbl HB HO HN HL HS1 c0 c1
  go_wp2_with (first | (refine wl_cell 70 b 1 74 _ (.slice q (l.length + t.size) c) (by kernel_rfl) (by kernel_rfl) hb2.out (show 1 < 19 by decide) (by kernel_rfl) rfl rfl ?_) | fail)
  intro W3 h2 h3
  have H2 := Lib.hid (show WrX B b (l ++ t.data.toList) s W3 from .inr ⟨hBb, _, h2, HO2.out.kept h3 (Or.inr hne2.out), hne2.out⟩)
  have H3 := Lib.hid (h3.bel HL2.out hBb HS2.out)
  have H4 := Lib.hid (show Kb b w W3 from fun g t0 cs hg ht hh => (HK2.out g t0 cs hg ht hh).mv h3 hg)
  clear h2 h3 hb2 HL2 HO2
  go_wp2_with fail
  go_ret2
  exact ⟨rfl, H2.out, H3.out, H4.out⟩
theorem wstr_any (B b : Nat) (l : List UInt8) (s : Sg) (t : ByteArray) (w : World) (h : WrX B b l s w) (hlen : l.length + t.size ≤ 140737488355328) (hBw : B ≤ w.heap.size) :
    Calls Tryz.prog 95 #[.pointer (some ⟨b, 0, none⟩), .string t] w fun e w' => e = .returned (.tuple #[.int .i64 t.size, .nilIface]) ∧ WrX B b (l ++ t.data.toList) s w' ∧ Below B w w' :=
  (wstr_keep B b l s t w h hlen hBw).mono fun _ _ ⟨a, b, c, _⟩ => ⟨a, b, c⟩
end Go.Proofs.YtdmedealdhadcaaGreatDoor

namespace Go.Proofs.YtdmedealdhadcaaGreatDoor
open Go.RowKit
/-- The library's table of powers is as its text lays it. -/
def ITab (w : World) : Prop := Lib.TabIs Tryz.prog w "internal/strconv.uint64pow10" .u64 Lib.pow10Tab
theorem gITab : Tryz.prog.globalNamed "internal/strconv.uint64pow10" = some 5 := by kernel_rfl
theorem ITab.later {w w' : World} (h : ITab w) (hb : Below w.heap.size w w') : ITab w' := by
  have h0 : 5 < w.heap.size := by
    unfold ITab Lib.TabIs World.var? at h
    simp only [gITab, Option.bind_some] at h
    by_cases hz : 5 < w.heap.size
    · exact hz
    · have : w.heap[5]? = none := Array.getElem?_eq_none (by omega)
      rw [this] at h; simp at h
  exact var?_below hb gITab h0 h
/-- The table stands, and nothing below B is changed since. -/
def IT (B : Nat) (W : World) : Prop := ∃ w0, ITab w0 ∧ w0.heap.size ≤ B ∧ Below w0.heap.size w0 W ∧ B ≤ W.heap.size
theorem IT.tab {B : Nat} {W : World} (h : IT B W) : ITab W := by
  obtain ⟨w0, h1, _, h3, _⟩ := h
  exact h1.later h3
theorem IT.later {B : Nat} {W V : World} (h : IT B W) (k : Below B W V) : IT B V := by
  obtain ⟨w0, h1, h2, h3, h4⟩ := h
  exact ⟨w0, h1, h2, h3.trans (k.mono h2), Nat.le_trans h4 k.size⟩
theorem IT.sz {B : Nat} {W : World} (h : IT B W) : B ≤ W.heap.size := by
  obtain ⟨w0, _, _, _, h4⟩ := h
  exact h4
theorem below_gr (w : World) (k : Nat) (os : Array Obj) : Below w.heap.size w (Go.Sort.grow (w.drewN k) os) :=
  ⟨rfl, rfl, rfl, by show w.heap.size ≤ (w.heap ++ os).size; rw [Array.size_append]; omega, fun i hi => by
    show (w.heap ++ os)[i]? = _
    rw [Array.getElem?_append_left hi]⟩
theorem itoa_all (n : Int) (w : World) (h0 : -1000 ≤ n) (h1 : n ≤ 1000) (ht : ITab w) :
    Calls Tryz.prog 172 #[.int .i64 n] w fun e w' => e = .returned (.string (bytes (Lib.itoa n))) ∧ Below w.heap.size w w' := by
  refine (Tryz.strconv_Itoa n (by omega) (by omega) w ht).mono ?_
  rintro e w' ⟨rfl, k, os, rfl⟩
  exact ⟨rfl, below_gr w k os⟩
/-- What a writer is, and the table. -/
structure WrT (B b : Nat) (l : List UInt8) (s : Sg) (W : World) : Prop where
  wr : WrX B b l s W
  it : IT B W
theorem WrT.base {B b : Nat} {l : List UInt8} {s : Sg} {W : World} (h : WrT B b l s W) : B ≤ b := by
  rcases h.wr with x | x <;> exact x.base
theorem WrP.mv {p : Value} {B b : Nat} {l : List UInt8} {s : Sg} {W V : World} (h : WrP p B b l s W) (k : Below W.heap.size W V) : WrP p B b l s V := by
  obtain ⟨v, h1, h2, h3⟩ := h.at_
  refine ⟨h.base, v, h1.later k, h2.kept (row := none) ⟨k.os, k.tape, k.output, k.size, fun i hi _ => k.block i hi⟩ (by cases hv : v.ownBlock <;> simp), h3⟩
theorem WrT.later {B b : Nat} {l : List UInt8} {s : Sg} {W V : World} (h : WrT B b l s W) (k : Below W.heap.size W V) : WrT B b l s V :=
  ⟨h.wr.elim (fun x => .inl (x.mv k)) (fun x => .inr (x.mv k)), h.it.later (k.mono h.it.sz)⟩
/-- A field of the sign. -/
theorem WrT.cell {B b : Nat} {l : List UInt8} {s : Sg} {W : World} (h : WrT B b l s W) {j : Nat} {u : Value} (e : ∀ p v, (wrA p v s)[j]? = some u) : W.cell? ⟨b, j, none⟩ = some u := by
  rcases h.wr with x | x <;> (obtain ⟨v, h1, _⟩ := x.at_; exact h1.cell (e _ v))
theorem wt_any (B b : Nat) (l : List UInt8) (s : Sg) (t : ByteArray) (w : World) (h : WrT B b l s w) (hl : l.length ≤ 1000) (ht : t.size ≤ 1000) :
    Calls Tryz.prog 95 #[.pointer (some ⟨b, 0, none⟩), .string t] w fun e w' => e = .returned (.tuple #[.int .i64 t.size, .nilIface]) ∧ WrT B b (l ++ t.data.toList) s w' ∧ Below B w w' :=
  (wstr_any B b l s t w h.wr (by omega) h.it.sz).mono fun e w' ⟨h1, h2, h3⟩ => ⟨h1, ⟨h2, h.it.later h3⟩, h3⟩
/-- A method of a writer writes a text. -/
def Wm (N : Nat) (f : FuncId) (T : Sg → List UInt8) (ok : Sg → Prop) : Prop := ∀ (B b : Nat) (l : List UInt8) (s : Sg) (W : World), l.length ≤ N → ok s → WrT B b l s W →
  Calls Tryz.prog f #[.pointer (some ⟨b, 0, none⟩)] W fun e W' => e = .returned (.tuple #[]) ∧ WrT B b (l ++ T s) s W' ∧ Below B W W'
set_option maxRecDepth 100000 in
set_option maxHeartbeats 4000000 in
theorem wnum_any (n : Int) (h0 : -4 ≤ n) (h1 : n ≤ 100) (B b : Nat) (l : List UInt8) (s : Sg) (W : World) (hl : l.length ≤ 900) (h : WrT B b l s W) (hz : (Lib.itoa n).length ≤ 10) :
    Calls Tryz.prog 135 #[.pointer (some ⟨b, 0, none⟩), .int .i64 n] W fun e W' => e = .returned (.tuple #[]) ∧ WrT B b (l ++ Lib.itoa n) s W' ∧ Below B W W' := by
  have IA := Lib.hid (fun V (hV : ITab V) => itoa_all n V (by omega) (by omega) hV)
  have FX := Lib.hid (show WrT B b l s W.drew from h.later (w_refl W).drew)
  have WS := Lib.hid (fun V (hV : WrT B b l s V) => wt_any B b l s (bytes (Lib.itoa n)) V hV (by omega) (by rw [bytes_size]; omega))
  rw [bytes_data] at WS
  have hBW := h.it.sz
  clear h
  generalize Lib.itoa n = ds at *
  go_enter Tryz.func135, Tryz.ntmps135
  go_wp2_with fail
  go_region_held3 (fun _ => True)
    (first | exact trivial | assumption)
    (first
      | (go_at_call 172; refine (IA.out _ FX.out.it.tab).mono ?_; rintro e wn ⟨rfl, hb⟩; replace FX := Lib.hid (FX.out.later hb); have HB := Lib.hid hb; clear hb)
      | (go_at_call 95; refine (WS.out _ FX.out).mono ?_; rintro e wm ⟨rfl, hx, hb⟩; have HX := Lib.hid hx; have HY := Lib.hid hb; clear hx hb)
      | fail)
  all_goals
    go_end0
    exact ⟨rfl, HX.out, ((w_refl W).drew.trans HB.out).mono (show B ≤ W.heap.size from hBW) |>.trans HY.out⟩
end Go.Proofs.YtdmedealdhadcaaGreatDoor
