/- The program's Pair: it answers as the reference does, for every text and byte. The program's isWord and written: for every word. The program's rowLine: the line of a row, or its error, for every list of words. The program's Text: the text of rows, or its error, for every list of rows. What a text of a part says: heads, ends, words; of the program. An append of a slice that may be read to a list of the call's own. -/
import Derived.Shelf.Strings.LastIndex
import Derived.Test.YtdmedealdhadcaaGreatDoorG05
import Derived.Test.YtdmedealdhadcaaGreatDoorG07
import Derived.Lib.IndexLaws
import Derived.Deep.RegionHeld3
import Derived.Test.YtdmedealdhadcaaGreatDoorG15
import Derived.Test.YtdmedealdhadcaaGreatDoorG01
import Derived.Laws.AppendOwnNone

namespace Go.Proofs.YtdmedealdhadcaaGreatDoor
open Go.RowKit
theorem wclone_any (s : ByteArray) (w : World) (hs : s.size ≤ 281474976710656) : Calls Tryz.prog 162 #[.string s] w fun e w' => e = .returned (.string s) ∧ Below w.heap.size w w' := by
  go_enter Tryz.func162, Tryz.ntmps162
  go_wp2_with fail
  refine (Tryz.stringslite_Clone s _ hs).mono ?_
  rintro e w1 ⟨rfl, hb⟩
  go_wp2_with fail
  go_ret
  exact ⟨rfl, hb⟩
end Go.Proofs.YtdmedealdhadcaaGreatDoor

namespace Go.Proofs.YtdmedealdhadcaaGreatDoor
open Go.RowKit
theorem plain_all (l : List UInt8) : l.all (fun c => plainC (clsI c.toNat)) = l.all (fun c => plainI c.toNat) := by congr 1; funext c; exact cls_plain _
theorem inside_all (l : List UInt8) : l.all (fun c => quotableC (clsI c.toNat)) = l.all (fun c => insideI c.toNat) := by congr 1; funext c; exact cls_quotable _
set_option maxRecDepth 100000 in
set_option maxHeartbeats 2000000 in
theorem wisword_any (x : Wd) (w : World) (hs : x.text.size ≤ 1000000) : Calls Tryz.prog 147 #[wv x] w fun e w' => e = .returned (.bool (okW x)) ∧ Below w.heap.size w w' := by
  obtain ⟨a, t, q⟩ := x
  simp only at hs
  have hl : t.data.toList.length = t.size := by simp
  show Calls Tryz.prog 147 #[.agg #[.int .i64 a, .string t, .bool q]] w _
  cases q with
  | true =>
    have R := Lib.hid (fun W => (wrun_quotable t W (by unfold maxLen; omega)).mono fun e w' h => (⟨h.1, h.2.symm⟩ : e = _ ∧ w' = W))
    obtain ⟨b, hb⟩ : ∃ b, ((runN quotableC t.data.toList : Int) == (t.size : Int)) = b := ⟨_, rfl⟩
    have hok := Lib.hid (show okW ⟨a, t, true⟩ = b by
      have h1 := runN_all quotableC t.data.toList
      rw [inside_all, hl] at h1
      unfold okW; simp only [if_true]
      rw [← h1, ← hb]
      by_cases e : runN quotableC t.data.toList = t.size
      · simp [e]
      · simp [e]; omega)
    clear hl
    go_enter Tryz.func147, Tryz.ntmps147
    go_wp2_with fail
    go_quiet ((go_at_call 144; exact Calls.quiet_of_same (R.out _)))
    go_wp2_with fail
    go_ret
    rw [hok.out]
    exact ⟨rfl, bel_drewN (w_alloc (w_refl w) _) _⟩
  | false =>
    have R := Lib.hid (fun W => (wrun_plain t W (by unfold maxLen; omega)).mono fun e w' h => (⟨h.1, h.2.symm⟩ : e = _ ∧ w' = W))
    by_cases hz : 0 < t.size
    · have hem := ne_empty hz
      obtain ⟨b, hb⟩ : ∃ b, ((runN plainC t.data.toList : Int) == (t.size : Int)) = b := ⟨_, rfl⟩
      have hok := Lib.hid (show okW ⟨a, t, false⟩ = b by
        have h1 := runN_all plainC t.data.toList
        rw [plain_all, hl] at h1
        unfold okW
        simp only [decide_eq_true hz, Bool.and_true]
        show (t.data.toList.all fun c => plainI c.toNat) = b
        rw [← h1, ← hb]
        by_cases e : runN plainC t.data.toList = t.size
        · simp [e]
        · simp [e]; omega)
      clear hl
      go_enter Tryz.func147, Tryz.ntmps147
      go_wp2_with fail
      go_quiet ((go_at_call 144; exact Calls.quiet_of_same (R.out _)))
      go_wp2_with fail
      go_ret
      rw [hok.out]
      exact ⟨rfl, bel_drewN (w_alloc (w_refl w) _) _⟩
    · have hem : t.toList.isEmpty = true := by simpa using (w_nil t).2 (by omega)
      have hok := Lib.hid (show okW ⟨a, t, false⟩ = false by unfold okW; simp only [decide_eq_false hz]; simp)
      clear hl R
      go_enter Tryz.func147, Tryz.ntmps147
      go_wp2_with fail
      go_quiet (fail)
      go_wp2_with fail
      go_ret
      rw [hok.out]
      exact ⟨rfl, bel_drewN (w_alloc (w_refl w) _) _⟩
set_option maxRecDepth 100000 in
set_option maxHeartbeats 2000000 in
theorem wwritten_any (x : Wd) (w : World) (hs : x.text.size ≤ 1000000) : Calls Tryz.prog 148 #[wv x] w fun e w' => e = .returned (.string (writtenB x)) ∧ Below w.heap.size w w' := by
  obtain ⟨a, t, q⟩ := x
  simp only at hs
  show Calls Tryz.prog 148 #[.agg #[.int .i64 a, .string t, .bool q]] w _
  cases q with
  | true =>
    have z1 : ¬ 9223372036854775807 < 1 + t.size := by omega
    have z2 : ¬ 9223372036854775807 < 1 + t.size + 1 := by omega
    go_enter Tryz.func148, Tryz.ntmps148
    go_wp2_with fail
    go_ret
    exact ⟨rfl, w_alloc (w_refl w) _⟩
  | false =>
    go_enter Tryz.func148, Tryz.ntmps148
    go_wp2_with fail
    go_ret
    exact ⟨rfl, w_alloc (w_refl w) _⟩
/-! What is written, as lists of bytes -/
def wordL (x : Wd) : List UInt8 := if x.quoted = true then 34 :: (x.text.data.toList ++ [34]) else x.text.data.toList
theorem written_L (x : Wd) : (writtenB x).data.toList = wordL x := by
  obtain ⟨a, t, q⟩ := x
  cases q with
  | true => show ((⟨#[34]⟩ : ByteArray) ++ t ++ ⟨#[34]⟩).data.toList = _; simp [wordL]
  | false => rfl
def tailL : List Wd → List UInt8
  | [] => []
  | x :: t => 32 :: (wordL x ++ tailL t)
def lineL : List Wd → List UInt8
  | [] => []
  | x :: t => wordL x ++ tailL t
theorem tailL_snoc (x : Wd) : ∀ t, tailL (t ++ [x]) = tailL t ++ 32 :: wordL x
  | [] => by simp [tailL]
  | y :: t => by simp [tailL, tailL_snoc x t]
theorem lineL_snoc (x : Wd) (ws : List Wd) (h : ws ≠ []) : lineL (ws ++ [x]) = lineL ws ++ 32 :: wordL x := by
  cases ws with
  | nil => exact absurd rfl h
  | cons y t => simp [lineL, tailL_snoc]
/-- The error of a row. -/
def rowE (ws : List Wd) : Int := if ws = [] ∨ ws.all okW = false then 3 else if 1000 < (lineL ws).length then 4 else 0
/-- What Text hands back, from a text so far on. -/
def textG (out : List UInt8) : List Rw → List UInt8 × Int
  | [] => (out, 0)
  | r :: t => if rowE r.words ≠ 0 then ([], rowE r.words) else if 20000 < (out ++ (lineL r.words ++ [10])).length then ([], 4) else textG (out ++ (lineL r.words ++ [10])) t
end Go.Proofs.YtdmedealdhadcaaGreatDoor

namespace Go.Proofs.YtdmedealdhadcaaGreatDoor
open Go.RowKit
/-! A builder of the call's own, in bytes -/
def Built (B b : Nat) (l : List UInt8) (W : World) : Prop := Lib.IsBuilderF 72 5 B b (Lib.byteCells l) W
theorem Built.fresh (w : World) (B : Nat) (h : B ≤ w.heap.size) : Built B w.heap.size [] (w.alloc (.cells #[.pointer none, .slice none 0 0] 72)) :=
  .inl ⟨h, .slice none 0 0, heap_alloc_new w _, World.ownsRowF_nil _ _ _ _, by simp [Value.ownBlock]⟩
theorem own_laterF {w w1 : World} {base size : Nat} {e : TypeId} {v : Value} {n : Nat} {xs : List Value} (h : w.ownsRowF base e size v n xs) (k : Below w.heap.size w w1) : w1.ownsRowF base e size v n xs := by
  refine ⟨h.1, ?_⟩
  rcases h.2 with hn | ⟨g, cap, cur, fz, hv, hb, hg, rest⟩
  · exact .inl hn
  · exact .inr ⟨g, cap, cur, fz, hv, hb, by rw [k.block g (Array.getElem?_eq_some_iff.1 hg).1]; exact hg, rest⟩
theorem Built.later {B b : Nat} {l : List UInt8} {W W1 : World} (h : Built B b l W) (k : Below W.heap.size W W1) : Built B b l W1 := by
  rcases h with ⟨h1, v, h2, h3, h4⟩ | ⟨h1, v, h2, h3, h4⟩
  · exact .inl ⟨h1, v, (k.block b (Array.getElem?_eq_some_iff.1 h2).1).trans h2, own_laterF h3 k, h4⟩
  · exact .inr ⟨h1, v, (k.block b (Array.getElem?_eq_some_iff.1 h2).1).trans h2, own_laterF h3 k, h4⟩
theorem Built.lt {B b : Nat} {l : List UInt8} {W : World} (h : Built B b l W) : b < W.heap.size ∧ B ≤ b := by
  rcases h with ⟨h1, v, h2, _⟩ | ⟨h1, v, h2, _⟩
  · exact ⟨(Array.getElem?_eq_some_iff.1 h2).1, h1⟩
  · exact ⟨(Array.getElem?_eq_some_iff.1 h2).1, h1⟩
/-- Every block but the builder's, and no row of bytes, stands as it stood. -/
abbrev Others (b : Nat) (w w' : World) : Prop := Lib.OthersKept 5 (some b) w w'
theorem built_byte (B b : Nat) (l : List UInt8) (c : UInt8) (w : World) (h : Built B b l w) (hl : l.length ≤ 1000000000000) (hB : B ≤ w.heap.size) :
    Calls Tryz.prog 96 #[.pointer (some ⟨b, 0, none⟩), .int .u8 c.toNat] w fun e w' => e = .returned .nilIface ∧ Built B b (l ++ [c]) w' ∧ Below B w w' ∧ Others b w w' :=
  (Tryz.WriteByte B b _ c.toNat w h (by rw [Lib.byteCells_length]; omega) hB).mono fun e w' ⟨he, h1, h2, h3⟩ => ⟨he, .inr (by rw [Lib.byteCells_append]; exact h1), h2, h3⟩
theorem built_str (B b : Nat) (l : List UInt8) (s : ByteArray) (w : World) (h : Built B b l w) (hl : l.length ≤ 1000000000000) (hs : s.size ≤ 1000000000000) (hB : B ≤ w.heap.size) :
    Calls Tryz.prog 95 #[.pointer (some ⟨b, 0, none⟩), .string s] w fun e w' => e = .returned (.tuple #[.int .i64 s.size, .nilIface]) ∧ Built B b (l ++ s.data.toList) w' ∧ Below B w w' ∧ Others b w w' :=
  (Tryz.WriteString B b _ s w h (by rw [Lib.byteCells_length]; omega) hB).mono fun e w' ⟨he, h1, h2, h3⟩ => ⟨he, .inr (by rw [Lib.byteCells_append]; exact h1), h2, h3⟩
theorem built_len (B b : Nat) (l : List UInt8) (w : World) (h : Built B b l w) :
    Calls Tryz.prog 97 #[.pointer (some ⟨b, 0, none⟩)] w fun e w' => e = .returned (.int .i64 l.length) ∧ w' = w := by
  have := Tryz.Builder_Len_f B b _ w h
  rw [Lib.byteCells_length] at this; exact this
theorem built_end (B b : Nat) (l : List UInt8) (w : World) (h : Built B b l w) (hB : B ≤ w.heap.size) :
    Calls Tryz.prog 36 #[.pointer (some ⟨b, 0, none⟩)] w fun e w' => e = .returned (.string ⟨l.toArray⟩) ∧ Below B w w' :=
  (Tryz.Builder_String_any_f B b l w h hB).mono fun _ _ ⟨he, _, h2⟩ => ⟨he, h2⟩
/-- A word's box. -/
theorem word_box (wr : World) (xa : Int) (xt : ByteArray) (xq : Bool) {b : Nat} {w2 : World} (hb : b < wr.heap.size) (h : Others b (wr.alloc (.cells #[.int .i64 xa, .string xt, .bool xq] 101)) w2) :
    w2.cell? ⟨wr.heap.size, 0, none⟩ = some (.int .i64 xa) ∧ w2.cell? ⟨wr.heap.size, 1, none⟩ = some (.string xt) ∧ w2.cell? ⟨wr.heap.size, 2, none⟩ = some (.bool xq) := by
  have := h wr.heap.size _ (heap_alloc_new wr _) (by simp; omega) (fun c fz e => by simp at e)
  exact ⟨by rw [Lib.cell_of_heap this]; rfl, by rw [Lib.cell_of_heap this]; rfl, by rw [Lib.cell_of_heap this]; rfl⟩
/-- A word of a slice of words, cell by cell. -/
theorem words_at {w : World} {p : Option Addr} {cap : Nat} {ws : List Wd} (h : SliceP w p cap ws.length 3 (flatW ws)) (k : Nat) (hk : k < ws.length) :
    ∃ b off, p = some ⟨b, off, none⟩ ∧ w.cell? ⟨b, off + k * 3, none⟩ = some (.int .i64 (ws.getD k noWd).at_) ∧ w.cell? ⟨b, off + k * 3 + 1, none⟩ = some (.string (ws.getD k noWd).text) ∧ w.cell? ⟨b, off + k * 3 + 2, none⟩ = some (.bool (ws.getD k noWd).quoted) := by
  obtain ⟨b, off, hp, _, hc⟩ := h.at_ (by omega)
  obtain ⟨e0, e1, e2⟩ := flatW_get ws k hk
  exact ⟨b, off, hp, hc _ _ e0, hc _ _ e1, hc _ _ e2⟩
theorem getD_mem {ws : List Wd} {k : Nat} (h : k < ws.length) : ws.getD k noWd ∈ ws := by
  rw [List.getD, List.getElem?_eq_getElem h]; exact List.getElem_mem _
theorem take_getD {ws : List Wd} {k : Nat} (h : k < ws.length) : ws.take (k + 1) = ws.take k ++ [ws.getD k noWd] := by
  rw [List.take_succ_eq_append_getElem h, List.getD, List.getElem?_eq_getElem h]; rfl
theorem written_size (x : Wd) : (writtenB x).size = (wordL x).length := by rw [← written_L]; simp
theorem wordL_len (x : Wd) : (wordL x).length ≤ x.text.size + 2 := by
  unfold wordL; split <;> simp
/-- What rowLine hands back. -/
def RowLPost (ws : List Wd) (w : World) (e : Ending) (w' : World) : Prop :=
  e = .returned (.tuple #[.string ⟨(if rowE ws = 0 then lineL ws else []).toArray⟩, .int .i64 (rowE ws)]) ∧ Below w.heap.size w w'
theorem RowLPost.bad {ws : List Wd} {w w' : World} {n : Int} (h : rowE ws = n) (hn : n ≠ 0) (hb : Below w.heap.size w w') : RowLPost ws w (.returned (.tuple #[.string ⟨#[]⟩, .int .i64 n])) w' := by
  refine ⟨?_, hb⟩
  rw [h, if_neg hn]
theorem RowLPost.good {ws : List Wd} {w w' : World} {l : List UInt8} (h : rowE ws = 0) (hl : l = lineL ws) (hb : Below w.heap.size w w') : RowLPost ws w (.returned (.tuple #[.string ⟨l.toArray⟩, .int .i64 0])) w' := by
  refine ⟨?_, hb⟩
  rw [h, if_pos rfl, hl]
theorem rowE_form {ws : List Wd} {x : Wd} (hm : x ∈ ws) (hx : okW x = false) : rowE ws = 3 := by
  unfold rowE; rw [if_pos]; right
  rw [List.all_eq_false]; exact ⟨_, hm, by simp [hx]⟩
theorem rowE_long {ws : List Wd} (h0 : ws ≠ []) (ha : ws.all okW = true) (hl : 1000 < (lineL ws).length) : rowE ws = 4 := by
  unfold rowE; rw [if_neg, if_pos hl]
  rintro (x | x)
  · exact h0 x
  · rw [ha] at x; cases x
theorem rowE_good {ws : List Wd} (h0 : ws ≠ []) (ha : ws.all okW = true) (hl : (lineL ws).length ≤ 1000) : rowE ws = 0 := by
  unfold rowE; rw [if_neg, if_neg (by omega)]
  rintro (x | x)
  · exact h0 x
  · rw [ha] at x; cases x
theorem tail_take (t : List Wd) (k : Nat) : (tailL (t.take k)).length ≤ (tailL t).length := by
  induction t generalizing k with
  | nil => simp
  | cons x t ih =>
    cases k with
    | zero => simp [tailL]
    | succ k => have := ih k; simp only [List.take_succ_cons, tailL, List.length_cons, List.length_append]; omega
theorem line_take (ws : List Wd) (k : Nat) : (lineL (ws.take k)).length ≤ (lineL ws).length := by
  cases ws with
  | nil => simp
  | cons x t =>
    cases k with
    | zero => simp [lineL]
    | succ k => have := tail_take t k; simp only [List.take_succ_cons, lineL, List.length_append]; omega
/-- What stands ahead of the word at k. -/
def ahead (ws : List Wd) (k : Nat) : List UInt8 := if k = 0 then [] else lineL (ws.take k) ++ [32]
theorem line_more {ws : List Wd} {k : Nat} (h : k < ws.length) {x : Wd} (ht : ws.take (k + 1) = ws.take k ++ [x]) : lineL (ws.take (k + 1)) = ahead ws k ++ wordL x := by
  rw [ht]; unfold ahead
  by_cases hk : k = 0
  · subst hk; simp [lineL, tailL]
  · rw [if_neg hk, lineL_snoc _ _ (by intro e; have h9 := congrArg List.length e; rw [List.length_take, List.length_nil] at h9; omega)]; simp
set_option maxRecDepth 100000 in
set_option maxHeartbeats 4000000 in
theorem wrowline_any (v : Value) (ws : List Wd) (w : World) (hv : WordsV w v ws) (hn : ws.length ≤ 100000) (hx : ∀ x ∈ ws, x.text.size ≤ 100000) :
    Calls Tryz.prog 94 #[v] w (RowLPost ws w) := by
  obtain ⟨p, cap, rfl, hs⟩ := hv
  have hfit := hs.fit
  have hmax := hs.max
  by_cases h0 : ws = []
  · subst h0
    clear hs hn hx
    go_enter Tryz.func94, Tryz.ntmps94
    go_wp2_with fail
    go_ret2
    exact RowLPost.bad rfl (by decide) (w_refl w)
  · have hpos : 0 < ws.length := List.length_pos_iff.2 h0
    have hne : ((ws.length : Int) == 0) = false := by rw [beq_eq_false_iff_ne]; omega
    have HS := Lib.hid hs
    have HX := Lib.hid hx
    clear hs hx
    have H0 := Lib.hid h0
    clear h0
    go_enter Tryz.func94, Tryz.ntmps94
    go_wp2_with fail
    go_loopw [14] (fun i wr => ∃ k : Nat, k ≤ ws.length ∧ i = .int .i64 k ∧ Hid ((ws.take k).all okW = true) ∧ Hid (Below w.heap.size w wr)) (fun i _ => ws.length - (intOf i).toNat)
    case atStart => exact ⟨0, by omega, rfl, Lib.hid (by simp), Lib.hid (w_refl w)⟩
    case round =>
      obtain ⟨k, hk, rfl, hall, hb⟩ := hrel
      by_cases hlt : k < ws.length
      · obtain ⟨b, off, rfl, c0, c1, c2⟩ := words_at (HS.out.later hb.out) k hlt
        have htk := Lib.hid (take_getD hlt)
        have hmem := Lib.hid (getD_mem hlt)
        have hsz := Lib.hid (HX.out _ hmem.out)
        generalize ws.getD k noWd = x at *
        obtain ⟨xa, xt, xq⟩ := x
        have IW := Lib.hid (fun W => wisword_any ⟨xa, xt, xq⟩ W (by have := hsz.out; simp only at this ⊢; omega))
        simp only at c0 c1 c2
        cases hok : okW ⟨xa, xt, xq⟩ with
        | true =>
          have hnew := Lib.hid (show (ws.take (k + 1)).all okW = true by rw [htk.out, List.all_append, hall.out]; simp [hok])
          rw [hok] at IW
          clear hok htk hall hmem
          go_wp2_with fail
          refine (IW.out _).mono ?_
          rintro e w2 ⟨rfl, hb2⟩
          have hbn := Lib.hid (w_below hb.out (w_below (w_alloc (w_refl wr) _) hb2))
          clear hb2 hb c0 c1 c2
          go_wp2_with fail
          go_roundw
          case rel => exact ⟨k + 1, by omega, by go_num, hnew, hbn⟩
          case measure => simp [intOf]; omega
        | false =>
          have hfin := Lib.hid (rowE_form hmem.out hok)
          rw [hok] at IW
          clear hok htk hall hmem
          go_wp2_with fail
          refine (IW.out _).mono ?_
          rintro e w2 ⟨rfl, hb2⟩
          have hbn := Lib.hid (w_below hb.out (w_below (w_alloc (w_refl wr) _) hb2))
          clear hb2 hb c0 c1 c2
          go_wp2_with fail
          go_ret2
          exact RowLPost.bad hfin.out (by decide) hbn.out
      · obtain rfl : k = ws.length := by omega
        have hal := Lib.hid (show ws.all okW = true by have := hall.out; rwa [List.take_of_length_le (Nat.le_refl _)] at this)
        have hb0 := Lib.hid (w_alloc hb.out (.cells #[.pointer none, .slice none 0 0] 72))
        have hB0 := Lib.hid (Built.fresh wr w.heap.size hb.out.size)
        clear hall hb
        go_wp2_with fail
        obtain ⟨Bb, hBb⟩ : ∃ Bb, wr.heap.size = Bb := ⟨_, rfl⟩
        rw [hBb] at hB0 ⊢
        go_loopw [24] (fun i wr2 => ∃ k : Nat, k ≤ ws.length ∧ i = .int .i64 k ∧ (lineL (ws.take k)).length ≤ 1000 ∧ Hid (Below w.heap.size w wr2) ∧ Hid (Built w.heap.size Bb (lineL (ws.take k)) wr2)) (fun i _ => ws.length - (intOf i).toNat)
        case atStart => exact ⟨0, by omega, rfl, by simp [lineL], hb0, by simpa [lineL] using hB0⟩
        case round =>
          obtain ⟨k, hk, rfl, hll, hb, hbu⟩ := hrel
          by_cases hlt : k < ws.length
          · obtain ⟨b, off, rfl, c0, c1, c2⟩ := words_at (HS.out.later hb.out) k hlt
            have htk := Lib.hid (take_getD hlt)
            have hsz := Lib.hid (HX.out _ (getD_mem hlt))
            generalize ws.getD k noWd = x at *
            have hlm := Lib.hid (line_more hlt htk.out)
            have WR := Lib.hid (fun W => wwritten_any x W (by have := hsz.out; omega))
            have hwl := Lib.hid (show (writtenB x).size ≤ 100002 by rw [written_size]; have := wordL_len x; have := hsz.out; omega)
            have hB1 := Lib.hid (hbu.out.later (w_alloc (w_refl wr) (.cells #[.int .i64 x.at_, .string x.text, .bool x.quoted] 101)))
            have hbA := Lib.hid (w_alloc hb.out (.cells #[.int .i64 x.at_, .string x.text, .bool x.quoted] 101))
            have hBlt := Lib.hid hbu.out.lt
            clear htk hbu hb
            have pre : (k = 0 ∧ ¬ (0 : Int) < k) ∨ (0 : Int) < k := by
              by_cases hk0 : k = 0
              · left; exact ⟨hk0, by omega⟩
              · right; omega
            have two : ∀ l : List UInt8, (l.length : Int) ≤ 1000 ∨ 1000 < (l.length : Int) := fun l => by omega
            rcases pre with ⟨hk0, hk0'⟩ | hk0'
            · have hah := Lib.hid (show ahead ws k = lineL (ws.take k) by unfold ahead; rw [if_pos hk0, hk0]; rfl)
              clear hk0
              go_wp2_with fail
              refine (WR.out _).mono ?_
              rintro e w2 ⟨rfl, hb2⟩
              have hB2 := Lib.hid (hB1.out.later hb2)
              have hbB := Lib.hid (w_below hbA.out hb2)
              clear hb2 c0 c1 c2 hB1 hbA
              go_wp2_with fail
              refine (built_str _ _ _ _ _ hB2.out (by omega) (by have := hwl.out; omega) hbB.out.size).mono ?_
              rintro e w3 ⟨rfl, hB3, hb3, _⟩
              have hB4 := Lib.hid (show Built w.heap.size Bb (lineL (ws.take (k + 1))) w3 by rw [hlm.out, hah.out, ← written_L]; exact hB3)
              have hbC := Lib.hid (hbB.out.trans hb3)
              clear hB3 hb3 hB2 hbB
              go_wp2_with fail
              refine (built_len _ _ _ _ hB4.out).mono ?_
              rintro e w4 ⟨rfl, hw⟩
              obtain rfl := hw.symm
              clear hw
              rcases two (lineL (ws.take (k + 1))) with ht | ht
              · have ht' : (lineL (ws.take (k + 1))).length ≤ 1000 := by omega
                go_wp2_with fail
                go_roundw
                case rel => exact ⟨k + 1, by omega, by go_num, ht', hbC, hB4⟩
                case measure => simp [intOf]; omega
              · have hfin := Lib.hid (rowE_long H0.out hal.out (by have h9 := line_take ws (k + 1); omega))
                go_wp2_with fail
                go_ret2
                exact RowLPost.bad hfin.out (by decide) hbC.out
            · have hah := Lib.hid (show ahead ws k = lineL (ws.take k) ++ [32] by unfold ahead; rw [if_neg (by omega)])
              go_wp2_with fail
              refine (built_byte _ _ _ 32 _ hB1.out (by omega) hbA.out.size).mono ?_
              rintro e w2 ⟨rfl, hBb1, hb1, hoth⟩
              have hB1' := Lib.hid hBb1
              have hbA' := Lib.hid (hbA.out.trans hb1)
              obtain ⟨d0, d1, d2⟩ := word_box wr _ _ _ hBlt.out.1 hoth
              clear hBb1 hb1 hoth hB1 hbA c0 c1 c2
              go_wp2_with fail
              refine (WR.out _).mono ?_
              rintro e w5 ⟨rfl, hb2⟩
              have hB2 := Lib.hid (hB1'.out.later hb2)
              have hbB := Lib.hid (w_below hbA'.out hb2)
              clear hb2 d0 d1 d2 hB1' hbA'
              go_wp2_with fail
              refine (built_str _ _ _ _ _ hB2.out (by rw [List.length_append]; simp; omega) (by have := hwl.out; omega) hbB.out.size).mono ?_
              rintro e w3 ⟨rfl, hB3, hb3, _⟩
              have hB4 := Lib.hid (show Built w.heap.size Bb (lineL (ws.take (k + 1))) w3 by rw [hlm.out, hah.out, ← written_L]; exact hB3)
              have hbC := Lib.hid (hbB.out.trans hb3)
              clear hB3 hb3 hB2 hbB
              go_wp2_with fail
              refine (built_len _ _ _ _ hB4.out).mono ?_
              rintro e w4 ⟨rfl, hw⟩
              obtain rfl := hw.symm
              clear hw
              rcases two (lineL (ws.take (k + 1))) with ht | ht
              · have ht' : (lineL (ws.take (k + 1))).length ≤ 1000 := by omega
                go_wp2_with fail
                go_roundw
                case rel => exact ⟨k + 1, by omega, by go_num, ht', hbC, hB4⟩
                case measure => simp [intOf]; omega
              · have hfin := Lib.hid (rowE_long H0.out hal.out (by have h9 := line_take ws (k + 1); omega))
                go_wp2_with fail
                go_ret2
                exact RowLPost.bad hfin.out (by decide) hbC.out
          · obtain rfl : k = ws.length := by omega
            have hB5 := Lib.hid (show Built w.heap.size Bb (lineL ws) wr by have := hbu.out; rwa [List.take_of_length_le (Nat.le_refl _)] at this)
            have hfin := Lib.hid (rowE_good H0.out hal.out (by rwa [List.take_of_length_le (Nat.le_refl _)] at hll))
            go_wp2_with fail
            refine (built_end _ _ _ _ hB5.out hb.out.size).mono ?_
            rintro e w2 ⟨rfl, hb2⟩
            have hbn := Lib.hid (hb.out.trans hb2)
            clear hb2
            go_wp2_with fail
            go_ret2
            exact RowLPost.good hfin.out rfl hbn.out
end Go.Proofs.YtdmedealdhadcaaGreatDoor

namespace Go.Proofs.YtdmedealdhadcaaGreatDoor
open Go.RowKit
def noRw : Rw := ⟨0, []⟩
theorem flatR_get : ∀ (l : List (Int × Value)) (k : Nat), k < l.length → (flatR l)[k * 2]? = some (.int .i64 (l.getD k (0, .bool false)).1) ∧ (flatR l)[k * 2 + 1]? = some (l.getD k (0, .bool false)).2
  | [], k, h => by simp at h
  | x :: t, 0, _ => ⟨rfl, rfl⟩
  | x :: t, k + 1, h => by
    have := flatR_get t k (by simpa using h)
    rw [show (k + 1) * 2 = k * 2 + 1 + 1 by omega]
    simpa [flatR] using this
theorem AllR.get {w : World} {o : Option Nat} : ∀ {vs rs}, AllR w o vs rs → ∀ k, k < rs.length → WordsV w (vs.getD k (0, .bool false)).2 (rs.getD k noRw).words ∧ (vs.getD k (0, .bool false)).1 = (rs.getD k noRw).at_
  | [], [], _, k, h => by simp at h
  | _ :: _, _ :: _, h, 0, _ => ⟨h.1.2.1, h.1.1⟩
  | _ :: _, _ :: _, h, k + 1, hk => by
    have := AllR.get h.2 k (by simpa using hk)
    simpa using this
  | [], _ :: _, h, _, _ => h.elim
  | _ :: _, [], h, _, _ => h.elim
theorem slice_words {w : World} {v : Value} {ws : List Wd} (h : WordsV w v ws) : ∃ p c, v = .slice p ws.length c := by obtain ⟨p, c, e, _⟩ := h; exact ⟨p, c, e⟩
/-- A row of a slice of rows. -/
theorem rows_at {w : World} {v : Value} {rs : List Rw} (h : RowsV w v rs) (k : Nat) (hk : k < rs.length) : ∃ b off cap p c, v = .slice (some ⟨b, off, none⟩) rs.length cap ∧ b < w.heap.size ∧ rs.length ≤ cap ∧ cap ≤ 9223372036854775807 ∧
    w.cell? ⟨b, off + k * 2, none⟩ = some (.int .i64 (rs.getD k noRw).at_) ∧ w.cell? ⟨b, off + k * 2 + 1, none⟩ = some (.slice p (rs.getD k noRw).words.length c) ∧ WordsV w (.slice p (rs.getD k noRw).words.length c) (rs.getD k noRw).words := by
  obtain ⟨p, cap, vs, o, rfl, hs, ha⟩ := h
  obtain ⟨b, off, rfl, hb, hc⟩ := hs.at_ (by omega)
  obtain ⟨e0, e1⟩ := flatR_get vs k (by rw [ha.len]; exact hk)
  obtain ⟨g1, g2⟩ := ha.get k hk
  obtain ⟨p, c, e⟩ := slice_words g1
  rw [e] at g1 e1
  rw [g2] at e0
  exact ⟨b, off, cap, p, c, rfl, hb, hs.fit, hs.max, hc _ _ e0, hc _ _ e1, g1⟩
theorem rows_nil {w : World} {v : Value} {rs : List Rw} (h : RowsV w v rs) : ∃ p cap, v = .slice p rs.length cap ∧ rs.length ≤ cap ∧ cap ≤ 9223372036854775807 := by
  obtain ⟨p, cap, vs, o, rfl, hs, _⟩ := h; exact ⟨p, cap, rfl, hs.fit, hs.max⟩
theorem drop_getD {rs : List Rw} {k : Nat} (h : k < rs.length) : rs.drop k = rs.getD k noRw :: rs.drop (k + 1) := by
  rw [List.drop_eq_getElem_cons h, List.getD, List.getElem?_eq_getElem h]; rfl
theorem getR_mem {rs : List Rw} {k : Nat} (h : k < rs.length) : rs.getD k noRw ∈ rs := by
  rw [List.getD, List.getElem?_eq_getElem h]; exact List.getElem_mem _
theorem small_size {l : List UInt8} {n : Nat} (h : l.length ≤ n) : (⟨l.toArray⟩ : ByteArray).size ≤ n := by
  have : (⟨l.toArray⟩ : ByteArray).size = l.length := by show l.toArray.size = _; simp
  omega
/-- Rows of a size that the walks bear. -/
def Modest (rs : List Rw) : Prop := rs.length ≤ 100000 ∧ ∀ r ∈ rs, r.words.length ≤ 100000 ∧ ∀ x ∈ r.words, x.text.size ≤ 100000
/-- What Text hands back. -/
def TextPost (rs : List Rw) (w : World) (e : Ending) (w' : World) : Prop := e = .returned (.tuple #[.string ⟨(textG [] rs).1.toArray⟩, .int .i64 (textG [] rs).2]) ∧ Below w.heap.size w w'
theorem TextPost.mk' {rs : List Rw} {w w' : World} {l : List UInt8} {n : Int} (h : textG [] rs = (l, n)) (hb : Below w.heap.size w w') : TextPost rs w (.returned (.tuple #[.string ⟨l.toArray⟩, .int .i64 n])) w' := by
  unfold TextPost; rw [h]; exact ⟨rfl, hb⟩
set_option maxRecDepth 100000 in
set_option maxHeartbeats 4000000 in
theorem wtext_any (v : Value) (rs : List Rw) (w : World) (hv : RowsV w v rs) (hm : Modest rs) : Calls Tryz.prog 48 #[v] w (TextPost rs w) := by
  have HV := Lib.hid hv
  obtain ⟨p, cap, rfl, hfit, hmax⟩ := rows_nil hv
  obtain ⟨hm1, hm2⟩ := hm
  have HM := Lib.hid hm2
  have hB0 := Lib.hid (Built.fresh w w.heap.size (Nat.le_refl _))
  clear hv hm2
  go_enter Tryz.func48, Tryz.ntmps48
  go_wp2_with fail
  go_loopw [11] (fun i wr => ∃ (k : Nat) (out : List UInt8), k ≤ rs.length ∧ i = .int .i64 k ∧ out.length ≤ 20000 ∧ Hid (textG [] rs = textG out (rs.drop k)) ∧ Hid (Below w.heap.size w wr) ∧ Hid (Built w.heap.size w.heap.size out wr)) (fun i _ => rs.length - (intOf i).toNat)
  case atStart => exact ⟨0, [], by omega, rfl, by simp, Lib.hid (by simp), Lib.hid (w_alloc (w_refl w) _), hB0⟩
  case round =>
    obtain ⟨k, out, hk, rfl, hol, hg, hb, hbu⟩ := hrel
    by_cases hlt : k < rs.length
    · obtain ⟨b, off, cap2, q, c, hveq, hbl, _, _, c0, c1, hw⟩ := rows_at (HV.out.later hb.out) k hlt
      simp only [Value.slice.injEq] at hveq
      obtain ⟨rfl, _, rfl⟩ := hveq
      have hd := Lib.hid (drop_getD hlt)
      have hsz := Lib.hid (HM.out _ (getR_mem hlt))
      generalize rs.getD k noRw = r at *
      obtain ⟨ra, ws⟩ := r
      simp only at c0 c1 hw
      have hst := Lib.hid (show textG [] rs = if rowE ws ≠ 0 then ([], rowE ws) else if 20000 < (out ++ (lineL ws ++ [10])).length then ([], 4) else textG (out ++ (lineL ws ++ [10])) (rs.drop (k + 1)) by rw [hg.out, hd.out]; rfl)
      have RL := Lib.hid (wrowline_any _ ws (wr.alloc (.cells #[.int .i64 ra, .slice q ws.length c] 62)) (hw.later (w_alloc (w_refl wr) _)) hsz.out.1 hsz.out.2)
      clear hw hg hd hsz
      go_wp2_with fail
      refine RL.out.mono ?_
      rintro e w2 ⟨rfl, hb2⟩
      have hB2 := Lib.hid (hbu.out.later (w_below (w_alloc (w_refl wr) (.cells #[.int .i64 ra, .slice q ws.length c] 62)) hb2))
      have hbB := Lib.hid (w_below hb.out (w_below (w_alloc (w_refl wr) (.cells #[.int .i64 ra, .slice q ws.length c] 62)) hb2))
      clear RL hb2 hb hbu c0 c1
      by_cases he : rowE ws = 0
      · rw [he, if_pos rfl]
        have h0 : ((0 : Int) != 0) = false := rfl
        have hll : (lineL ws).length ≤ 1000 := by
          unfold rowE at he
          split at he
          · cases he
          · split at he
            · cases he
            · omega
        have hst2 := Lib.hid (show textG [] rs = if 20000 < (out ++ (lineL ws ++ [10])).length then ([], 4) else textG (out ++ (lineL ws ++ [10])) (rs.drop (k + 1)) by rw [hst.out, if_neg (by rw [he]; decide)])
        have hsl := Lib.hid (show (⟨(lineL ws).toArray⟩ : ByteArray).size ≤ 1000000000000 from small_size (by omega))
        clear hst he
        go_wp2_with fail
        (with_reducible refine (built_str _ _ _ _ _ hB2.out (by omega) hsl.out hbB.out.size).mono ?_)
        rintro e w3 ⟨rfl, hB3, hb3, _⟩
        have hB3' := Lib.hid (show Built w.heap.size w.heap.size (out ++ lineL ws) w3 from hB3)
        have hbC := Lib.hid (hbB.out.trans hb3)
        clear hB3 hb3 hB2 hbB
        go_wp2_with fail
        refine (built_byte _ _ _ 10 _ hB3'.out (by rw [List.length_append]; omega) hbC.out.size).mono ?_
        rintro e w4 ⟨rfl, hB4, hb4, _⟩
        have hB4' := Lib.hid (show Built w.heap.size w.heap.size (out ++ (lineL ws ++ [10])) w4 by rw [← List.append_assoc]; exact hB4)
        have hbD := Lib.hid (hbC.out.trans hb4)
        clear hB4 hb4 hB3' hbC
        go_wp2_with fail
        (with_reducible refine (built_len _ _ _ _ hB4'.out).mono ?_)
        rintro e w5 ⟨rfl, hw⟩
        obtain rfl := hw.symm
        clear hw
        generalize out ++ (lineL ws ++ [10]) = out2 at *
        have two : (out2.length : Int) ≤ 20000 ∨ 20000 < (out2.length : Int) := by omega
        rcases two with ht | ht
        · have ht' : out2.length ≤ 20000 := by omega
          have hnew := Lib.hid (show textG [] rs = textG out2 (rs.drop (k + 1)) by rw [hst2.out, if_neg (by omega)])
          go_wp2_with fail
          go_roundw
          case rel => exact ⟨k + 1, out2, by omega, by go_num, ht', hnew, hbD, hB4'⟩
          case measure => simp [intOf]; omega
        · have hfin := Lib.hid (show textG [] rs = ([], 4) by rw [hst2.out, if_pos (by omega)])
          go_wp2_with fail
          go_ret2
          exact TextPost.mk' hfin.out hbD.out
      · rw [if_neg he]
        have hfin := Lib.hid (show textG [] rs = ([], rowE ws) by rw [hst.out, if_pos he])
        have h0 : (rowE ws != 0) = true := by simpa using he
        clear hst he
        go_wp2_with fail
        go_ret2
        exact TextPost.mk' hfin.out hbB.out
    · obtain rfl : k = rs.length := by omega
      have hfin := Lib.hid (show textG [] rs = (out, 0) by rw [hg.out, List.drop_of_length_le (Nat.le_refl _)]; rfl)
      go_wp2_with fail
      (with_reducible refine (built_end _ _ _ _ hbu.out hb.out.size).mono ?_)
      rintro e w2 ⟨rfl, hb2⟩
      have hbn := Lib.hid (hb.out.trans hb2)
      clear hb2
      go_wp2_with fail
      go_ret2
      exact TextPost.mk' hfin.out hbn.out
end Go.Proofs.YtdmedealdhadcaaGreatDoor

namespace Go.Proofs.YtdmedealdhadcaaGreatDoor
open Go.RowKit
def isW (x : Wd) (t : ByteArray) : Bool := !x.quoted && (x.text.toList == t.toList)
abbrev partB : ByteArray := ⟨#[112, 97, 114, 116]⟩
abbrev endB : ByteArray := ⟨#[101, 110, 100]⟩
/-- The fault of the first row's words. -/
def headE (ws : List Wd) : Int × Int :=
  if (isW (ws.getD 0 noWd) partB && decide (ws.length = 2)) = false then (3, (ws.getD 0 noWd).at_)
  else if (!(ws.getD 1 noWd).quoted && nameV (ws.getD 1 noWd).text.data.toList) = false then (7, (ws.getD 1 noWd).at_) else (0, 0)
/-- The fault of the row end and of what is behind it. -/
def endE (ws : List Wd) (rs : List Rw) : Int × Int :=
  if 1 < ws.length then (3, (ws.getD 1 noWd).at_) else if 0 < rs.length then (3, ((rs.getD 0 noRw).words.getD 0 noWd).at_) else (0, 0)
def ftV (f : Int × Int) : Value := .agg #[.int .i64 f.1, .int .i64 f.2]
set_option maxRecDepth 100000 in
set_option maxHeartbeats 4000000 in
theorem pisp_any (x : Wd) (t : ByteArray) (w : World) : Calls Tryz.prog 100 #[wv x, .string t] w fun e w' => e = .returned (.bool (isW x t)) ∧ Below w.heap.size w w' := by
  obtain ⟨a, s, q⟩ := x
  unfold wv isW
  have B0 := Lib.hid (w_alloc (w_refl w) (.cells #[.int .i64 a, .string s, .bool q] 101))
  have W1 := HoldsB.new w 101 #[.int .i64 a, .string s, .bool q]
  have c1 := W1.cell (j := 1) (v := .string s) rfl
  have c2 := W1.cell (j := 2) (v := .bool q) rfl
  clear W1
  cases q with
  | true =>
    go_enter Tryz.func100, Tryz.ntmps100
    go_wp2_with fail
    go_ret
    exact ⟨rfl, B0.out⟩
  | false =>
    cases hq : (s.toList == t.toList) with
    | true =>
      go_enter Tryz.func100, Tryz.ntmps100
      go_wp2_with fail
      go_ret
      exact ⟨rfl, B0.out⟩
    | false =>
      go_enter Tryz.func100, Tryz.ntmps100
      go_wp2_with fail
      go_ret
      exact ⟨rfl, B0.out⟩
theorem res_ft {fn : Func} {t : Tmp} (h : fn.results = #[.cell t 43]) {tmps : Array Value} {w : World} {b : Nat} {f : Int × Int} (ht : tmps.getD t undef = .pointer (some ⟨b, 0, none⟩)) (hb : HoldsB w b 43 #[.int .i64 f.1, .int .i64 f.2]) :
    (results fn tmps).run Tryz.prog w = .ok (ftV f) w :=
  res_row h ht (run_loadVar_mid (P := Tryz.prog) w b 0 43 [.int .i64 f.1, .int .i64 f.2] _ (holds_range hb) Tryz.underlying43 rfl (by kernel_rfl))
set_option maxRecDepth 100000 in
set_option maxHeartbeats 8000000 in
theorem phead_any (v : Value) (ws : List Wd) (hne : 0 < ws.length) (hsz : ∀ x ∈ ws, x.text.size ≤ 1000000) (w : World) (h : WordsV w v ws) : Calls Tryz.prog 51 #[v] w fun e w' => e = .returned (ftV (headE ws)) ∧ Below w.heap.size w w' := by
  obtain ⟨p, cap, rfl, hs⟩ := h
  have f1 := hs.fit
  have f2 := hs.max
  have F0 := Lib.hid (HoldsB.new w 43 #[.int .i64 0, .int .i64 0])
  have B0 := Lib.hid (w_alloc (w_refl w) (.cells #[.int .i64 0, .int .i64 0] 43))
  have hs1 := hs.later (w_alloc (w_refl w) (.cells #[.int .i64 0, .int .i64 0] 43))
  obtain ⟨b, off, rfl, a0, a1, a2⟩ := words_at hs1 0 hne
  have HS := Lib.hid hs1
  have IP := Lib.hid (fun V => pisp_any (ws.getD 0 noWd) partB V)
  have HE := Lib.hid (show headE ws = _ from rfl)
  have NM := Lib.hid (fun (k : 1 < ws.length) V => wname_any (ws.getD 1 noWd).text V (Nat.le_trans (hsz _ (getD_mem k)) (by unfold maxLen; decide)))
  have W1 := Lib.hid (fun (k : 1 < ws.length) V (hV : SliceP V (some ⟨b, off, none⟩) cap ws.length 3 (flatW ws)) => words_at hV 1 k)
  have E0 := Lib.hid (show ∀ c : Bool, (isW (ws.getD 0 noWd) partB && decide (ws.length = 2)) = false → headE ws = (3, (ws.getD 0 noWd).at_) from fun _ h => if_pos h)
  have E1 := Lib.hid (fun (h : (isW (ws.getD 0 noWd) partB && decide (ws.length = 2)) = true) => show headE ws = if (!(ws.getD 1 noWd).quoted && nameV (ws.getD 1 noWd).text.data.toList) = false then (7, (ws.getD 1 noWd).at_) else (0, 0) from if_neg (by rw [h]; decide))
  generalize headE ws = HE' at *
  clear HE
  generalize ws.getD 0 noWd = x0 at *
  obtain ⟨xa, xt, xq⟩ := x0
  simp only [Nat.zero_mul, Nat.add_zero] at a0 a1 a2
  unfold wv at IP
  clear hs hs1 hsz
  go_enter Tryz.func51, Tryz.ntmps51
  go_wp2_with fail
  refine (IP.out _).mono ?_
  rintro e w1 ⟨rfl, hb⟩
  have B1 := Lib.hid (w_below B0.out hb)
  have F1 := Lib.hid (F0.out.later hb)
  have S1 := Lib.hid (HS.out.later hb)
  replace a0 := cell_later hb a0
  clear hb IP a1 a2 HS F0 B0
  generalize isW ⟨xa, xt, xq⟩ partB = ip at *
  cases ip with
  | false =>
    have fin := Lib.hid (E0.out true rfl)
    clear E0 E1 NM W1 S1
    go_wp2_with (first | (refine wl_row 43 w.heap.size _ _ #[.int .i64 3, .int .i64 xa] F1.out (by kernel_rfl) (by kernel_rfl) (by kernel_rfl) rfl (by kernel_rfl) ?_) | fail)
    intro W5 h5 hB5 ho
    clear ho
    have H5 := Lib.hid h5
    have B5 := Lib.hid (hB5 _ _ B1.out (Nat.le_refl _))
    clear h5 hB5
    go_wp2_with fail
    refine bodyPost_ret (v := ftV (3, xa)) ?_ rfl ⟨by rw [fin.out], B5.out⟩
    exact res_ft rfl (by kernel_rfl) H5.out
  | true =>
    by_cases h2 : ws.length = 2
    · have hl2 : ((ws.length : Int) != 2) = false := by rw [h2]; rfl
      have k1 : 1 < ws.length := by omega
      have E2 := Lib.hid (E1.out (by rw [decide_eq_true h2]; rfl))
      obtain ⟨b', off', e, y0, y1, y2⟩ := W1.out k1 _ S1.out
      obtain ⟨rfl, rfl⟩ : b = b' ∧ off = off' := by cases e; exact ⟨rfl, rfl⟩
      have N1 := Lib.hid (NM.out k1)
      clear E0 E1 NM W1 e
      generalize ws.getD 1 noWd = x1 at *
      obtain ⟨ya, yt, yq⟩ := x1
      simp only [Nat.one_mul] at y0 y1 y2
      have k1' : (1 : Int) < ws.length := by omega
      cases yq with
      | true =>
        have fin := Lib.hid (show HE' = (7, ya) from E2.out)
        clear E2 N1 S1
        go_wp2_with (first | (refine wl_row 43 w.heap.size _ _ #[.int .i64 7, .int .i64 ya] F1.out (by kernel_rfl) (by kernel_rfl) (by kernel_rfl) rfl (by kernel_rfl) ?_) | fail)
        intro W5 h5 hB5 ho
        clear ho
        have H5 := Lib.hid h5
        have B5 := Lib.hid (hB5 _ _ B1.out (Nat.le_refl _))
        clear h5 hB5
        go_wp2_with fail
        refine bodyPost_ret (v := ftV (7, ya)) ?_ rfl ⟨by rw [fin.out], B5.out⟩
        exact res_ft rfl (by kernel_rfl) H5.out
      | false =>
        change Hid (HE' = if (true && nameV yt.data.toList) = false then (7, ya) else (0, 0)) at E2
        change Hid (∀ V, Calls _ _ #[.string yt] V fun e w' => e = .returned (.bool (nameV yt.data.toList)) ∧ V = w') at N1
        cases hn : nameV yt.data.toList with
        | true =>
          rw [hn] at E2 N1
          have fin := Lib.hid (show HE' = (0, 0) from E2.out)
          clear E2 S1
          go_wp2_with fail
          refine (N1.out _).mono ?_
          rintro e w2 ⟨rfl, rfl⟩
          clear N1
          go_wp2_with (first | (refine wl_row 43 w.heap.size _ _ #[.int .i64 0, .int .i64 0] F1.out (by kernel_rfl) (by kernel_rfl) (by kernel_rfl) rfl (by kernel_rfl) ?_) | fail)
          intro W5 h5 hB5 ho
          clear ho
          have H5 := Lib.hid h5
          have B5 := Lib.hid (hB5 _ _ B1.out (Nat.le_refl _))
          clear h5 hB5
          go_wp2_with fail
          refine bodyPost_ret (v := ftV (0, 0)) ?_ rfl ⟨by rw [fin.out], B5.out⟩
          exact res_ft rfl (by kernel_rfl) H5.out
        | false =>
          rw [hn] at E2 N1
          have fin := Lib.hid (show HE' = (7, ya) from E2.out)
          clear E2 S1
          go_wp2_with fail
          refine (N1.out _).mono ?_
          rintro e w2 ⟨rfl, rfl⟩
          clear N1
          go_wp2_with (first | (refine wl_row 43 w.heap.size _ _ #[.int .i64 7, .int .i64 ya] F1.out (by kernel_rfl) (by kernel_rfl) (by kernel_rfl) rfl (by kernel_rfl) ?_) | fail)
          intro W5 h5 hB5 ho
          clear ho
          have H5 := Lib.hid h5
          have B5 := Lib.hid (hB5 _ _ B1.out (Nat.le_refl _))
          clear h5 hB5
          go_wp2_with fail
          refine bodyPost_ret (v := ftV (7, ya)) ?_ rfl ⟨by rw [fin.out], B5.out⟩
          exact res_ft rfl (by kernel_rfl) H5.out
    · have hl2 : ((ws.length : Int) != 2) = true := by simp; omega
      have fin := Lib.hid (E0.out true (by rw [decide_eq_false h2]; rfl))
      clear E0 E1 NM W1 S1
      go_wp2_with (first | (refine wl_row 43 w.heap.size _ _ #[.int .i64 3, .int .i64 xa] F1.out (by kernel_rfl) (by kernel_rfl) (by kernel_rfl) rfl (by kernel_rfl) ?_) | fail)
      intro W5 h5 hB5 ho
      clear ho
      have H5 := Lib.hid h5
      have B5 := Lib.hid (hB5 _ _ B1.out (Nat.le_refl _))
      clear h5 hB5
      go_wp2_with fail
      refine bodyPost_ret (v := ftV (3, xa)) ?_ rfl ⟨by rw [fin.out], B5.out⟩
      exact res_ft rfl (by kernel_rfl) H5.out
theorem end_many {ws : List Wd} (rs : List Rw) (h : 1 < ws.length) : endE ws rs = (3, (ws.getD 1 noWd).at_) := if_pos h
theorem end_behind {ws : List Wd} {rs : List Rw} (h : ¬ 1 < ws.length) (k : 0 < rs.length) : endE ws rs = (3, ((rs.getD 0 noRw).words.getD 0 noWd).at_) := by unfold endE; rw [if_neg h, if_pos k]
theorem end_ok {ws : List Wd} {rs : List Rw} (h : ¬ 1 < ws.length) (k : ¬ 0 < rs.length) : endE ws rs = (0, 0) := by unfold endE; rw [if_neg h, if_neg k]
set_option maxRecDepth 100000 in
set_option maxHeartbeats 8000000 in
theorem pend_any (v u : Value) (ws : List Wd) (rs : List Rw) (hne : 0 < ws.length) (hrs : ∀ r ∈ rs, 0 < r.words.length) (w : World) (h : WordsV w v ws) (k : RowsV w u rs) : Calls Tryz.prog 101 #[v, u] w fun e w' => e = .returned (ftV (endE ws rs)) ∧ Below w.heap.size w w' := by
  obtain ⟨p, cap, rfl, hs⟩ := h
  have f1 := hs.fit
  have f2 := hs.max
  obtain ⟨q, cq, rfl, g1, g2⟩ := rows_nil k
  have F1 := Lib.hid (HoldsB.new w 43 #[.int .i64 0, .int .i64 0])
  have B1 := Lib.hid (w_alloc (w_refl w) (.cells #[.int .i64 0, .int .i64 0] 43))
  have hs1 := hs.later (w_alloc (w_refl w) (.cells #[.int .i64 0, .int .i64 0] 43))
  have hk1 := k.later (w_alloc (w_refl w) (.cells #[.int .i64 0, .int .i64 0] 43))
  by_cases h1 : 1 < ws.length
  · obtain ⟨b, off, rfl, y0, y1, y2⟩ := words_at hs1 1 h1
    have fin := Lib.hid (end_many rs h1)
    have h1' : (1 : Int) < ws.length := by omega
    simp only [Nat.one_mul] at y0
    generalize (ws.getD 1 noWd).at_ = ya at *
    generalize endE ws rs = R at *
    clear hs hs1 hk1 k y1 y2 hrs
    go_enter Tryz.func101, Tryz.ntmps101
    go_wp2_with (first | (refine wl_row 43 w.heap.size _ _ #[.int .i64 3, .int .i64 ya] F1.out (by kernel_rfl) (by kernel_rfl) (by kernel_rfl) rfl (by kernel_rfl) ?_) | fail)
    intro W5 h5 hB5 ho
    clear ho
    have H5 := Lib.hid h5
    have B5 := Lib.hid (hB5 _ _ B1.out (Nat.le_refl _))
    clear h5 hB5
    go_wp2_with fail
    refine bodyPost_ret (v := ftV (3, ya)) ?_ rfl ⟨by rw [fin.out], B5.out⟩
    exact res_ft rfl (by kernel_rfl) H5.out
  · have h1' : ¬ (1 : Int) < ws.length := by omega
    by_cases h2 : 0 < rs.length
    · obtain ⟨b, off, cap2, p2, c2, e, _, _, _, r0, r1, hw⟩ := rows_at hk1 0 h2
      have fin := Lib.hid (end_behind h1 h2)
      have h2' : (0 : Int) < rs.length := by omega
      have hn0 := hrs _ (getR_mem h2)
      generalize rs.getD 0 noRw = r at *
      obtain ⟨ra, rw_⟩ := r
      simp only at r0 r1 hw hn0
      obtain ⟨p3, c3, e3, hw3⟩ := hw
      simp only [Value.slice.injEq, true_and] at e3
      obtain ⟨rfl, rfl⟩ := e3
      obtain ⟨b3, o3, rfl, y0, y1, y2⟩ := words_at hw3 0 hn0
      have w1 := hw3.fit
      have w2 := hw3.max
      simp only [Nat.zero_mul, Nat.add_zero] at y0 r1
      change Hid (endE ws rs = (3, (rw_.getD 0 noWd).at_)) at fin
      generalize (rw_.getD 0 noWd).at_ = ya at *
      generalize endE ws rs = R at *
      simp only [Value.slice.injEq] at e
      obtain ⟨rfl, _, rfl⟩ := e
      clear hs hs1 hk1 k y1 y2 hrs hw3 r0
      go_enter Tryz.func101, Tryz.ntmps101
      go_wp2_with (first | (refine wl_row 43 w.heap.size _ _ #[.int .i64 3, .int .i64 ya] F1.out (by kernel_rfl) (by kernel_rfl) (by kernel_rfl) rfl (by kernel_rfl) ?_) | fail)
      intro W5 h5 hB5 ho
      clear ho
      have H5 := Lib.hid h5
      have B5 := Lib.hid (hB5 _ _ B1.out (Nat.le_refl _))
      clear h5 hB5
      go_wp2_with fail
      refine bodyPost_ret (v := ftV (3, ya)) ?_ rfl ⟨by rw [fin.out], B5.out⟩
      exact res_ft rfl (by kernel_rfl) H5.out
    · have fin := Lib.hid (end_ok h1 h2)
      have h2' : ¬ (0 : Int) < rs.length := by omega
      generalize endE ws rs = R at *
      clear hs hs1 hk1 k hrs
      go_enter Tryz.func101, Tryz.ntmps101
      go_wp2_with (first | (refine wl_row 43 w.heap.size _ _ #[.int .i64 0, .int .i64 0] F1.out (by kernel_rfl) (by kernel_rfl) (by kernel_rfl) rfl (by kernel_rfl) ?_) | fail)
      intro W5 h5 hB5 ho
      clear ho
      have H5 := Lib.hid h5
      have B5 := Lib.hid (hB5 _ _ B1.out (Nat.le_refl _))
      clear h5 hB5
      go_wp2_with fail
      refine bodyPost_ret (v := ftV (0, 0)) ?_ rfl ⟨by rw [fin.out], B5.out⟩
      exact res_ft rfl (by kernel_rfl) H5.out
end Go.Proofs.YtdmedealdhadcaaGreatDoor

namespace Go.Proofs.YtdmedealdhadcaaGreatDoor
open Go.RowKit
end Go.Proofs.YtdmedealdhadcaaGreatDoor
