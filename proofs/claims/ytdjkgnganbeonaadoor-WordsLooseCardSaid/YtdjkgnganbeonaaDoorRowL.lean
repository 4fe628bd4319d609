/- The program's rowLine: the line of a row, or its error, for every list of words. -/
import Derived.Test.YtdjkgnganbeonaaDoorWord
namespace Go.Proofs.YtdjkgnganbeonaaDoor
open Go.RowKit

/-! A builder of the call's own, in bytes -/
def Built (B b : Nat) (l : List UInt8) (W : World) : Prop := Lib.IsBuilderF 65 5 B b (Lib.byteCells l) W
theorem Built.fresh (w : World) (B : Nat) (h : B ≤ w.heap.size) : Built B w.heap.size [] (w.alloc (.cells #[.pointer none, .slice none 0 0] 65)) :=
  .inl ⟨h, .slice none 0 0, heap_alloc_new w _, World.ownsRowF_nil _ _ _ _, by simp [Value.ownBlock]⟩
theorem own_laterF {w w1 : World} {base size : Nat} {e : TypeId} {v : Value} {n : Nat} {xs : List Value} (h : w.ownsRowF base e size v n xs) (k : Below w.heap.size w w1) : w1.ownsRowF base e size v n xs := by
  refine ⟨h.1, ?_⟩
  rcases h.2 with hn | ⟨g, cap, cur, fz, hv, hb, hg, rest⟩
  · exact .inl hn
  · exact .inr ⟨g, cap, cur, fz, hv, hb, by rw [k.block g (Array.getElem?_eq_some_iff.1 hg).1]; exact hg, rest⟩
theorem Built.later {B b : Nat} {l : List UInt8} {W W1 : World} (h : Built B b l W) (k : Below W.heap.size W W1) : Built B b l W1 := by
  rcases h with ⟨h1, v, h2, h3, h4⟩ | ⟨h1, v, h2, h3, h4⟩
  · exact .inl ⟨h1, v, (k.block b (Array.getElem?_eq_some_iff.1 h2).1).trans h2, own_laterF h3 k, h4⟩
  · exact .inr ⟨h1, v, (k.block b (Array.getElem?_eq_some_iff.1 h2).1).trans h2, own_laterF h3 k, h4⟩
theorem Built.lt {B b : Nat} {l : List UInt8} {W : World} (h : Built B b l W) : b < W.heap.size ∧ B ≤ b := by
  rcases h with ⟨h1, v, h2, _⟩ | ⟨h1, v, h2, _⟩
  · exact ⟨(Array.getElem?_eq_some_iff.1 h2).1, h1⟩
  · exact ⟨(Array.getElem?_eq_some_iff.1 h2).1, h1⟩
/-- Every block but the builder's, and no row of bytes, stands as it stood. -/
abbrev Others (b : Nat) (w w' : World) : Prop := Lib.OthersKept 5 (some b) w w'
theorem built_byte (B b : Nat) (l : List UInt8) (c : UInt8) (w : World) (h : Built B b l w) (hl : l.length ≤ 1000000000000) (hB : B ≤ w.heap.size) :
    Calls Tryd.prog 37 #[.pointer (some ⟨b, 0, none⟩), .int .u8 c.toNat] w fun e w' => e = .returned .nilIface ∧ Built B b (l ++ [c]) w' ∧ Below B w w' ∧ Others b w w' :=
  (Tryd.WriteByte B b _ c.toNat w h (by rw [Lib.byteCells_length]; omega) hB).mono fun e w' ⟨he, h1, h2, h3⟩ => ⟨he, .inr (by rw [Lib.byteCells_append]; exact h1), h2, h3⟩
theorem built_str (B b : Nat) (l : List UInt8) (s : ByteArray) (w : World) (h : Built B b l w) (hl : l.length ≤ 1000000000000) (hs : s.size ≤ 1000000000000) (hB : B ≤ w.heap.size) :
    Calls Tryd.prog 36 #[.pointer (some ⟨b, 0, none⟩), .string s] w fun e w' => e = .returned (.tuple #[.int .i64 s.size, .nilIface]) ∧ Built B b (l ++ s.data.toList) w' ∧ Below B w w' ∧ Others b w w' :=
  (Tryd.WriteString B b _ s w h (by rw [Lib.byteCells_length]; omega) hB).mono fun e w' ⟨he, h1, h2, h3⟩ => ⟨he, .inr (by rw [Lib.byteCells_append]; exact h1), h2, h3⟩
theorem built_len (B b : Nat) (l : List UInt8) (w : World) (h : Built B b l w) :
    Calls Tryd.prog 38 #[.pointer (some ⟨b, 0, none⟩)] w fun e w' => e = .returned (.int .i64 l.length) ∧ w' = w := by
  have := Tryd.Builder_Len_f B b _ w h
  rw [Lib.byteCells_length] at this; exact this
theorem built_end (B b : Nat) (l : List UInt8) (w : World) (h : Built B b l w) (hB : B ≤ w.heap.size) :
    Calls Tryd.prog 39 #[.pointer (some ⟨b, 0, none⟩)] w fun e w' => e = .returned (.string ⟨l.toArray⟩) ∧ Below B w w' :=
  (Tryd.Builder_String_any_f B b l w h hB).mono fun _ _ ⟨he, _, h2⟩ => ⟨he, h2⟩
/-- A word's box. -/
theorem word_box (wr : World) (xa : Int) (xt : ByteArray) (xq : Bool) {b : Nat} {w2 : World} (hb : b < wr.heap.size) (h : Others b (wr.alloc (.cells #[.int .i64 xa, .string xt, .bool xq] 53)) w2) :
    w2.cell? ⟨wr.heap.size, 0, none⟩ = some (.int .i64 xa) ∧ w2.cell? ⟨wr.heap.size, 1, none⟩ = some (.string xt) ∧ w2.cell? ⟨wr.heap.size, 2, none⟩ = some (.bool xq) := by
  have := h wr.heap.size _ (heap_alloc_new wr _) (by simp; omega) (fun c fz e => by simp at e)
  exact ⟨by rw [Lib.cell_of_heap this]; rfl, by rw [Lib.cell_of_heap this]; rfl, by rw [Lib.cell_of_heap this]; rfl⟩

/-- A word of a slice of words, cell by cell. -/
theorem words_at {w : World} {p : Option Addr} {cap : Nat} {ws : List Wd} (h : SliceP w p cap ws.length 3 (flatW ws)) (k : Nat) (hk : k < ws.length) :
    ∃ b off, p = some ⟨b, off, none⟩ ∧ w.cell? ⟨b, off + k * 3, none⟩ = some (.int .i64 (ws.getD k noWd).at_) ∧ w.cell? ⟨b, off + k * 3 + 1, none⟩ = some (.string (ws.getD k noWd).text) ∧ w.cell? ⟨b, off + k * 3 + 2, none⟩ = some (.bool (ws.getD k noWd).quoted) := by
  obtain ⟨b, off, hp, _, hc⟩ := h.at_ (by omega)
  obtain ⟨e0, e1, e2⟩ := flatW_get ws k hk
  exact ⟨b, off, hp, hc _ _ e0, hc _ _ e1, hc _ _ e2⟩
theorem getD_mem {ws : List Wd} {k : Nat} (h : k < ws.length) : ws.getD k noWd ∈ ws := by
  rw [List.getD, List.getElem?_eq_getElem h]; exact List.getElem_mem _
theorem take_getD {ws : List Wd} {k : Nat} (h : k < ws.length) : ws.take (k + 1) = ws.take k ++ [ws.getD k noWd] := by
  rw [List.take_succ_eq_append_getElem h, List.getD, List.getElem?_eq_getElem h]; rfl

theorem written_size (x : Wd) : (writtenB x).size = (wordL x).length := by rw [← written_L]; simp
theorem wordL_len (x : Wd) : (wordL x).length ≤ x.text.size + 2 := by
  unfold wordL; split <;> simp
/-- What rowLine hands back. -/
def RowLPost (ws : List Wd) (w : World) (e : Ending) (w' : World) : Prop :=
  e = .returned (.tuple #[.string ⟨(if rowE ws = 0 then lineL ws else []).toArray⟩, .int .i64 (rowE ws)]) ∧ Below w.heap.size w w'
theorem RowLPost.bad {ws : List Wd} {w w' : World} {n : Int} (h : rowE ws = n) (hn : n ≠ 0) (hb : Below w.heap.size w w') : RowLPost ws w (.returned (.tuple #[.string ⟨#[]⟩, .int .i64 n])) w' := by
  refine ⟨?_, hb⟩
  rw [h, if_neg hn]
theorem RowLPost.good {ws : List Wd} {w w' : World} {l : List UInt8} (h : rowE ws = 0) (hl : l = lineL ws) (hb : Below w.heap.size w w') : RowLPost ws w (.returned (.tuple #[.string ⟨l.toArray⟩, .int .i64 0])) w' := by
  refine ⟨?_, hb⟩
  rw [h, if_pos rfl, hl]
theorem rowE_form {ws : List Wd} {x : Wd} (hm : x ∈ ws) (hx : okW x = false) : rowE ws = 3 := by
  unfold rowE; rw [if_pos]; right
  rw [List.all_eq_false]; exact ⟨_, hm, by simp [hx]⟩
theorem rowE_long {ws : List Wd} (h0 : ws ≠ []) (ha : ws.all okW = true) (hl : 1000 < (lineL ws).length) : rowE ws = 4 := by
  unfold rowE; rw [if_neg, if_pos hl]
  rintro (x | x)
  · exact h0 x
  · rw [ha] at x; cases x
theorem rowE_good {ws : List Wd} (h0 : ws ≠ []) (ha : ws.all okW = true) (hl : (lineL ws).length ≤ 1000) : rowE ws = 0 := by
  unfold rowE; rw [if_neg, if_neg (by omega)]
  rintro (x | x)
  · exact h0 x
  · rw [ha] at x; cases x
theorem tail_take (t : List Wd) (k : Nat) : (tailL (t.take k)).length ≤ (tailL t).length := by
  induction t generalizing k with
  | nil => simp
  | cons x t ih =>
    cases k with
    | zero => simp [tailL]
    | succ k => have := ih k; simp only [List.take_succ_cons, tailL, List.length_cons, List.length_append]; omega
theorem line_take (ws : List Wd) (k : Nat) : (lineL (ws.take k)).length ≤ (lineL ws).length := by
  cases ws with
  | nil => simp
  | cons x t =>
    cases k with
    | zero => simp [lineL]
    | succ k => have := tail_take t k; simp only [List.take_succ_cons, lineL, List.length_append]; omega
/-- What stands ahead of the word at k. -/
def ahead (ws : List Wd) (k : Nat) : List UInt8 := if k = 0 then [] else lineL (ws.take k) ++ [32]
theorem line_more {ws : List Wd} {k : Nat} (h : k < ws.length) {x : Wd} (ht : ws.take (k + 1) = ws.take k ++ [x]) : lineL (ws.take (k + 1)) = ahead ws k ++ wordL x := by
  rw [ht]; unfold ahead
  by_cases hk : k = 0
  · subst hk; simp [lineL, tailL]
  · rw [if_neg hk, lineL_snoc _ _ (by intro e; have h9 := congrArg List.length e; rw [List.length_take, List.length_nil] at h9; omega)]; simp

set_option maxRecDepth 100000 in
set_option maxHeartbeats 4000000 in
theorem wrowline_any (v : Value) (ws : List Wd) (w : World) (hv : WordsV w v ws) (hn : ws.length ≤ 100000) (hx : ∀ x ∈ ws, x.text.size ≤ 100000) :
    Calls Tryd.prog 35 #[v] w (RowLPost ws w) := by
  obtain ⟨p, cap, rfl, hs⟩ := hv
  have hfit := hs.fit
  have hmax := hs.max
  by_cases h0 : ws = []
  · subst h0
    clear hs hn hx
    go_enter Tryd.func35, Tryd.ntmps35
    go_wp2_with fail
    go_ret2
    exact RowLPost.bad rfl (by decide) (w_refl w)
  · have hpos : 0 < ws.length := List.length_pos_iff.2 h0
    have hne : ((ws.length : Int) == 0) = false := by rw [beq_eq_false_iff_ne]; omega
    have HS := Lib.hid hs
    have HX := Lib.hid hx
    clear hs hx
    have H0 := Lib.hid h0
    clear h0
    go_enter Tryd.func35, Tryd.ntmps35
    go_wp2_with fail
    go_loopw [14] (fun i wr => ∃ k : Nat, k ≤ ws.length ∧ i = .int .i64 k ∧ Hid ((ws.take k).all okW = true) ∧ Hid (Below w.heap.size w wr)) (fun i _ => ws.length - (intOf i).toNat)
    case atStart => exact ⟨0, by omega, rfl, Lib.hid (by simp), Lib.hid (w_refl w)⟩
    case round =>
      obtain ⟨k, hk, rfl, hall, hb⟩ := hrel
      by_cases hlt : k < ws.length
      · obtain ⟨b, off, rfl, c0, c1, c2⟩ := words_at (HS.out.later hb.out) k hlt
        have htk := Lib.hid (take_getD hlt)
        have hmem := Lib.hid (getD_mem hlt)
        have hsz := Lib.hid (HX.out _ hmem.out)
        generalize ws.getD k noWd = x at *
        obtain ⟨xa, xt, xq⟩ := x
        have IW := Lib.hid (fun W => wisword_any ⟨xa, xt, xq⟩ W (by have := hsz.out; simp only at this ⊢; omega))
        simp only at c0 c1 c2
        cases hok : okW ⟨xa, xt, xq⟩ with
        | true =>
          have hnew := Lib.hid (show (ws.take (k + 1)).all okW = true by rw [htk.out, List.all_append, hall.out]; simp [hok])
          rw [hok] at IW
          clear hok htk hall hmem
          go_wp2_with fail
          refine (IW.out _).mono ?_
          rintro e w2 ⟨rfl, hb2⟩
          have hbn := Lib.hid (w_below hb.out (w_below (w_alloc (w_refl wr) _) hb2))
          clear hb2 hb c0 c1 c2
          go_wp2_with fail
          go_roundw
          case rel => exact ⟨k + 1, by omega, by go_num, hnew, hbn⟩
          case measure => simp [intOf]; omega
        | false =>
          have hfin := Lib.hid (rowE_form hmem.out hok)
          rw [hok] at IW
          clear hok htk hall hmem
          go_wp2_with fail
          refine (IW.out _).mono ?_
          rintro e w2 ⟨rfl, hb2⟩
          have hbn := Lib.hid (w_below hb.out (w_below (w_alloc (w_refl wr) _) hb2))
          clear hb2 hb c0 c1 c2
          go_wp2_with fail
          go_ret2
          exact RowLPost.bad hfin.out (by decide) hbn.out
      · obtain rfl : k = ws.length := by omega
        have hal := Lib.hid (show ws.all okW = true by have := hall.out; rwa [List.take_of_length_le (Nat.le_refl _)] at this)
        have hb0 := Lib.hid (w_alloc hb.out (.cells #[.pointer none, .slice none 0 0] 65))
        have hB0 := Lib.hid (Built.fresh wr w.heap.size hb.out.size)
        clear hall hb
        go_wp2_with fail
        obtain ⟨Bb, hBb⟩ : ∃ Bb, wr.heap.size = Bb := ⟨_, rfl⟩
        rw [hBb] at hB0 ⊢
        go_loopw [24] (fun i wr2 => ∃ k : Nat, k ≤ ws.length ∧ i = .int .i64 k ∧ (lineL (ws.take k)).length ≤ 1000 ∧ Hid (Below w.heap.size w wr2) ∧ Hid (Built w.heap.size Bb (lineL (ws.take k)) wr2)) (fun i _ => ws.length - (intOf i).toNat)
        case atStart => exact ⟨0, by omega, rfl, by simp [lineL], hb0, by simpa [lineL] using hB0⟩
        case round =>
          obtain ⟨k, hk, rfl, hll, hb, hbu⟩ := hrel
          by_cases hlt : k < ws.length
          · obtain ⟨b, off, rfl, c0, c1, c2⟩ := words_at (HS.out.later hb.out) k hlt
            have htk := Lib.hid (take_getD hlt)
            have hsz := Lib.hid (HX.out _ (getD_mem hlt))
            generalize ws.getD k noWd = x at *
            have hlm := Lib.hid (line_more hlt htk.out)
            have WR := Lib.hid (fun W => wwritten_any x W (by have := hsz.out; omega))
            have hwl := Lib.hid (show (writtenB x).size ≤ 100002 by rw [written_size]; have := wordL_len x; have := hsz.out; omega)
            have hB1 := Lib.hid (hbu.out.later (w_alloc (w_refl wr) (.cells #[.int .i64 x.at_, .string x.text, .bool x.quoted] 53)))
            have hbA := Lib.hid (w_alloc hb.out (.cells #[.int .i64 x.at_, .string x.text, .bool x.quoted] 53))
            have hBlt := Lib.hid hbu.out.lt
            clear htk hbu hb
            have pre : (k = 0 ∧ ¬ (0 : Int) < k) ∨ (0 : Int) < k := by
              by_cases hk0 : k = 0
              · left; exact ⟨hk0, by omega⟩
              · right; omega
            have two : ∀ l : List UInt8, (l.length : Int) ≤ 1000 ∨ 1000 < (l.length : Int) := fun l => by omega
            rcases pre with ⟨hk0, hk0'⟩ | hk0'
            · have hah := Lib.hid (show ahead ws k = lineL (ws.take k) by unfold ahead; rw [if_pos hk0, hk0]; rfl)
              clear hk0
              go_wp2_with fail
              refine (WR.out _).mono ?_
              rintro e w2 ⟨rfl, hb2⟩
              have hB2 := Lib.hid (hB1.out.later hb2)
              have hbB := Lib.hid (w_below hbA.out hb2)
              clear hb2 c0 c1 c2 hB1 hbA
              go_wp2_with fail
              refine (built_str _ _ _ _ _ hB2.out (by omega) (by have := hwl.out; omega) hbB.out.size).mono ?_
              rintro e w3 ⟨rfl, hB3, hb3, _⟩
              have hB4 := Lib.hid (show Built w.heap.size Bb (lineL (ws.take (k + 1))) w3 by rw [hlm.out, hah.out, ← written_L]; exact hB3)
              have hbC := Lib.hid (hbB.out.trans hb3)
              clear hB3 hb3 hB2 hbB
              go_wp2_with fail
              refine (built_len _ _ _ _ hB4.out).mono ?_
              rintro e w4 ⟨rfl, hw⟩
              obtain rfl := hw.symm
              clear hw
              rcases two (lineL (ws.take (k + 1))) with ht | ht
              · have ht' : (lineL (ws.take (k + 1))).length ≤ 1000 := by omega
                go_wp2_with fail
                go_roundw
                case rel => exact ⟨k + 1, by omega, by go_num, ht', hbC, hB4⟩
                case measure => simp [intOf]; omega
              · have hfin := Lib.hid (rowE_long H0.out hal.out (by have h9 := line_take ws (k + 1); omega))
                go_wp2_with fail
                go_ret2
                exact RowLPost.bad hfin.out (by decide) hbC.out
            · have hah := Lib.hid (show ahead ws k = lineL (ws.take k) ++ [32] by unfold ahead; rw [if_neg (by omega)])
              go_wp2_with fail
              refine (built_byte _ _ _ 32 _ hB1.out (by omega) hbA.out.size).mono ?_
              rintro e w2 ⟨rfl, hBb1, hb1, hoth⟩
              have hB1' := Lib.hid hBb1
              have hbA' := Lib.hid (hbA.out.trans hb1)
              obtain ⟨d0, d1, d2⟩ := word_box wr _ _ _ hBlt.out.1 hoth
              clear hBb1 hb1 hoth hB1 hbA c0 c1 c2
              go_wp2_with fail
              refine (WR.out _).mono ?_
              rintro e w5 ⟨rfl, hb2⟩
              have hB2 := Lib.hid (hB1'.out.later hb2)
              have hbB := Lib.hid (w_below hbA'.out hb2)
              clear hb2 d0 d1 d2 hB1' hbA'
              go_wp2_with fail
              refine (built_str _ _ _ _ _ hB2.out (by rw [List.length_append]; simp; omega) (by have := hwl.out; omega) hbB.out.size).mono ?_
              rintro e w3 ⟨rfl, hB3, hb3, _⟩
              have hB4 := Lib.hid (show Built w.heap.size Bb (lineL (ws.take (k + 1))) w3 by rw [hlm.out, hah.out, ← written_L]; exact hB3)
              have hbC := Lib.hid (hbB.out.trans hb3)
              clear hB3 hb3 hB2 hbB
              go_wp2_with fail
              refine (built_len _ _ _ _ hB4.out).mono ?_
              rintro e w4 ⟨rfl, hw⟩
              obtain rfl := hw.symm
              clear hw
              rcases two (lineL (ws.take (k + 1))) with ht | ht
              · have ht' : (lineL (ws.take (k + 1))).length ≤ 1000 := by omega
                go_wp2_with fail
                go_roundw
                case rel => exact ⟨k + 1, by omega, by go_num, ht', hbC, hB4⟩
                case measure => simp [intOf]; omega
              · have hfin := Lib.hid (rowE_long H0.out hal.out (by have h9 := line_take ws (k + 1); omega))
                go_wp2_with fail
                go_ret2
                exact RowLPost.bad hfin.out (by decide) hbC.out
          · obtain rfl : k = ws.length := by omega
            have hB5 := Lib.hid (show Built w.heap.size Bb (lineL ws) wr by have := hbu.out; rwa [List.take_of_length_le (Nat.le_refl _)] at this)
            have hfin := Lib.hid (rowE_good H0.out hal.out (by rwa [List.take_of_length_le (Nat.le_refl _)] at hll))
            go_wp2_with fail
            refine (built_end _ _ _ _ hB5.out hb.out.size).mono ?_
            rintro e w2 ⟨rfl, hb2⟩
            have hbn := Lib.hid (hb.out.trans hb2)
            clear hb2
            go_wp2_with fail
            go_ret2
            exact RowLPost.good hfin.out rfl hbn.out

end Go.Proofs.YtdjkgnganbeonaaDoor
