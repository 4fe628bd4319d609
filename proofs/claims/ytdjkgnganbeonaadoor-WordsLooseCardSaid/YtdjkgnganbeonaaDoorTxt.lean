/- The program's Text: the text of rows, or its error, for every list of rows. -/
import Derived.Test.YtdjkgnganbeonaaDoorRowL
namespace Go.Proofs.YtdjkgnganbeonaaDoor
open Go.RowKit

def noRw : Rw := ⟨0, []⟩
theorem flatR_get : ∀ (l : List (Int × Value)) (k : Nat), k < l.length → (flatR l)[k * 2]? = some (.int .i64 (l.getD k (0, .bool false)).1) ∧ (flatR l)[k * 2 + 1]? = some (l.getD k (0, .bool false)).2
  | [], k, h => by simp at h
  | x :: t, 0, _ => ⟨rfl, rfl⟩
  | x :: t, k + 1, h => by
    have := flatR_get t k (by simpa using h)
    rw [show (k + 1) * 2 = k * 2 + 1 + 1 by omega]
    simpa [flatR] using this
theorem AllR.get {w : World} {o : Option Nat} : ∀ {vs rs}, AllR w o vs rs → ∀ k, k < rs.length → WordsV w (vs.getD k (0, .bool false)).2 (rs.getD k noRw).words ∧ (vs.getD k (0, .bool false)).1 = (rs.getD k noRw).at_
  | [], [], _, k, h => by simp at h
  | _ :: _, _ :: _, h, 0, _ => ⟨h.1.2.1, h.1.1⟩
  | _ :: _, _ :: _, h, k + 1, hk => by
    have := AllR.get h.2 k (by simpa using hk)
    simpa using this
  | [], _ :: _, h, _, _ => h.elim
  | _ :: _, [], h, _, _ => h.elim
theorem slice_words {w : World} {v : Value} {ws : List Wd} (h : WordsV w v ws) : ∃ p c, v = .slice p ws.length c := by obtain ⟨p, c, e, _⟩ := h; exact ⟨p, c, e⟩

/-- A row of a slice of rows. -/
theorem rows_at {w : World} {v : Value} {rs : List Rw} (h : RowsV w v rs) (k : Nat) (hk : k < rs.length) : ∃ b off cap p c, v = .slice (some ⟨b, off, none⟩) rs.length cap ∧ b < w.heap.size ∧ rs.length ≤ cap ∧ cap ≤ 9223372036854775807 ∧
    w.cell? ⟨b, off + k * 2, none⟩ = some (.int .i64 (rs.getD k noRw).at_) ∧ w.cell? ⟨b, off + k * 2 + 1, none⟩ = some (.slice p (rs.getD k noRw).words.length c) ∧ WordsV w (.slice p (rs.getD k noRw).words.length c) (rs.getD k noRw).words := by
  obtain ⟨p, cap, vs, o, rfl, hs, ha⟩ := h
  obtain ⟨b, off, rfl, hb, hc⟩ := hs.at_ (by omega)
  obtain ⟨e0, e1⟩ := flatR_get vs k (by rw [ha.len]; exact hk)
  obtain ⟨g1, g2⟩ := ha.get k hk
  obtain ⟨p, c, e⟩ := slice_words g1
  rw [e] at g1 e1
  rw [g2] at e0
  exact ⟨b, off, cap, p, c, rfl, hb, hs.fit, hs.max, hc _ _ e0, hc _ _ e1, g1⟩
theorem rows_nil {w : World} {v : Value} {rs : List Rw} (h : RowsV w v rs) : ∃ p cap, v = .slice p rs.length cap ∧ rs.length ≤ cap ∧ cap ≤ 9223372036854775807 := by
  obtain ⟨p, cap, vs, o, rfl, hs, _⟩ := h; exact ⟨p, cap, rfl, hs.fit, hs.max⟩
theorem drop_getD {rs : List Rw} {k : Nat} (h : k < rs.length) : rs.drop k = rs.getD k noRw :: rs.drop (k + 1) := by
  rw [List.drop_eq_getElem_cons h, List.getD, List.getElem?_eq_getElem h]; rfl
theorem getR_mem {rs : List Rw} {k : Nat} (h : k < rs.length) : rs.getD k noRw ∈ rs := by
  rw [List.getD, List.getElem?_eq_getElem h]; exact List.getElem_mem _

theorem small_size {l : List UInt8} {n : Nat} (h : l.length ≤ n) : (⟨l.toArray⟩ : ByteArray).size ≤ n := by
  have : (⟨l.toArray⟩ : ByteArray).size = l.length := by show l.toArray.size = _; simp
  omega

/-- Rows of a size that the walks bear. -/
def Modest (rs : List Rw) : Prop := rs.length ≤ 100000 ∧ ∀ r ∈ rs, r.words.length ≤ 100000 ∧ ∀ x ∈ r.words, x.text.size ≤ 100000

/-- What Text hands back. -/
def TextPost (rs : List Rw) (w : World) (e : Ending) (w' : World) : Prop := e = .returned (.tuple #[.string ⟨(textG [] rs).1.toArray⟩, .int .i64 (textG [] rs).2]) ∧ Below w.heap.size w w'
theorem TextPost.mk' {rs : List Rw} {w w' : World} {l : List UInt8} {n : Int} (h : textG [] rs = (l, n)) (hb : Below w.heap.size w w') : TextPost rs w (.returned (.tuple #[.string ⟨l.toArray⟩, .int .i64 n])) w' := by
  unfold TextPost; rw [h]; exact ⟨rfl, hb⟩

set_option maxRecDepth 100000 in
set_option maxHeartbeats 4000000 in
theorem wtext_any (v : Value) (rs : List Rw) (w : World) (hv : RowsV w v rs) (hm : Modest rs) : Calls Tryd.prog 15 #[v] w (TextPost rs w) := by
  have HV := Lib.hid hv
  obtain ⟨p, cap, rfl, hfit, hmax⟩ := rows_nil hv
  obtain ⟨hm1, hm2⟩ := hm
  have HM := Lib.hid hm2
  have hB0 := Lib.hid (Built.fresh w w.heap.size (Nat.le_refl _))
  clear hv hm2
  go_enter Tryd.func15, Tryd.ntmps15
  go_wp2_with fail
  go_loopw [11] (fun i wr => ∃ (k : Nat) (out : List UInt8), k ≤ rs.length ∧ i = .int .i64 k ∧ out.length ≤ 20000 ∧ Hid (textG [] rs = textG out (rs.drop k)) ∧ Hid (Below w.heap.size w wr) ∧ Hid (Built w.heap.size w.heap.size out wr)) (fun i _ => rs.length - (intOf i).toNat)
  case atStart => exact ⟨0, [], by omega, rfl, by simp, Lib.hid (by simp), Lib.hid (w_alloc (w_refl w) _), hB0⟩
  case round =>
    obtain ⟨k, out, hk, rfl, hol, hg, hb, hbu⟩ := hrel
    by_cases hlt : k < rs.length
    · obtain ⟨b, off, cap2, q, c, hveq, hbl, _, _, c0, c1, hw⟩ := rows_at (HV.out.later hb.out) k hlt
      simp only [Value.slice.injEq] at hveq
      obtain ⟨rfl, _, rfl⟩ := hveq
      have hd := Lib.hid (drop_getD hlt)
      have hsz := Lib.hid (HM.out _ (getR_mem hlt))
      generalize rs.getD k noRw = r at *
      obtain ⟨ra, ws⟩ := r
      simp only at c0 c1 hw
      have hst := Lib.hid (show textG [] rs = if rowE ws ≠ 0 then ([], rowE ws) else if 20000 < (out ++ (lineL ws ++ [10])).length then ([], 4) else textG (out ++ (lineL ws ++ [10])) (rs.drop (k + 1)) by rw [hg.out, hd.out]; rfl)
      have RL := Lib.hid (wrowline_any _ ws (wr.alloc (.cells #[.int .i64 ra, .slice q ws.length c] 44)) (hw.later (w_alloc (w_refl wr) _)) hsz.out.1 hsz.out.2)
      clear hw hg hd hsz
      go_wp2_with fail
      refine RL.out.mono ?_
      rintro e w2 ⟨rfl, hb2⟩
      have hB2 := Lib.hid (hbu.out.later (w_below (w_alloc (w_refl wr) (.cells #[.int .i64 ra, .slice q ws.length c] 44)) hb2))
      have hbB := Lib.hid (w_below hb.out (w_below (w_alloc (w_refl wr) (.cells #[.int .i64 ra, .slice q ws.length c] 44)) hb2))
      clear RL hb2 hb hbu c0 c1
      by_cases he : rowE ws = 0
      · rw [he, if_pos rfl]
        have h0 : ((0 : Int) != 0) = false := rfl
        have hll : (lineL ws).length ≤ 1000 := by
          unfold rowE at he
          split at he
          · cases he
          · split at he
            · cases he
            · omega
        have hst2 := Lib.hid (show textG [] rs = if 20000 < (out ++ (lineL ws ++ [10])).length then ([], 4) else textG (out ++ (lineL ws ++ [10])) (rs.drop (k + 1)) by rw [hst.out, if_neg (by rw [he]; decide)])
        have hsl := Lib.hid (show (⟨(lineL ws).toArray⟩ : ByteArray).size ≤ 1000000000000 from small_size (by omega))
        clear hst he
        go_wp2_with fail
        (with_reducible refine (built_str _ _ _ _ _ hB2.out (by omega) hsl.out hbB.out.size).mono ?_)
        rintro e w3 ⟨rfl, hB3, hb3, _⟩
        have hB3' := Lib.hid (show Built w.heap.size w.heap.size (out ++ lineL ws) w3 from hB3)
        have hbC := Lib.hid (hbB.out.trans hb3)
        clear hB3 hb3 hB2 hbB
        go_wp2_with fail
        refine (built_byte _ _ _ 10 _ hB3'.out (by rw [List.length_append]; omega) hbC.out.size).mono ?_
        rintro e w4 ⟨rfl, hB4, hb4, _⟩
        have hB4' := Lib.hid (show Built w.heap.size w.heap.size (out ++ (lineL ws ++ [10])) w4 by rw [← List.append_assoc]; exact hB4)
        have hbD := Lib.hid (hbC.out.trans hb4)
        clear hB4 hb4 hB3' hbC
        go_wp2_with fail
        (with_reducible refine (built_len _ _ _ _ hB4'.out).mono ?_)
        rintro e w5 ⟨rfl, hw⟩
        obtain rfl := hw.symm
        clear hw
        generalize out ++ (lineL ws ++ [10]) = out2 at *
        have two : (out2.length : Int) ≤ 20000 ∨ 20000 < (out2.length : Int) := by omega
        rcases two with ht | ht
        · have ht' : out2.length ≤ 20000 := by omega
          have hnew := Lib.hid (show textG [] rs = textG out2 (rs.drop (k + 1)) by rw [hst2.out, if_neg (by omega)])
          go_wp2_with fail
          go_roundw
          case rel => exact ⟨k + 1, out2, by omega, by go_num, ht', hnew, hbD, hB4'⟩
          case measure => simp [intOf]; omega
        · have hfin := Lib.hid (show textG [] rs = ([], 4) by rw [hst2.out, if_pos (by omega)])
          go_wp2_with fail
          go_ret2
          exact TextPost.mk' hfin.out hbD.out
      · rw [if_neg he]
        have hfin := Lib.hid (show textG [] rs = ([], rowE ws) by rw [hst.out, if_pos he])
        have h0 : (rowE ws != 0) = true := by simpa using he
        clear hst he
        go_wp2_with fail
        go_ret2
        exact TextPost.mk' hfin.out hbB.out
    · obtain rfl : k = rs.length := by omega
      have hfin := Lib.hid (show textG [] rs = (out, 0) by rw [hg.out, List.drop_of_length_le (Nat.le_refl _)]; rfl)
      go_wp2_with fail
      (with_reducible refine (built_end _ _ _ _ hbu.out hb.out.size).mono ?_)
      rintro e w2 ⟨rfl, hb2⟩
      have hbn := Lib.hid (hb.out.trans hb2)
      clear hb2
      go_wp2_with fail
      go_ret2
      exact TextPost.mk' hfin.out hbn.out

end Go.Proofs.YtdjkgnganbeonaaDoor
