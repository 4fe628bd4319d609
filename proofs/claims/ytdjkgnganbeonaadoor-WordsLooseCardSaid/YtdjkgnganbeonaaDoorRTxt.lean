/- The reference's Text: for every list of rows. -/
import Derived.Test.YtdjkgnganbeonaaDoorTxt
namespace Go.Proofs.YtdjkgnganbeonaaDoor
open Go.RowKit

theorem data_app (a b : ByteArray) : (a ++ b).data.toList = a.data.toList ++ b.data.toList := by simp
theorem size_list (a : ByteArray) : a.data.toList.length = a.size := by simp
theorem bytes_of {a : ByteArray} {l : List UInt8} (h : a.data.toList = l) : a = ⟨l.toArray⟩ := by
  apply ByteArray.ext; apply Array.ext'; rw [h]

set_option maxRecDepth 100000 in
set_option maxHeartbeats 4000000 in
theorem rtext_any (v : Value) (rs : List Rw) (w : World) (hv : RowsV w v rs) (hm : Modest rs) : Calls Tryd.prog 16 #[v] w (TextPost rs w) := by
  have HV := Lib.hid hv
  obtain ⟨p, cap, rfl, hfit, hmax⟩ := rows_nil hv
  obtain ⟨hm1, hm2⟩ := hm
  have HM := Lib.hid hm2
  clear hv hm2
  go_enter Tryd.func16, Tryd.ntmps16
  go_wp2_with fail
  go_loopw [4, 5] (fun o i wr => ∃ (k : Nat) (out : ByteArray), k ≤ rs.length ∧ i = .int .i64 k ∧ o = .string out ∧ out.size ≤ 20000 ∧ Hid (textG [] rs = textG out.data.toList (rs.drop k)) ∧ Hid (Below w.heap.size w wr)) (fun _ i _ => rs.length - (intOf i).toNat)
  case atStart => exact ⟨0, ⟨#[]⟩, by omega, rfl, rfl, by decide, Lib.hid (by simp), Lib.hid (w_refl w)⟩
  case round =>
    obtain ⟨k, out, hk, rfl, rfl, hol, hg, hb⟩ := hrel
    by_cases hlt : k < rs.length
    · obtain ⟨b, off, cap2, q, c, hveq, hbl, _, _, c0, c1, hw⟩ := rows_at HV.out k hlt
      simp only [Value.slice.injEq] at hveq
      obtain ⟨rfl, _, rfl⟩ := hveq
      have hd := Lib.hid (drop_getD hlt)
      have hsz := Lib.hid (HM.out _ (getR_mem hlt))
      generalize rs.getD k noRw = r at *
      obtain ⟨ra, ws⟩ := r
      simp only at c0 c1 hw
      have hst := Lib.hid (show textG [] rs = if rowE ws ≠ 0 then ([], rowE ws) else if 20000 < (out.data.toList ++ (lineL ws ++ [10])).length then ([], 4) else textG (out.data.toList ++ (lineL ws ++ [10])) (rs.drop (k + 1)) by rw [hg.out, hd.out]; rfl)
      have hwl := hsz.out.1
      simp only at hwl
      have HW := Lib.hid hw
      have hCell := Lib.hid (fun W (h : Below w.heap.size w W) => show W.cell? ⟨b, off + k * 2 + 1, none⟩ = some (.slice q ws.length c) from (h.cell (p := ⟨b, off + k * 2 + 1, none⟩) hbl).trans c1)
      clear hw c0 c1
      have d1 := hCell.out wr hb.out
      by_cases h0 : ws = []
      · subst h0
        have hfin := Lib.hid (show textG [] rs = ([], 3) by rw [hst.out]; rfl)
        clear hst hg hd hsz
        go_wp2_with fail
        go_ret2
        exact TextPost.mk' hfin.out hb.out
      · have hpos : 0 < ws.length := List.length_pos_iff.2 h0
        have hne : ((ws.length : Int) == 0) = false := by rw [beq_eq_false_iff_ne]; omega
        have H0 := Lib.hid h0
        clear h0 hg hd
        go_wp2_with fail
        clear d1
        go_loopw [6, 7] (fun l j wr2 => ∃ (m : Nat) (L : ByteArray), m ≤ ws.length ∧ j = .int .i64 m ∧ l = .string L ∧ L.size ≤ m * 100003 ∧ Hid (L.data.toList = lineL (ws.take m)) ∧ Hid ((ws.take m).all okW = true) ∧ Hid (Below w.heap.size w wr2)) (fun _ j _ => ws.length - (intOf j).toNat)
        case atStart => exact ⟨0, ⟨#[]⟩, by omega, rfl, rfl, by decide, Lib.hid (by simp [lineL]), Lib.hid (by simp), hb⟩
        case round =>
          obtain ⟨m, L, hm, rfl, rfl, hLs, hLl, hall, hb2⟩ := hrel
          have d1 := hCell.out _ hb2.out
          by_cases hlm : m < ws.length
          · obtain ⟨qq, cc, hq1, hsl⟩ := HW.out
            simp only [Value.slice.injEq] at hq1
            obtain ⟨rfl, _, rfl⟩ := hq1
            have hf1 := hsl.fit
            have hf2 := hsl.max
            obtain ⟨b2, off2, rfl, e0, e1, e2⟩ := words_at (hsl.later hb2.out) m hlm
            have htk := Lib.hid (take_getD hlm)
            have hmem := Lib.hid (getD_mem hlm)
            have hxs := Lib.hid (hsz.out.2 _ hmem.out)
            generalize ws.getD m noWd = x at *
            have hlm2 := Lib.hid (line_more hlm htk.out)
            have WR := Lib.hid (fun W => rwritten_any x W (by have := hxs.out; omega))
            have hwl2 := Lib.hid (show (writtenB x).size ≤ 100002 by rw [written_size]; have := wordL_len x; have := hxs.out; omega)
            clear hsl
            cases hok : okW x with
            | false =>
              have hfin := Lib.hid (show textG [] rs = ([], 3) by rw [hst.out, rowE_form hmem.out hok]; rfl)
              rw [hok] at WR
              clear hok htk hmem
              go_wp2_with fail
              refine (WR.out _).mono ?_
              rintro e w5 ⟨rfl, hb5⟩
              have hbn := Lib.hid (w_below hb2.out hb5)
              clear hb5
              go_wp2_with fail
              go_ret2
              exact TextPost.mk' hfin.out hbn.out
            | true =>
              have hnall := Lib.hid (show (ws.take (m + 1)).all okW = true by rw [htk.out, List.all_append, hall.out]; simp [hok])
              have hwr := Lib.hid (show writtenR x = writtenB x by unfold writtenR; rw [if_pos hok])
              rw [hok, hwr.out] at WR
              clear hok htk hmem hall
              have hLw := hwl2.out
              have hW9 := Lib.hid (written_L x)
              generalize writtenB x = wb at *
              have o1 : ¬ 9223372036854775807 < L.size + 1 := by omega
              have o2 : ¬ 9223372036854775807 < L.size + 1 + wb.size := by omega
              have o3 : ¬ 9223372036854775807 < L.size + wb.size := by omega
              have pre : (m = 0 ∧ ¬ (0 : Int) < m) ∨ (0 : Int) < m := by
                by_cases hk0 : m = 0
                · left; exact ⟨hk0, by omega⟩
                · right; omega
              rcases pre with ⟨hk0, hk0'⟩ | hk0'
              · have hah := Lib.hid (show ahead ws m = lineL (ws.take m) by unfold ahead; rw [if_pos hk0, hk0]; rfl)
                have hnl := Lib.hid (show (L ++ wb).data.toList = lineL (ws.take (m + 1)) by rw [data_app, hLl.out, hlm2.out, hah.out, hW9.out])
                have hns : (L ++ wb).size ≤ (m + 1) * 100003 := by rw [ByteArray.size_append]; omega
                clear hk0
                go_wp2_with fail
                refine (WR.out _).mono ?_
                rintro e w5 ⟨rfl, hb5⟩
                have hbn := Lib.hid (w_below hb2.out hb5)
                clear hb5 d1
                go_wp2_with fail
                go_roundw
                case rel => exact ⟨m + 1, L ++ wb, by omega, by go_num, rfl, hns, hnl, hnall, hbn⟩
                case measure => simp [intOf]; omega
              · have hah := Lib.hid (show ahead ws m = lineL (ws.take m) ++ [32] by unfold ahead; rw [if_neg (by omega)])
                have hnl := Lib.hid (show (L ++ ⟨#[32]⟩ ++ wb).data.toList = lineL (ws.take (m + 1)) by rw [data_app, data_app, hLl.out, hlm2.out, hah.out, hW9.out])
                have hns : (L ++ ⟨#[32]⟩ ++ wb).size ≤ (m + 1) * 100003 := by
                  rw [ByteArray.size_append, ByteArray.size_append, show (⟨#[32]⟩ : ByteArray).size = 1 from rfl]; omega
                go_wp2_with fail
                refine (WR.out _).mono ?_
                rintro e w5 ⟨rfl, hb5⟩
                have hbn := Lib.hid (w_below hb2.out hb5)
                clear hb5 d1
                go_wp2_with fail
                go_roundw
                case rel => exact ⟨m + 1, L ++ ⟨#[32]⟩ ++ wb, by omega, by go_num, rfl, hns, hnl, hnall, hbn⟩
                case measure => simp [intOf]; omega
          · obtain rfl : m = ws.length := by omega
            have hal := Lib.hid (show ws.all okW = true by have := hall.out; rwa [List.take_of_length_le (Nat.le_refl _)] at this)
            have hLw := Lib.hid (show L.data.toList = lineL ws by have := hLl.out; rwa [List.take_of_length_le (Nat.le_refl _)] at this)
            clear hall hLl
            have o1 : ¬ 9223372036854775807 < out.size + L.size := by omega
            have o2 : ¬ 9223372036854775807 < out.size + L.size + 1 := by omega
            have hE := Lib.hid (show (out ++ L ++ ⟨#[10]⟩).data.toList = out.data.toList ++ (lineL ws ++ [10]) by rw [data_app, data_app, hLw.out, List.append_assoc])
            have hEs : (out ++ L ++ ⟨#[10]⟩).size = out.size + L.size + 1 := by rw [ByteArray.size_append, ByteArray.size_append]; rfl
            have hlen := Lib.hid (show (out.data.toList ++ (lineL ws ++ [10])).length = out.size + L.size + 1 by rw [← hE.out, size_list, hEs])
            have hll := Lib.hid (show (lineL ws).length = L.size by rw [← hLw.out, size_list])
            clear hEs
            by_cases hbig : 1000 < L.size
            · have hbig' : (1000 : Int) < L.size := by omega
              have hfin := Lib.hid (show textG [] rs = ([], 4) by rw [hst.out, rowE_long H0.out hal.out (by rw [hll.out]; exact hbig)]; rfl)
              go_wp2_with fail
              go_ret2
              exact TextPost.mk' hfin.out hb2.out
            · have hbig' : ¬ (1000 : Int) < L.size := by omega
              have hst2 := Lib.hid (show textG [] rs = if 20000 < out.size + L.size + 1 then ([], 4) else textG (out ++ L ++ ⟨#[10]⟩).data.toList (rs.drop (k + 1)) by rw [hst.out, rowE_good H0.out hal.out (by rw [hll.out]; omega), hE.out, hlen.out]; rfl)
              by_cases hover : 20000 < out.size + L.size + 1
              · have hover' : (20000 : Int) < (out.size : Int) + L.size + 1 := by omega
                have hfin := Lib.hid (show textG [] rs = ([], 4) by rw [hst2.out, if_pos hover])
                go_wp2_with fail
                go_ret2
                exact TextPost.mk' hfin.out hb2.out
              · have hover' : ¬ (20000 : Int) < (out.size : Int) + L.size + 1 := by omega
                have hnew := Lib.hid (show textG [] rs = textG (out ++ L ++ ⟨#[10]⟩).data.toList (rs.drop (k + 1)) by rw [hst2.out, if_neg hover])
                have hns : (out ++ L ++ ⟨#[10]⟩).size ≤ 20000 := by rw [ByteArray.size_append, ByteArray.size_append, show (⟨#[10]⟩ : ByteArray).size = 1 from rfl]; omega
                go_wp2_with fail
                go_roundw
                case rel => exact ⟨k + 1, out ++ L ++ ⟨#[10]⟩, by omega, by go_num, rfl, hns, hnew, hb2⟩
                case measure => simp [intOf]; omega
    · obtain rfl : k = rs.length := by omega
      have hfin := Lib.hid (show textG [] rs = (out.data.toList, 0) by rw [hg.out, List.drop_of_length_le (Nat.le_refl _)]; rfl)
      go_wp2_with fail
      go_ret2
      exact TextPost.mk' hfin.out hb.out

end Go.Proofs.YtdjkgnganbeonaaDoor
