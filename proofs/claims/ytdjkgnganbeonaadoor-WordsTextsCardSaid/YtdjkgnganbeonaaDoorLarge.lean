/- The law's own large: what it lets pass is small. -/
import Derived.Test.YtdjkgnganbeonaaDoorRTxt
namespace Go.Proofs.YtdjkgnganbeonaaDoor
open Go.RowKit

/-- Rows that the law lets pass. -/
def Little (rs : List Rw) : Prop := rs.length ≤ 300 ∧ ∀ r ∈ rs, r.words.length ≤ 300 ∧ ∀ x ∈ r.words, x.text.size ≤ 3000
theorem Little.modest {rs : List Rw} (h : Little rs) : Modest rs := ⟨by have := h.1; omega, fun r hr => ⟨by have := (h.2 r hr).1; omega, fun x hx => by have := (h.2 r hr).2 x hx; omega⟩⟩
theorem getR_all {rs : List Rw} {p : Rw → Prop} (h : ∀ j, j < rs.length → p (rs.getD j noRw)) : ∀ r ∈ rs, p r := by
  intro r hr
  obtain ⟨j, hj, e⟩ := List.getElem_of_mem hr
  have := h j hj
  rwa [List.getD, List.getElem?_eq_getElem hj, Option.getD_some, e] at this
theorem getD_all {ws : List Wd} {p : Wd → Prop} (h : ∀ j, j < ws.length → p (ws.getD j noWd)) : ∀ r ∈ ws, p r := by
  intro r hr
  obtain ⟨j, hj, e⟩ := List.getElem_of_mem hr
  have := h j hj
  rwa [List.getD, List.getElem?_eq_getElem hj, Option.getD_some, e] at this

def LargePost (rs : List Rw) (w : World) (e : Ending) (w' : World) : Prop := ∃ b, e = .returned (.bool b) ∧ (b = false → Little rs) ∧ Below w.heap.size w w'

set_option maxRecDepth 100000 in
set_option maxHeartbeats 4000000 in
theorem large_any (v : Value) (rs : List Rw) (w : World) (hv : RowsV w v rs) (hsz : ∀ r ∈ rs, ∀ x ∈ r.words, x.text.size ≤ maxLen) :
    Calls Tryd.prog 13 #[v] w (LargePost rs w) := by
  have HV := Lib.hid hv
  have HZ := Lib.hid hsz
  obtain ⟨p, cap, rfl, f1, f2⟩ := rows_nil hv
  clear hv hsz
  by_cases hbig : 300 < rs.length
  · have hbig' : (300 : Int) < rs.length := by omega
    go_enter Tryd.func13, Tryd.ntmps13
    go_wp2_with fail
    go_ret
    exact ⟨true, rfl, fun e => (by cases e), w_refl w⟩
  · have hbig' : (rs.length : Int) ≤ 300 := by omega
    go_enter Tryd.func13, Tryd.ntmps13
    go_wp2_with fail
    go_loopw [3, 4] (fun a i wr => ∃ (k n : Nat), k ≤ rs.length ∧ i = .int .i64 k ∧ a = .int .i64 n ∧ n ≤ k * 9300 ∧ Hid (Below w.heap.size w wr) ∧ Hid (∀ j, j < k → (rs.getD j noRw).words.length ≤ 300 ∧ ∀ x ∈ (rs.getD j noRw).words, x.text.size ≤ 3000)) (fun _ i _ => rs.length - (intOf i).toNat)
    case atStart => exact ⟨0, 0, by omega, rfl, rfl, by omega, Lib.hid (w_refl w), Lib.hid (fun j h => by omega)⟩
    case round =>
      obtain ⟨k, n, hk, rfl, rfl, hn, hb, hall⟩ := hrel
      by_cases hlt : k < rs.length
      · obtain ⟨b, off, cap2, q, c, hveq, hbl, _, _, c0, c1, hw⟩ := rows_at (HV.out.later hb.out) k hlt
        simp only [Value.slice.injEq] at hveq
        obtain ⟨rfl, _, rfl⟩ := hveq
        have hsz := Lib.hid (HZ.out _ (getR_mem hlt))
        have hstep := Lib.hid (fun (h : (rs.getD k noRw).words.length ≤ 300 ∧ ∀ x ∈ (rs.getD k noRw).words, x.text.size ≤ 3000) => show ∀ j, j < k + 1 → (rs.getD j noRw).words.length ≤ 300 ∧ ∀ x ∈ (rs.getD j noRw).words, x.text.size ≤ 3000 from fun j hj => by
          rcases Nat.lt_or_ge j k with h1 | h1
          · exact hall.out j h1
          · obtain rfl : j = k := by omega
            exact h)
        generalize rs.getD k noRw = r at *
        obtain ⟨ra, ws⟩ := r
        simp only at c0 c1 hw
        obtain ⟨_, _, hu, hs⟩ := hw
        simp only [Value.slice.injEq] at hu
        obtain ⟨rfl, _, rfl⟩ := hu
        have g1 := hs.fit
        have g2 := hs.max
        have HS := Lib.hid hs
        clear hs
        by_cases hwl : 300 < ws.length
        · have hwl' : (300 : Int) < ws.length := by omega
          go_wp2_with fail
          go_ret
          exact ⟨true, rfl, fun e => (by cases e), hb.out⟩
        · have hwl' : (ws.length : Int) ≤ 300 := by omega
          have C1 := Lib.hid (fun W (h : Below wr.heap.size wr W) => show W.cell? ⟨b, off + k * 2 + 1, none⟩ = some (.slice q ws.length c) from (h.cell (p := ⟨b, off + k * 2 + 1, none⟩) hbl).trans c1)
          go_wp2_with fail
          go_loopw [3, 5] (fun a i wq => ∃ (m n2 : Nat), m ≤ ws.length ∧ i = .int .i64 m ∧ a = .int .i64 n2 ∧ n2 ≤ k * 9300 + 300 + m * 30 ∧ Hid (Below wr.heap.size wr wq) ∧ Hid (∀ j, j < m → (ws.getD j noWd).text.size ≤ 3000)) (fun _ i _ => ws.length - (intOf i).toNat)
          case atStart => exact ⟨0, n + ws.length, by omega, rfl, by go_num, by omega, Lib.hid (w_refl wr), Lib.hid (fun j h => by omega)⟩
          case round =>
            obtain ⟨m, n2, hm, rfl, rfl, hn2, hb2, hall2⟩ := hrel
            have c1 := C1.out _ hb2.out
            by_cases hlm : m < ws.length
            · obtain ⟨x, xo, rfl, e0, e1, e2⟩ := words_at (HS.out.later hb2.out) m hlm
              have hts := Lib.hid (hsz.out _ (getD_mem hlm))
              have hst := Lib.hid (fun (h : (ws.getD m noWd).text.size ≤ 3000) => show ∀ j, j < m + 1 → (ws.getD j noWd).text.size ≤ 3000 from fun j hj => by
                rcases Nat.lt_or_ge j m with h1 | h1
                · exact hall2.out j h1
                · obtain rfl : j = m := by omega
                  exact h)
              generalize (ws.getD m noWd).text = t at *
              have hts' := hts.out
              unfold maxLen at hts'
              by_cases htl : 3000 < t.size
              · have htl' : (3000 : Int) < t.size := by omega
                go_wp2_with fail
                go_ret
                exact ⟨true, rfl, fun e => (by cases e), w_below hb.out hb2.out⟩
              · have htl' : (t.size : Int) ≤ 3000 := by omega
                have hdiv : ((t.size : Int)).tdiv 100 = ((t.size / 100 : Nat) : Int) := by
                  rw [Int.tdiv_eq_ediv_of_nonneg (by omega)]; omega
                go_wp2_with fail
                go_roundw
                case rel => exact ⟨m + 1, n2 + t.size / 100, by omega, by go_num, by go_num, by omega, hb2, Lib.hid (hst.out (by omega))⟩
                case measure => simp [intOf]; omega
            · obtain rfl : m = ws.length := by omega
              go_wp2_with fail
              go_roundw
              case rel => exact ⟨k + 1, n2, by omega, by go_num, rfl, by omega, Lib.hid (w_below hb.out hb2.out), Lib.hid (hstep.out ⟨by omega, getD_all hall2.out⟩)⟩
              case measure => simp [intOf]; omega
      · obtain rfl : k = rs.length := by omega
        have hfin := Lib.hid (show Little rs from ⟨by omega, getR_all hall.out⟩)
        go_wp2_with fail
        go_ret
        exact ⟨_, rfl, fun _ => hfin.out, hb.out⟩

end Go.Proofs.YtdjkgnganbeonaaDoor
