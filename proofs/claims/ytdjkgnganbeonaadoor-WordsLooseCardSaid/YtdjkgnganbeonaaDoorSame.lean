/- The law's own same: two lists of rows that are alike, with their offsets or without. -/
import Derived.Test.YtdjkgnganbeonaaDoorRTxt
import Derived.RangeFuncOwn
import Derived.Deep.RegionHeld3
namespace Go.Proofs.YtdjkgnganbeonaaDoor
open Go.RowKit

/-- Two lists of rows are alike; with off, at the same offsets. -/
structure SameR (off : Bool) (ra rb : List Rw) : Prop where
  len : ra.length = rb.length
  words : ∀ k, k < ra.length → (ra.getD k noRw).words.length = (rb.getD k noRw).words.length
  at_ : off = true → ∀ k, k < ra.length → (ra.getD k noRw).at_ = (rb.getD k noRw).at_
  text : ∀ k, k < ra.length → ∀ m, m < (ra.getD k noRw).words.length → ((ra.getD k noRw).words.getD m noWd).text = ((rb.getD k noRw).words.getD m noWd).text
  quoted : ∀ k, k < ra.length → ∀ m, m < (ra.getD k noRw).words.length → ((ra.getD k noRw).words.getD m noWd).quoted = ((rb.getD k noRw).words.getD m noWd).quoted
  wat : off = true → ∀ k, k < ra.length → ∀ m, m < (ra.getD k noRw).words.length → ((ra.getD k noRw).words.getD m noWd).at_ = ((rb.getD k noRw).words.getD m noWd).at_
theorem SameR.refl (off : Bool) (rs : List Rw) : SameR off rs rs := ⟨rfl, fun _ _ => rfl, fun _ _ _ => rfl, fun _ _ _ _ => rfl, fun _ _ _ _ => rfl, fun _ _ _ _ _ => rfl⟩

theorem ka {w : World} {p : Addr} {v : Value} (h : w.cell? p = some v) (o : Obj) : (w.alloc o).cell? p = some v := by
  obtain ⟨x, hx, _⟩ := cells_of_cell h
  exact (World.cell?_of_block (w := w) (Below.heap_alloc w o _ (Array.getElem?_eq_some_iff.1 hx).1)).trans h
theorem cells_lt {w : World} {b o : Nat} {v : Value} (h : w.cell? ⟨b, o, none⟩ = some v) : b < w.heap.size ∧ True := by
  obtain ⟨x, hx, _⟩ := cells_of_cell h
  exact ⟨(Array.getElem?_eq_some_iff.1 hx).1, trivial⟩
set_option maxRecDepth 100000 in
set_option maxHeartbeats 4000000 in
theorem same_any (va vb : Value) (ra rb : List Rw) (off : Bool) (w : World) (ha : RowsV w va ra) (hb : RowsV w vb rb) (hs : SameR off ra rb) :
    Calls Tryd.prog 12 #[va, vb, .bool off] w fun e w' => e = .returned (.bool true) ∧ Below w.heap.size w w' := by
  have HA := Lib.hid ha
  have HB := Lib.hid hb
  have HS := Lib.hid hs
  obtain ⟨pa, ca, rfl, fa1, fa2⟩ := rows_nil ha
  obtain ⟨pb, cb, rfl, fb1, fb2⟩ := rows_nil hb
  have hl := hs.len
  obtain ⟨n, hn⟩ : ∃ n, ra.length = n := ⟨_, rfl⟩
  have HN := Lib.hid hn
  have HM := Lib.hid (show rb.length = n by omega)
  rw [HM.out] at fb1 ⊢
  rw [hn] at fa1 ⊢
  clear ha hb hs hl hn
  go_enter Tryd.func12, Tryd.ntmps12
  go_wp2_with fail
  go_loopw [7] (fun i wr => ∃ k : Nat, k ≤ n ∧ i = .int .i64 k ∧ Hid (Below w.heap.size w wr)) (fun i _ => n - (intOf i).toNat)
  case atStart => exact ⟨0, by omega, rfl, Lib.hid (w_refl w)⟩
  case round =>
    obtain ⟨k, hk, rfl, hbl⟩ := hrel
    by_cases hlt : k < n
    · have hka := Lib.hid (show k < ra.length by rw [HN.out]; exact hlt)
      have hkb := Lib.hid (show k < rb.length by rw [HM.out]; exact hlt)
      obtain ⟨b, off1, cap1, q, c, hv1, hb1, _, _, c0, c1, hw1⟩ := rows_at HA.out k hka.out
      obtain ⟨b', off2, cap2, q', c', hv2, hb2, _, _, d0, d1, hw2⟩ := rows_at HB.out k hkb.out
      simp only [Value.slice.injEq] at hv1 hv2
      obtain ⟨rfl, _, rfl⟩ := hv1
      obtain ⟨rfl, _, rfl⟩ := hv2
      rw [← HS.out.words k hka.out] at d1
      obtain ⟨_, _, hu1, hs1⟩ := hw1
      obtain ⟨_, _, hu2, hs2⟩ := hw2
      simp only [Value.slice.injEq] at hu1 hu2
      obtain ⟨rfl, _, rfl⟩ := hu1
      obtain ⟨rfl, _, rfl⟩ := hu2
      have hat := Lib.hid (fun h => HS.out.at_ h k hka.out)
      have htx := Lib.hid (HS.out.text k hka.out)
      have hqx := Lib.hid (HS.out.quoted k hka.out)
      have hax := Lib.hid (fun h => HS.out.wat h k hka.out)
      have hlw := Lib.hid (HS.out.words k hka.out)
      generalize ra.getD k noRw = r1 at *
      generalize rb.getD k noRw = r2 at *
      obtain ⟨a1, ws1⟩ := r1
      obtain ⟨a2, ws2⟩ := r2
      simp only at *
      have C0 := Lib.hid (fun W (h : Below w.heap.size w W) => show W.cell? ⟨b, off1 + k * 2, none⟩ = some (.int .i64 a1) from (h.cell (p := ⟨b, off1 + k * 2, none⟩) hb1).trans c0)
      have C1 := Lib.hid (fun W (h : Below w.heap.size w W) => show W.cell? ⟨b, off1 + k * 2 + 1, none⟩ = some (.slice q ws1.length c) from (h.cell (p := ⟨b, off1 + k * 2 + 1, none⟩) hb1).trans c1)
      have D0 := Lib.hid (fun W (h : Below w.heap.size w W) => show W.cell? ⟨b', off2 + k * 2, none⟩ = some (.int .i64 a2) from (h.cell (p := ⟨b', off2 + k * 2, none⟩) hb2).trans d0)
      have D1 := Lib.hid (fun W (h : Below w.heap.size w W) => show W.cell? ⟨b', off2 + k * 2 + 1, none⟩ = some (.slice q' ws1.length c') from (h.cell (p := ⟨b', off2 + k * 2 + 1, none⟩) hb2).trans d1)
      have HS1 := Lib.hid hs1
      have HS2 := Lib.hid hs2
      have f1 := hs1.fit
      have f2 := hs1.max
      have g1 := hs2.fit
      have g2 := hs2.max
      rw [← hlw.out] at g1
      clear c0 c1 d0 d1 hs1 hs2
      have c0 := C0.out _ hbl.out
      have c1 := C1.out _ hbl.out
      have d0 := D0.out _ hbl.out
      have d1 := D1.out _ hbl.out
      cases off with
      | true =>
        have e1 := hat.out rfl
        subst e1
        go_wp2_with fail
        go_quiet (fail)
        have hbq := Lib.hid (below_drewN hbl.out nq)
        go_wp2_with fail
        clear c0 c1 d0 d1 hbl
        go_loopw [8] (fun j wr2 => ∃ m : Nat, m ≤ ws1.length ∧ j = .int .i64 m ∧ Hid (Below w.heap.size w wr2)) (fun j _ => ws1.length - (intOf j).toNat)
        case atStart => exact ⟨0, by omega, rfl, hbq⟩
        case round =>
          obtain ⟨m, hm, rfl, hb2⟩ := hrel
          have c0 := C0.out _ hb2.out
          have c1 := C1.out _ hb2.out
          have d0 := D0.out _ hb2.out
          have d1 := D1.out _ hb2.out
          by_cases hlm : m < ws1.length
          · obtain ⟨x, xo, rfl, e0, e1, e2⟩ := words_at (HS1.out.later hb2.out) m hlm
            obtain ⟨y, yo, rfl, g0, g1, g2⟩ := words_at (HS2.out.later hb2.out) m (by rw [← hlw.out]; exact hlm)
            rw [← htx.out m hlm] at g1
            rw [← hqx.out m hlm] at g2
            rw [← hax.out trivial m hlm] at g0
            generalize (ws1.getD m noWd).text = t at *
            generalize (ws1.getD m noWd).quoted = q2 at *
            generalize (ws1.getD m noWd).at_ = at1 at *
            generalize (ws2.getD m noWd).at_ = at2 at *
            go_wp2_with fail
            have hlB := Lib.hid hb2.out.size
            have hb10 : b < wr.heap.size := by have := hlB.out; omega
            have hb20 : b' < wr.heap.size := by have := hlB.out; omega
            have hx0 : x < wr.heap.size := (cells_lt e0).1
            have hy0 : y < wr.heap.size := (cells_lt g0).1
            go_region_held3 (fun w' => w'.cell? ⟨b, off1 + k * 2 + 1, none⟩ = some (.slice (some ⟨x, xo, none⟩) ws1.length c) ∧ w'.cell? ⟨b', off2 + k * 2 + 1, none⟩ = some (.slice (some ⟨y, yo, none⟩) ws1.length c') ∧
                w'.cell? ⟨x, xo + m * 3, none⟩ = some (.int .i64 at1) ∧ w'.cell? ⟨x, xo + m * 3 + 1, none⟩ = some (.string t) ∧ w'.cell? ⟨x, xo + m * 3 + 2, none⟩ = some (.bool q2) ∧
                w'.cell? ⟨y, yo + m * 3, none⟩ = some (.int .i64 at1) ∧ w'.cell? ⟨y, yo + m * 3 + 1, none⟩ = some (.string t) ∧ w'.cell? ⟨y, yo + m * 3 + 2, none⟩ = some (.bool q2) ∧ Below w.heap.size w w')
              (first
                | exact ⟨c1, d1, e0, e1, e2, g0, g1, g2, hb2.out.drew⟩
                | exact ⟨ka c1 _, ka d1 _, ka e0 _, ka e1 _, ka e2 _, ka g0 _, ka g1 _, ka g2 _, w_alloc hb2.out _⟩
                | exact ⟨ka c1 _, ka d1 _, ka e0 _, ka e1 _, ka e2 _, ka g0 _, ka g1 _, ka g2 _, (w_alloc hb2.out _).drew⟩
                | exact ⟨ka (ka c1 _) _, ka (ka d1 _) _, ka (ka e0 _) _, ka (ka e1 _) _, ka (ka e2 _) _, ka (ka g0 _) _, ka (ka g1 _) _, ka (ka g2 _) _, w_alloc (w_alloc hb2.out _) _⟩
                | exact ⟨ka (ka c1 _) _, ka (ka d1 _) _, ka (ka e0 _) _, ka (ka e1 _) _, ka (ka e2 _) _, ka (ka g0 _) _, ka (ka g1 _) _, ka (ka g2 _) _, (w_alloc (w_alloc hb2.out _) _).drew⟩
                | assumption)
              (fail)
            all_goals
              clear c0 c1 d0 d1 e0 e1 e2 g0 g1 g2
              go_split_ands
              go_wp2_with fail
              go_roundw
              case rel =>
                first
                  | exact ⟨m + 1, by omega, by go_num, Lib.hid (by assumption)⟩
                  | exact ⟨m + 1, by omega, by go_num, Lib.hid (w_alloc (w_alloc hb2.out _) _)⟩
                  | exact ⟨m + 1, by omega, by go_num, Lib.hid (w_alloc (w_alloc hb2.out _) _).drew⟩
              case measure => simp [intOf]; omega
          · obtain rfl : m = ws1.length := by omega
            go_wp2_with fail
            go_roundw
            case rel => exact ⟨k + 1, by omega, by go_num, hb2⟩
            case measure => simp [intOf]; omega
      | false =>
        go_wp2_with fail
        go_quiet (fail)
        have hbq := Lib.hid (below_drewN hbl.out nq)
        go_wp2_with fail
        clear c0 c1 d0 d1 hbl
        go_loopw [8] (fun j wr2 => ∃ m : Nat, m ≤ ws1.length ∧ j = .int .i64 m ∧ Hid (Below w.heap.size w wr2)) (fun j _ => ws1.length - (intOf j).toNat)
        case atStart => exact ⟨0, by omega, rfl, hbq⟩
        case round =>
          obtain ⟨m, hm, rfl, hb2⟩ := hrel
          have c0 := C0.out _ hb2.out
          have c1 := C1.out _ hb2.out
          have d0 := D0.out _ hb2.out
          have d1 := D1.out _ hb2.out
          by_cases hlm : m < ws1.length
          · obtain ⟨x, xo, rfl, e0, e1, e2⟩ := words_at (HS1.out.later hb2.out) m hlm
            obtain ⟨y, yo, rfl, g0, g1, g2⟩ := words_at (HS2.out.later hb2.out) m (by rw [← hlw.out]; exact hlm)
            rw [← htx.out m hlm] at g1
            rw [← hqx.out m hlm] at g2
            generalize (ws1.getD m noWd).text = t at *
            generalize (ws1.getD m noWd).quoted = q2 at *
            generalize (ws1.getD m noWd).at_ = at1 at *
            generalize (ws2.getD m noWd).at_ = at2 at *
            go_wp2_with fail
            have hlB := Lib.hid hb2.out.size
            have hb10 : b < wr.heap.size := by have := hlB.out; omega
            have hb20 : b' < wr.heap.size := by have := hlB.out; omega
            have hx0 : x < wr.heap.size := (cells_lt e0).1
            have hy0 : y < wr.heap.size := (cells_lt g0).1
            go_region_held3 (fun w' => w'.cell? ⟨b, off1 + k * 2 + 1, none⟩ = some (.slice (some ⟨x, xo, none⟩) ws1.length c) ∧ w'.cell? ⟨b', off2 + k * 2 + 1, none⟩ = some (.slice (some ⟨y, yo, none⟩) ws1.length c') ∧
                w'.cell? ⟨x, xo + m * 3, none⟩ = some (.int .i64 at1) ∧ w'.cell? ⟨x, xo + m * 3 + 1, none⟩ = some (.string t) ∧ w'.cell? ⟨x, xo + m * 3 + 2, none⟩ = some (.bool q2) ∧
                w'.cell? ⟨y, yo + m * 3, none⟩ = some (.int .i64 at2) ∧ w'.cell? ⟨y, yo + m * 3 + 1, none⟩ = some (.string t) ∧ w'.cell? ⟨y, yo + m * 3 + 2, none⟩ = some (.bool q2) ∧ Below w.heap.size w w')
              (first
                | exact ⟨c1, d1, e0, e1, e2, g0, g1, g2, hb2.out.drew⟩
                | exact ⟨ka c1 _, ka d1 _, ka e0 _, ka e1 _, ka e2 _, ka g0 _, ka g1 _, ka g2 _, w_alloc hb2.out _⟩
                | exact ⟨ka c1 _, ka d1 _, ka e0 _, ka e1 _, ka e2 _, ka g0 _, ka g1 _, ka g2 _, (w_alloc hb2.out _).drew⟩
                | exact ⟨ka (ka c1 _) _, ka (ka d1 _) _, ka (ka e0 _) _, ka (ka e1 _) _, ka (ka e2 _) _, ka (ka g0 _) _, ka (ka g1 _) _, ka (ka g2 _) _, w_alloc (w_alloc hb2.out _) _⟩
                | exact ⟨ka (ka c1 _) _, ka (ka d1 _) _, ka (ka e0 _) _, ka (ka e1 _) _, ka (ka e2 _) _, ka (ka g0 _) _, ka (ka g1 _) _, ka (ka g2 _) _, (w_alloc (w_alloc hb2.out _) _).drew⟩
                | assumption)
              (fail)
            all_goals
              clear c0 c1 d0 d1 e0 e1 e2 g0 g1 g2
              go_split_ands
              go_wp2_with fail
              go_roundw
              case rel =>
                first
                  | exact ⟨m + 1, by omega, by go_num, Lib.hid (by assumption)⟩
                  | exact ⟨m + 1, by omega, by go_num, Lib.hid (w_alloc (w_alloc hb2.out _) _)⟩
                  | exact ⟨m + 1, by omega, by go_num, Lib.hid (w_alloc (w_alloc hb2.out _) _).drew⟩
              case measure => simp [intOf]; omega
          · obtain rfl : m = ws1.length := by omega
            go_wp2_with fail
            go_roundw
            case rel => exact ⟨k + 1, by omega, by go_num, hb2⟩
            case measure => simp [intOf]; omega
    · obtain rfl : k = n := by omega
      go_wp2_with fail
      go_ret
      exact ⟨rfl, hbl.out⟩

end Go.Proofs.YtdjkgnganbeonaaDoor
