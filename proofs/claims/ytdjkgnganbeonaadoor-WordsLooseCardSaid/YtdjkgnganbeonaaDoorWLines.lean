/- The reference's Rows: for every text. -/
import Derived.Test.YtdjkgnganbeonaaDoorWSpec
namespace Go.Proofs.YtdjkgnganbeonaaDoor
open Go.RowKit

def fE : Option (Int × Int) → Int
  | none => 0
  | some x => x.1
def fA : Option (Int × Int) → Int
  | none => 0
  | some x => x.2

/-- What Rows hands back. -/
def RowsPost (s : ByteArray) (w : World) (e : Ending) (w' : World) : Prop :=
  ∃ rs b v, RowsRes s rs b ∧ Below w.heap.size w w' ∧ e = .returned (.tuple #[v, .agg #[.int .i64 (fE b), .int .i64 (fA b)]]) ∧ RowsV w' v rs

structure RowsInv (s : ByteArray) (w wr : World) (i : Nat) (acc : List Rw) (v : Value) : Prop where
  rows : RowsI wr (w.heap.size + 1) v acc
  bel : Below (w.heap.size + 1) (w.alloc (.cells #[.int .i64 0, .int .i64 0] 26)) wr
  ok : ∀ rs b, RowsR s i rs b → RowsR s 0 (acc ++ rs) b

theorem rowsV_nil (w : World) : RowsV w (.slice none 0 0) [] := (rowsI_nil w 0).val

/-- Two cells of the call's own: the fault. -/
structure Cell2 (w : World) (b : Nat) (n d : Int) : Prop where
  inb : b < w.heap.size
  c0 : w.cell? ⟨b, 0, none⟩ = some (.int .i64 n)
  c1 : w.cell? ⟨b, 1, none⟩ = some (.int .i64 d)
  f0 : w.frozen? ⟨b, 0, none⟩ = false
  f1 : w.frozen? ⟨b, 1, none⟩ = false
theorem Cell2.made (w : World) (n d : Int) (t : TypeId) : Cell2 (w.alloc (.cells #[.int .i64 n, .int .i64 d] t)) w.heap.size n d := ⟨by simp, by go_simp, by go_simp, by go_simp, by go_simp⟩
theorem Cell2.below {w w1 : World} {b B : Nat} {n d : Int} (h : Cell2 w b n d) (k : Below B w w1) (hB : b < B) : Cell2 w1 b n d :=
  ⟨Nat.lt_of_lt_of_le h.inb k.size, by rw [← h.c0]; exact k.cell (p := ⟨b, 0, none⟩) hB, by rw [← h.c1]; exact k.cell (p := ⟨b, 1, none⟩) hB, by rw [← h.f0]; exact k.frozen (p := ⟨b, 0, none⟩) hB, by rw [← h.f1]; exact k.frozen (p := ⟨b, 1, none⟩) hB⟩

theorem Cell2.keeps {w : World} {b : Nat} {n d : Int} (h : Cell2 w b n d) : Keeps w ((w.setCell ⟨b, 0, none⟩ (.int .i64 n)).setCell ⟨b, 1, none⟩ (.int .i64 d)) := by
  have one : ∀ (x : World) (p a : Addr) (u v : Value), x.cell? p = some u → x.cell? a = some v → (x.setCell p u).cell? a = some v := fun x p a u v h1 h2 => by
    by_cases e : a = p
    · subst e
      rw [h1] at h2; cases h2
      exact World.cell?_setCell_same _ _ _ h1
    · rw [World.cell?_setCell_other _ _ _ _ (fun x => e x.symm)]; exact h2
  refine ⟨by simp, fun a v ha => ?_⟩
  exact one _ _ _ _ _ (one _ _ _ _ _ h.c0 h.c1) (one _ _ _ _ _ h.c0 ha)

theorem RowsInv.fault {s : ByteArray} {w wr : World} {i : Nat} {acc : List Rw} {v : Value} (h : RowsInv s w wr i acc v) : Cell2 wr w.heap.size 0 0 := (Cell2.made w 0 0 26).below h.bel (by omega)
theorem RowsInv.all {s : ByteArray} {w wr : World} {i : Nat} {acc : List Rw} {v : Value} (h : RowsInv s w wr i acc v) : Below w.heap.size w wr :=
  (w_alloc (w_refl w) _).trans (h.bel.mono (by omega))
/-- A fault at the end. -/
theorem RowsInv.bad {s : ByteArray} {w wr w2 : World} {i : Nat} {acc : List Rw} {v : Value} {x : Int × Int} (h : RowsInv s w wr i acc v) (hs : s.size ≤ 20000) (hr : RowsR s i [] (some x)) (hb : Below w.heap.size w w2) :
    RowsPost s w (.returned (.tuple #[.slice none 0 0, .agg #[.int .i64 x.1, .int .i64 x.2]])) w2 :=
  ⟨[], some x, _, .inr ⟨hs, acc ++ [], h.ok [] (some x) hr, rfl⟩, hb, rfl, rowsV_nil w2⟩
theorem RowsInv.done {s : ByteArray} {w wr w2 : World} {i : Nat} {acc : List Rw} {v : Value} (h : RowsInv s w wr i acc v) (hs : s.size ≤ 20000) (hi : s.size < i) (hb : Below w.heap.size w w2) (hv : RowsV w2 v acc) :
    RowsPost s w (.returned (.tuple #[v, .agg #[.int .i64 0, .int .i64 0]])) w2 :=
  ⟨acc, none, _, .inr ⟨hs, acc ++ [], h.ok [] none (.stop hi), by simp⟩, hb, rfl, hv⟩
theorem RowsInv.skip {s : ByteArray} {w wr w1 : World} {i t : Nat} {acc : List Rw} {v : Value} (h : RowsInv s w wr i acc v) (hl : LineAt s i t) (hs : t - i ≤ 1000) (hc : Cuts (s.extract i t) i 0 [] none) (hb : Below wr.heap.size wr w1) :
    RowsInv s w w1 (t + 1) acc v :=
  ⟨h.rows.later hb, h.bel.trans (hb.mono (by have := h.bel.size; simp at this; omega)), fun rs b r => h.ok rs b (.skip hl hs hc r)⟩

theorem new_row (w : World) (a : Int) (v : Value) (ty : TypeId) : ∀ j u, (flatR [(a, v)])[j]? = some u → (w.alloc (.cells #[.int .i64 a, v] ty)).cell? ((⟨w.heap.size, 0, none⟩ : Addr).add j) = some u := by
  intro j u hu
  rw [w_addr]
  match j, hu with
  | 0, hu => simp [flatR] at hu; subst hu; simp [go_sem]
  | 1, hu => simp [flatR] at hu; subst hu; simp [go_sem]
  | j + 2, hu => simp [flatR] at hu

theorem row_one (a : Int) (p : Option Addr) (n c : Nat) : ∀ u ∈ flatR [(a, .slice p n c)], u.oneCell' = true := by
  intro u hu
  simp only [flatR, List.mem_cons, List.not_mem_nil, or_false] at hu
  rcases hu with rfl | rfl
  · rfl
  · rfl

set_option maxRecDepth 100000 in
set_option maxHeartbeats 4000000 in
theorem rrows_any (s : ByteArray) (w : World) (hs : s.size ≤ 1000000) : Calls Tryd.prog 11 #[.string s] w (RowsPost s w) := by
  obtain ⟨i0, hi0, hz0, hz1, hz2⟩ := info_parts info_row
  obtain ⟨ii, o0, o1, o2, o3⟩ := Cell2.made w 0 0 26
  by_cases hbig : 20000 < s.size
  · have hbig' : (20000 : Int) < s.size := by omega
    have hfin := Lib.hid (fun w2 (hb : Below w.heap.size w w2) => show RowsPost s w (.returned (.tuple #[.slice none 0 0, .agg #[.int .i64 4, .int .i64 20000]])) w2 from ⟨[], some (4, 20000), _, .inl ⟨hbig, rfl, rfl⟩, hb, rfl, rowsV_nil w2⟩)
    go_enter Tryd.func11, Tryd.ntmps11
    go_wp2_with fail
    refine bodyPost_ret (v := .tuple #[.slice none 0 0, .agg #[.int .i64 4, .int .i64 20000]]) (by simp [results, Tryd.results11, go_sem]) rfl (hfin.out _ ?_)
    exact w_alloc (w_refl w) _
  · have hbig' : ¬ (20000 : Int) < s.size := by omega
    go_enter Tryd.func11, Tryd.ntmps11
    go_wp2_with fail
    go_loopw [4, 5] (fun v x wr => ∃ (i : Nat) (acc : List Rw), i ≤ s.size + 1 ∧ acc.length ≤ i ∧ x = .int .i64 i ∧ Hid (RowsInv s w wr i acc v)) (fun _ x _ => s.size + 1 - (intOf x).toNat)
    case atStart => exact ⟨0, [], by omega, by simp, rfl, Lib.hid ⟨rowsI_nil _ _, Below.refl _ _, fun rs b r => r⟩⟩
    case round =>
      obtain ⟨i, acc, hi, hacc, rfl, hinv⟩ := hrel
      by_cases hle : i ≤ s.size
      · clear o0 o1 o2 o3 ii
        go_wp2_with fail
        go_loop [6] (fun y => ∃ t : Nat, i ≤ t ∧ t ≤ s.size ∧ y = .int .i64 t ∧ Hid (∀ m, i ≤ m → m < t → bt s m ≠ 10)) (fun y => s.size - (intOf y).toNat)
        case atStart => exact ⟨i, by omega, by omega, rfl, Lib.hid (fun m a b => by omega)⟩
        case round =>
          obtain ⟨t, hit, ht, rfl, hall⟩ := hrel
          by_cases hgo : ∃ h : t < s.size, (s[t].toNat : Int) ≠ 10
          · obtain ⟨hlt, hne⟩ := hgo
            have hne' : ((s[t].toNat : Int) != 10) = true := by simpa using hne
            have hnew := Lib.hid (show ∀ m, i ≤ m → m < t + 1 → bt s m ≠ 10 by
              intro m a b
              by_cases hm : m = t
              · rw [hm, bt_in hlt]; exact hne
              · exact hall.out m a (by omega))
            clear hall hne
            go_wp2_with fail
            go_round
            case rel => exact ⟨t + 1, by omega, by omega, by go_num, hnew⟩
            case measure => simp [intOf]; omega
          · have hline := Lib.hid (show LineAt s i t from ⟨hit, ht, hall.out, by
              by_cases hlt : t < s.size
              · right; rw [bt_in hlt]; exact Classical.byContradiction fun x => hgo ⟨hlt, x⟩
              · left; omega⟩)
            have part : (¬ t < s.size) ∨ ∃ h : t < s.size, ((s[t].toNat : Int) != 10) = false := by
              by_cases hlt : t < s.size
              · right
                exact ⟨hlt, by
                  have : (s[t].toNat : Int) = 10 := Classical.byContradiction fun x => hgo ⟨hlt, x⟩
                  simpa using this⟩
              · exact .inl hlt
            clear hgo hall
            have hex : (s.extract i t).size = t - i := by rw [ByteArray.size_extract]; omega
            rcases part with hlt | ⟨hlt, hnl⟩
            all_goals
              by_cases hlong : 1000 < t - i
              · have hlong' : (1000 : Int) < (t : Int) - i := by omega
                have hfin := Lib.hid (fun w2 hb => hinv.out.bad (w2 := w2) (by omega) (.long hline.out hlong) hb)
                have F := Lib.hid hinv.out.fault
                have hall2 := Lib.hid hinv.out.all
                obtain ⟨_, o0, o1, o2, o3⟩ := F.out
                clear hinv hex
                go_wp2_with fail
                refine bodyPost_ret (v := .tuple #[.slice none 0 0, .agg #[.int .i64 4, .int .i64 i]]) (by simp [results, Tryd.results11, go_sem, o0, o1]) rfl (hfin.out _ ?_)
                exact w_set (w_set hall2.out (by simp) _) (by simp) _
              · have hlong' : ¬ (1000 : Int) < (t : Int) - i := by omega
                have CUT := Lib.hid (fun W => rcut_any (s.extract i t) i W (by omega) (by omega) (by omega))
                go_wp2_with fail
                refine (CUT.out _).mono ?_
                rintro e w1 ⟨ws, b, hc, hlen, hb1, hm⟩
                cases b with
                | some j =>
                  obtain ⟨rfl, hj⟩ := hm
                  have hfin := Lib.hid (fun w2 hb => hinv.out.bad (w2 := w2) (by omega) (.bad hline.out (by omega) hc) hb)
                  have F := Lib.hid (hinv.out.fault.below hb1 hinv.out.fault.inb)
                  have hall2 := Lib.hid (w_below hinv.out.all hb1)
                  have hj0 : (0 : Int) ≤ j := by omega
                  obtain ⟨_, o0, o1, o2, o3⟩ := F.out
                  clear hinv hc hb1 CUT
                  go_wp2_with fail
                  refine bodyPost_ret (v := .tuple #[.slice none 0 0, .agg #[.int .i64 3, .int .i64 ((i : Int) + j)]]) (by simp [results, Tryd.results11, go_sem, o0, o1]) rfl (hfin.out _ ?_)
                  exact w_set (w_set hall2.out (by simp) _) (by simp) _
                | none =>
                  obtain ⟨vw, rfl, how⟩ := hm
                  obtain ⟨pw, cw, rfl, hsw⟩ := slice_of_own how
                  by_cases hws : ws = []
                  · subst hws
                    have hnew := Lib.hid (hinv.out.skip hline.out (by omega) hc hb1)
                    clear hinv how hsw hc hb1 CUT
                    go_wp2_with fail
                    go_roundw
                    case rel => exact ⟨t + 1, acc, by omega, by omega, by go_num, hnew⟩
                    case measure => simp [intOf]; omega
                  · have hw0 : 0 < ws.length := List.length_pos_iff.2 hws
                    have hw0' : (0 : Int) < ws.length := by omega
                    obtain ⟨vs, ho, ha⟩ := hinv.out.rows
                    have hne : 0 < ws.length → Value.ownBlock (.slice pw ws.length cw) ≠ Value.ownBlock u4 := fun _ e => by
                      obtain ⟨b1, e1, _⟩ := (show WordsV w1 (.slice pw ws.length cw) ws from ⟨pw, cw, rfl, hsw⟩).block hw0
                      have h1 := how.lt b1 e1
                      have h2 := ho.lt b1 (by rw [← e, e1])
                      omega
                    have hown := Lib.hid ((w_own ho hb1 (Nat.le_refl _)).alloc (.cells #[.int .i64 i, .slice pw ws.length cw] 44))
                    have hbl : Below wr.heap.size wr (w1.alloc (.cells #[.int .i64 i, .slice pw ws.length cw] 44)) := w_alloc hb1 _
                    have hal := ha.later hbl
                    have hwv : WordsV (w1.alloc (.cells #[.int .i64 i, .slice pw ws.length cw] 44)) (.slice pw ws.length cw) ws := (show WordsV w1 (.slice pw ws.length cw) ws from ⟨pw, cw, rfl, hsw⟩).later (w_alloc (w_refl w1) _)
                    have hbel : Below (w.heap.size + 1) (w.alloc (.cells #[.int .i64 0, .int .i64 0] 26)) (w1.alloc (.cells #[.int .i64 i, .slice pw ws.length cw] 44)) := hinv.out.bel.trans (hbl.mono (by have := hinv.out.fault.inb; omega))
                    have hsz := Lib.hid (show w.heap.size + 1 ≤ (w1.alloc (.cells #[.int .i64 i, .slice pw ws.length cw] 44)).heap.size by have := hbl.size; have := hinv.out.fault.inb; omega)
                    have step := Lib.hid (fun v' w3 h1 h2 h3 => show RowsInv s w w3 (t + 1) (acc ++ [⟨i, ws⟩]) v' from
                      ⟨RowsI.more (w2 := w1.alloc (.cells #[.int .i64 i, .slice pw ws.length cw] 44)) (w3 := w3) (v := u4) (v' := v') (vs := vs) (a := i) hal hwv hne h1 h2 h3,
                       hbel.grown h2 hsz.out (fun g hg => (ho.lt g hg).1), fun rs b r => by rw [List.append_assoc]; exact hinv.out.ok _ b (.row hline.out (by omega) hc hws r)⟩)
                    clear hinv how hsw hc hb1 CUT ho ha hne hbl hal hwv hbel
                    go_wp2_with (at_builtin; refine wpList_append_own_at _ rfl _ _ 23 rfl (w.heap.size + 1) 44 i0 (.agg #[.int .i64 0, .slice none 0 0]) 2 32 Tryd.underlying23 hi0 hz0 hz1 hz2 rfl (by decide) _ acc.length (flatR vs) rfl hown.out ⟨w1.heap.size, 0, none⟩ 1 1 (flatR [((i : Int), .slice pw ws.length cw)]) rfl rfl (new_row _ _ _ _) (row_one _ _ _ _) (by unfold maxLen; omega) (by omega) hsz.out ?_)
                    intro v' w3 hown2 hgrow _ hat
                    have hnew := Lib.hid (step.out v' w3 hown2 hgrow (by simpa using hat))
                    clear hown hown2 hgrow hsz step hat
                    go_wp2_with fail
                    go_roundw
                    case rel => exact ⟨t + 1, _, by omega, by rw [List.length_append]; simp; omega, by go_num, hnew⟩
                    case measure => simp [intOf]; omega
      · have hfin := Lib.hid (fun w2 hb hv => hinv.out.done (w2 := w2) (by omega) (by omega) hb hv)
        have hall2 := Lib.hid hinv.out.all
        have F := Lib.hid hinv.out.fault
        clear o0 o1 o2 o3
        obtain ⟨_, o0, o1, o2, o3⟩ := F.out
        have hv := Lib.hid hinv.out.rows.val
        clear hinv
        go_wp2_with fail
        refine bodyPost_ret (v := .tuple #[_, .agg #[.int .i64 0, .int .i64 0]]) (by simp [results, Tryd.results11, go_sem, o0, o1]) rfl (hfin.out _ ?_ ?_)
        · exact w_set (w_set hall2.out (by simp) _) (by simp) _
        · exact hv.out.keeps (F.out.keeps)

end Go.Proofs.YtdjkgnganbeonaaDoor
