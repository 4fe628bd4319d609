/- The law's own own: a copy of rows in new memory. -/
import Derived.Test.YtdjkgnganbeonaaDoorSame
import Derived.Deep.AppendLies
import Derived.Deep.RegionLaw
namespace Go.Proofs.YtdjkgnganbeonaaDoor
open Go.RowKit

theorem own_empty (w : World) (B : Nat) (hB : B ≤ w.heap.size) : (w.alloc (.cells #[] 53)).ownsRow B 53 3 (.slice (some ⟨w.heap.size, 0, none⟩) 0 0) 0 [] :=
  ⟨rfl, .inr ⟨w.heap.size, 0, #[], rfl, hB, heap_alloc_new w _, Nat.le_refl _, by decide, rfl, rfl⟩⟩

/-- Words behind an empty list of the call's own: at a step of a region. -/
theorem step_copy_words {ops : Array Oper} {o : Oper} {a : Act} {w : World} {K : Act → World → Prop} {Q : Exit → Act → World → Prop} {E : Prop} (hgd : o.guard = none) (s x : Operand)
    (ho : o.op = .call { callee := .builtin .append, args := #[s, x], argTypes := #[42, 42] })
    (base : Nat) (g : Nat) (hs : a.eval s = .slice (some ⟨g, 0, none⟩) 0 0) (hown : w.ownsRow base 53 3 (.slice (some ⟨g, 0, none⟩) 0 0) 0 [])
    (p : Option Addr) (c n : Nat) (ws : List Wd) (hn : ws.length = n) (hx : a.eval x = .slice p n c) (hP : SliceP w p c n 3 (flatW ws)) (h1 : n ≤ 100000) (hbase : base ≤ w.heap.size)
    (h : ∀ g' c' w', w'.ownsRow base 53 3 (.slice (some ⟨g', 0, none⟩) n c') n (flatW ws) → Below base w w' → K (a.put o.dst (.slice (some ⟨g', 0, none⟩) n c')) w') :
    if Region.wanted o (yielded ops a.tmps) = true then Oper.wp Tryd.prog o a w K Q else E := by
  subst hn
  have hw : Region.wanted o (yielded ops a.tmps) = true := by simp [Region.wanted, hgd]
  rw [if_pos hw]
  obtain ⟨i0, hi0, hz0, hz1, hz2⟩ := info_parts info_word
  have each : ∀ (ad : Addr), p = some ad → (∀ j u, (flatW ws)[j]? = some u → w.cell? (ad.add j) = some u) → o.wp Tryd.prog a w K Q := by
    intro ad had hc
    subst had
    refine wp_append_own w s x 42 ho base 53 i0 (.agg #[.int .i64 0, .string ⟨#[]⟩, .bool false]) 3 32 Tryd.underlying42 hi0 hz0 hz1 hz2 rfl (by decide) _ 0 [] hs hown ad ws.length c (flatW ws) hx (flatW_len ws) hc (flatW_one ws) (by unfold maxLen; omega) (by omega) hbase ?_
    intro v' w' hown' hgrow hnil
    have hb : Below base w w' := (Below.refl base w).grown hgrow hbase (fun g hg => (hown.lt g hg).1)
    rw [Nat.zero_add, List.nil_append] at hown'
    rcases hown'.2 with ⟨rfl, _⟩ | ⟨g', c', cur, rfl, _⟩
    · exact absurd (hnil.1 rfl).1 (by simp)
    · exact h g' c' w' hown' hb
  by_cases h0 : 0 < ws.length
  · obtain ⟨b, off, e, _, ht⟩ := hP.at_ h0
    exact each _ e (fun j u hu => by rw [w_addr]; exact ht j u hu)
  · obtain rfl : ws = [] := List.length_eq_zero_iff.1 (by omega)
    cases p with
    | none =>
      obtain rfl := hP.nil rfl
      have hr := run_append_owned_none (P := Tryd.prog) w base 42 o.type 53 i0 3 Tryd.underlying42 hi0 _ 0 [] hown
      have hx' : a.eval x = .slice none 0 0 := hx
      unfold Oper.wp execOp
      simp only [ho, resolve, invoke, builtin, Sem.run_bind, Sem.run_pure, Result.andThen_ok, List.map_toArray, List.map_cons, List.map_nil, hs, hx', hr]
      exact h g 0 w hown (Below.refl _ _)
    | some ad => exact each ad rfl (fun j u hu => by simp [flatW] at hu)

theorem take_getR {rs : List Rw} {k : Nat} (h : k < rs.length) : rs.take (k + 1) = rs.take k ++ [rs.getD k noRw] := by
  rw [List.take_succ_eq_append_getElem h, List.getD, List.getElem?_eq_getElem h]; rfl

set_option maxRecDepth 100000 in
set_option maxHeartbeats 4000000 in
theorem own_any (v : Value) (rs : List Rw) (w : World) (hv : RowsV w v rs) (hm : Modest rs) :
    Calls Tryd.prog 14 #[v] w fun e w' => ∃ v', e = .returned v' ∧ RowsI w' w.heap.size v' rs ∧ Below w.heap.size w w' := by
  have HV := Lib.hid hv
  obtain ⟨p, cap, rfl, f1, f2⟩ := rows_nil hv
  obtain ⟨hm1, hm2⟩ := hm
  have HM := Lib.hid hm2
  obtain ⟨i0, hi0, hz0, hz1, hz2⟩ := info_parts info_row
  clear hv hm2
  go_enter Tryd.func14, Tryd.ntmps14
  go_wp2_with fail
  go_loopw [3, 4] (fun u i wr => ∃ k : Nat, k ≤ rs.length ∧ i = .int .i64 k ∧ Hid (RowsI wr w.heap.size u (rs.take k)) ∧ Hid (Below w.heap.size w wr)) (fun _ i _ => rs.length - (intOf i).toNat)
  case atStart => exact ⟨0, by omega, rfl, Lib.hid (by simpa using rowsI_nil w w.heap.size), Lib.hid (w_refl w)⟩
  case round =>
    obtain ⟨k, hk, rfl, hrow, hb⟩ := hrel
    by_cases hlt : k < rs.length
    · obtain ⟨b, off, cap2, q, c, hveq, hbl, _, _, c0, c1, hw⟩ := rows_at (HV.out.later hb.out) k hlt
      simp only [Value.slice.injEq] at hveq
      obtain ⟨rfl, _, rfl⟩ := hveq
      have hsz := (HM.out _ (getR_mem hlt)).1
      have htk := Lib.hid (take_getR hlt)
      generalize rs.getD k noRw = r at *
      obtain ⟨ra, ws⟩ := r
      simp only at c0 c1 hw hsz
      obtain ⟨_, _, hu, hs⟩ := hw
      simp only [Value.slice.injEq] at hu
      obtain ⟨rfl, _, rfl⟩ := hu
      have g1 := hs.fit
      have g2 := hs.max
      have HS := Lib.hid hs
      obtain ⟨vs, hor, har⟩ := hrow.out
      have hkl : (rs.take k).length = k := by rw [List.length_take]; omega
      rw [hkl] at hor
      have HO := Lib.hid hor
      have hul := Lib.hid hor.lt
      have hbs := Lib.hid hb.out.size
      have C0 := Lib.hid (fun W (h : Below wr.heap.size wr W) => show W.cell? ⟨b, off + k * 2, none⟩ = some (.int .i64 ra) from (h.cell (p := ⟨b, off + k * 2, none⟩) hbl).trans c0)
      have C1 := Lib.hid (fun W (h : Below wr.heap.size wr W) => show W.cell? ⟨b, off + k * 2 + 1, none⟩ = some (.slice q ws.length c) from (h.cell (p := ⟨b, off + k * 2 + 1, none⟩) hbl).trans c1)
      have STEP := Lib.hid (fun (w2 : World) (g' c' : Nat) (hb2 : Below wr.heap.size wr w2) (ho2 : w2.ownsRow wr.heap.size 53 3 (.slice (some ⟨g', 0, none⟩) ws.length c') ws.length (flatW ws)) (v' : Value) (w4 : World)
          (ho4 : w4.ownsRow w.heap.size 44 2 v' (k + 1) (flatR vs ++ flatR [(ra, .slice (some ⟨g', 0, none⟩) ws.length c')])) (hg4 : (w2.alloc (.cells #[.int .i64 ra, .slice (some ⟨g', 0, none⟩) ws.length c'] 44)).grownBy w4 u3.ownBlock)
          (hat : u3.ownBlock = v'.ownBlock ∨ v'.ownBlock = some (w2.alloc (.cells #[.int .i64 ra, .slice (some ⟨g', 0, none⟩) ws.length c'] 44)).heap.size) =>
        show RowsI w4 w.heap.size v' (rs.take (k + 1)) ∧ Below w.heap.size w w4 from by
          have hb3 : Below wr.heap.size wr (w2.alloc (.cells #[.int .i64 ra, .slice (some ⟨g', 0, none⟩) ws.length c'] 44)) := w_alloc hb2 _
          obtain ⟨p2, cap2, e2, hs2⟩ := slice_of_own ho2
          have hw2 : WordsV w2 (.slice (some ⟨g', 0, none⟩) ws.length c') ws := ⟨p2, cap2, e2, hs2⟩
          have hgB := (ho2.lt g' rfl).1
          rw [htk.out]
          refine ⟨RowsI.more (har.later hb3) (hw2.later (w_alloc (w_refl w2) _)) (fun _ e => ?_) (by rw [hkl]; exact ho4) hg4 (hat.imp Eq.symm id), ?_⟩
          · have := hul.out g' e.symm
            omega
          · exact (w_below hb.out hb3).grown hg4 (by have := hbs.out; have := hb3.size; omega) (fun g hg => (hul.out g hg).1))
      clear hs hor har hrow htk hkl c0 c1
      have c0 := C0.out _ (w_refl wr)
      have c1 := C1.out _ (w_refl wr)
      have hBr : b < wr.heap.size := hbl
      go_wp2_with fail
      go_region_law (first
          | (refine step_copy_words rfl (.tmp 17) (.tmp 22) rfl wr.heap.size wr.heap.size (by rfl) (own_empty wr.drew wr.heap.size (Nat.le_refl _)) q c ws.length ws rfl (by rfl) (HS.out.later (w_alloc (w_refl wr).drew _)) (by omega) (w_alloc (w_refl wr).drew _).size ?_; intro g' c' wx hox hbx1; have hbx := (w_alloc (w_refl wr).drew (.cells #[] 53)).trans hbx1; have c0x := C0.out _ hbx; have c1x := C1.out _ hbx)
          | (refine step_append_lies _ rfl (.tmp 11) (.tmp 25) 23 rfl w.heap.size 44 i0 (.agg #[.int .i64 0, .slice none 0 0]) 2 32 Tryd.underlying23 hi0 hz0 hz1 hz2 rfl (by decide) u3 k (flatR vs) (by rfl) (w_own HO.out (w_alloc hbx _) (Nat.le_refl _)) ⟨wx.heap.size, 0, none⟩ 1 1 (flatR [(ra, .slice (some ⟨g', 0, none⟩) ws.length c')]) (by rfl) rfl (new_row _ _ _ _) (row_one _ _ _ _) (by decide) (by unfold maxLen; omega) (by omega) (Nat.le_trans hbs.out (w_alloc hbx _).size) _ rfl ?_; intro g3 cap3 w4 hown4 hgrow4 hat4 hlt4))
      all_goals
        have ST := STEP.out wx g' c' hbx hox _ w4 hown4 hgrow4 (hat4.imp id (fun e => by rw [e]; rfl))
        have ST2 := Lib.hid ST
        clear ST
        go_wp2_with fail
        go_roundw
        case rel => exact ⟨k + 1, by omega, by go_num, Lib.hid ST2.out.1, Lib.hid ST2.out.2⟩
        case measure => simp [intOf]; omega
    · obtain rfl : k = rs.length := by omega
      have hfin := Lib.hid (show RowsI wr w.heap.size u3 rs by have := hrow.out; rwa [List.take_of_length_le (Nat.le_refl _)] at this)
      go_wp2_with fail
      go_ret
      exact ⟨_, rfl, hfin.out, hb.out⟩

end Go.Proofs.YtdjkgnganbeonaaDoor
