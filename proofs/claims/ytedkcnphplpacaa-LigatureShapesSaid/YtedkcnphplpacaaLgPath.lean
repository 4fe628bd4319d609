/- Places made of numbers. -/
import Derived.Test.YtedkcnphplpacaaLgDrawn
namespace Go.Proofs.Ytedkcnphplpacaa
open Go.RowKit

theorem gd_left {α : Type} (l m : List α) (d : α) {i : Nat} (h : i < l.length) : (l ++ m).getD i d = l.getD i d := by simp [List.getD, List.getElem?_append_left h]
theorem gd_right {α : Type} (l m : List α) (d : α) {i : Nat} (h : l.length ≤ i) : (l ++ m).getD i d = m.getD (i - l.length) d := by simp [List.getD, List.getElem?_append_right h]
def stepP (acc : List Int) (z : Int) : Int := if 0 < acc.length ∧ acc.getD (acc.length - 1) 0 = z % 9 then (z % 9 + 1) % 9 else z % 9
def pathR : List Int → List Int → List Int
  | acc, [] => acc
  | acc, z :: t => if acc.length < 8 then pathR (acc ++ [stepP acc z]) t else acc
def pathG (nums : List Int) : List Int := pathR [] nums
/-- Numbers from 0 to 8, no two successive ones the same, at most eight. -/
structure PaOk (l : List Int) : Prop where
  len : l.length ≤ 8
  bds : ∀ i, i < l.length → 0 ≤ l.getD i 0 ∧ l.getD i 0 ≤ 8
  dif : ∀ i, i + 1 < l.length → l.getD i 0 ≠ l.getD (i + 1) 0
theorem stepP_bds (acc : List Int) (z : Int) : 0 ≤ stepP acc z ∧ stepP acc z ≤ 8 := by
  unfold stepP; split <;> omega
theorem PaOk.snoc {acc : List Int} (h : PaOk acc) (z : Int) (hl : acc.length < 8) : PaOk (acc ++ [stepP acc z]) := by
  have hb := stepP_bds acc z
  refine ⟨by rw [List.length_append]; simp; omega, fun i hi => ?_, fun i hi => ?_⟩
  · rw [List.length_append] at hi
    simp only [List.length_cons, List.length_nil] at hi
    by_cases e : i < acc.length
    · rw [gd_left _ _ _ e]; exact h.bds i e
    · obtain rfl : i = acc.length := by omega
      rw [gd_right _ _ _ (Nat.le_refl _), Nat.sub_self]
      exact hb
  · rw [List.length_append] at hi
    simp only [List.length_cons, List.length_nil] at hi
    by_cases e : i + 1 < acc.length
    · rw [gd_left _ _ _ e, gd_left _ _ _ (by omega)]; exact h.dif i e
    · obtain ei : i + 1 = acc.length := by omega
      rw [gd_left _ _ _ (by omega), gd_right _ _ _ (by omega), ei, Nat.sub_self]
      show _ ≠ stepP acc z
      unfold stepP
      have e1 : acc.length - 1 = i := by omega
      rw [e1]
      split
      · rename_i g; rw [g.2]; omega
      · rename_i g
        intro e2
        exact g ⟨by omega, e2⟩
theorem PaOk.nil : PaOk [] := ⟨by simp, fun i hi => by simp at hi, fun i hi => by simp at hi⟩
theorem pathR_ok : ∀ (t acc : List Int), PaOk acc → PaOk (pathR acc t)
  | [], _, h => h
  | z :: t, acc, h => by
    unfold pathR
    split
    · rename_i hl; exact pathR_ok t _ (h.snoc z hl)
    · exact h
theorem pathG_ok (nums : List Int) : PaOk (pathG nums) := pathR_ok nums [] PaOk.nil
theorem pathR_cons {nums acc : List Int} {k : Nat} (hk : k < nums.length) (hl : acc.length < 8) : pathR acc (nums.drop k) = pathR (acc ++ [stepP acc (nums.getD k 0)]) (nums.drop (k + 1)) := by
  rw [List.drop_eq_getElem_cons hk]
  show (if acc.length < 8 then _ else _) = _
  rw [if_pos hl]
  simp [List.getElem?_eq_getElem hk]
theorem pathR_full {acc t : List Int} (hl : ¬ acc.length < 8) : pathR acc t = acc := by
  cases t with
  | nil => rfl
  | cons z t => exact if_neg hl

set_option maxRecDepth 100000 in
set_option maxHeartbeats 2000000 in
theorem path_any (nums : List Int) (hz : ∀ z ∈ nums, -9223372036854775808 ≤ z ∧ z ≤ 9223372036854775807) (p : Option Addr) (cp : Nat) (w : World) (hp : SlP w 1 p nums.length cp (ints nums)) :
    Calls Try.prog 34 #[.slice p nums.length cp] w fun e w' => ∃ v, e = .returned v ∧ OwnL w w' 3 1 v (pathG nums).length (ints (pathG nums)) := by
  obtain ⟨i0, hi0, hz0, hz1, hz2⟩ := info_parts info_int
  have f1 := hp.fit
  have f2 := hp.max
  have HP := Lib.hid hp
  have HZ := Lib.hid (show ∀ k, k < nums.length → -9223372036854775808 ≤ nums.getD k 0 ∧ nums.getD k 0 ≤ 9223372036854775807 from fun k hk => by
    have : nums.getD k 0 = nums[k] := by simp [List.getElem?_eq_getElem hk]
    rw [this]; exact hz _ (List.getElem_mem hk))
  have H0 : pathR [] (nums.drop 0) = pathG nums := rfl
  clear hp hz
  generalize pathG nums = R at *
  go_enter Try.func34, Try.ntmps34
  go_wp2_with fail
  go_loopw [3, 4] (fun v i wr => ∃ (k : Nat) (acc : List Int), k ≤ nums.length ∧ i = .int .i64 k ∧ (∃ q c, v = .slice q acc.length c) ∧ Hid (OwnL w wr 3 1 v acc.length (ints acc)) ∧ Hid (pathR acc (nums.drop k) = R) ∧ Hid (PaOk acc)) (fun _ i _ => nums.length - (intOf i).toNat)
  case atStart => exact ⟨0, [], by omega, rfl, ⟨none, 0, rfl⟩, Lib.hid (OwnL.start _ _ _), Lib.hid H0, Lib.hid PaOk.nil⟩
  case round =>
    rename World => wr
    clear H0
    obtain ⟨k, acc, hk, rfl, ⟨q, c, rfl⟩, ho, HR, HB⟩ := hrel
    by_cases hlt : k < nums.length
    · have hlt' : (k : Int) < nums.length := by omega
      have hk0 : (0 : Int) ≤ k := by omega
      by_cases h8 : acc.length < 8
      · have h8' : (acc.length : Int) < 8 := by omega
        have HP2 := Lib.hid (show pathR (acc ++ [stepP acc (nums.getD k 0)]) (nums.drop (k + 1)) = R from (pathR_cons hlt h8).symm.trans HR.out)
        have HB2 := Lib.hid (HB.out.snoc (nums.getD k 0) h8)
        have hzb := HZ.out k hlt
        obtain ⟨b, off, rfl, _, _⟩ := HP.out.at_ (by omega)
        have c0 := int_at (HP.out.later ho.out.bel) hlt
        have MD := Lib.hid (fun W => mod_any (nums.getD k 0) 9 W hzb.1 hzb.2 (by decide) (by decide))
        have hst := show stepP acc (nums.getD k 0) = if 0 < acc.length ∧ acc.getD (acc.length - 1) 0 = nums.getD k 0 % 9 then (nums.getD k 0 % 9 + 1) % 9 else nums.getD k 0 % 9 from rfl
        have m0 : 0 ≤ nums.getD k 0 % 9 := by omega
        have m1 : nums.getD k 0 % 9 ≤ 8 := by omega
        have hlen8 := h8
        generalize stepP acc (nums.getD k 0) = X at *
        generalize nums.getD k 0 % 9 = x at *
        generalize nums.getD k 0 = z at *
        clear HR HB HZ hzb h8
        by_cases h0 : 0 < acc.length
        · have h0' : (0 : Int) < acc.length := by omega
          obtain ⟨j, hj⟩ : ∃ j, acc.length = j + 1 := ⟨acc.length - 1, by omega⟩
          obtain ⟨g, rfl, _, _⟩ := own_some ho.out.row h0
          have d0 : wr.cell? ⟨g, j, none⟩ = some (.int .i64 (acc.getD j 0)) := by
            have := ho.out.row.cellAt j (by omega)
            rw [this, List.getElem?_map, List.getElem?_eq_getElem (show j < acc.length by omega)]
            simp [List.getElem?_eq_getElem (show j < acc.length by omega)]
          have x1 : IntKind.i64.wrap ((acc.length : Int) - 1) = (j : Int) := by rw [IntWalk.i64_in _ (by omega)]; omega
          have hj0 : (0 : Int) ≤ (j : Int) := by omega
          have hj1 : (j : Int) < acc.length := by omega
          rw [show acc.length - 1 = j by omega] at hst
          clear hj
          by_cases heq : acc.getD j 0 = x
          · rw [if_pos ⟨h0, heq⟩] at hst
            rw [heq] at d0
            have HO := Lib.hid (ho.out.later (w_alloc (w_refl wr) (.cells #[.int .i64 X] 3)))
            have x2 : IntKind.i64.wrap (x + 1) = x + 1 := IntWalk.i64_in _ (by omega)
            have x3 : 0 ≤ x + 1 := by omega
            have x4 : Int.tmod (x + 1) 9 = X := by rw [hst, Int.tmod_eq_emod_of_nonneg x3]
            clear hst heq h0
            go_wp2_with fail
            refine (MD.out _).mono ?_
            rintro e w2 ⟨rfl, rfl⟩
            clear MD
            go_wp2_with (at_builtin; refine wpList_append_own_at _ rfl _ _ 22 rfl w.heap.size 3 i0 (.int .i64 0) 1 8 Try.underlying22 hi0 hz0 hz1 hz2 rfl (by decide) _ acc.length (ints acc) rfl HO.out.row ⟨wr.heap.size, 0, none⟩ 1 1 (ints [X]) rfl rfl (lit_new _ _ _) (ints_one _) (by unfold maxLen; omega) (by omega) HO.out.bel.size ?_)
            intro v' w3 hown hgrow _ _
            have HN := Lib.hid (show OwnL w w3 3 1 v' (acc.length + 1) (ints (acc ++ [X])) by
              rw [show ints (acc ++ [X]) = ints acc ++ ints [X] from List.map_append ..]
              exact ho.out.app (w_alloc (w_refl wr) _) hown hgrow)
            obtain ⟨x2, c2, hv⟩ := HN.out.val
            subst hv
            clear hown hgrow HO ho
            go_wp2_with fail
            go_roundw
            case rel => exact ⟨k + 1, acc ++ [X], by omega, by go_num, ⟨x2, c2, by simp⟩, Lib.hid (by rw [List.length_append]; exact HN.out), HP2, HB2⟩
            case measure => simp [intOf]; omega
          · rw [if_neg (fun g => heq g.2)] at hst
            have hne : (acc.getD j 0 == x) = false := beq_eq_false_iff_ne.2 heq
            have HO := Lib.hid (ho.out.later (w_alloc (w_refl wr) (.cells #[.int .i64 X] 3)))
            subst hst
            generalize acc.getD j 0 = y at *
            clear heq h0
            go_wp2_with fail
            refine (MD.out _).mono ?_
            rintro e w2 ⟨rfl, rfl⟩
            clear MD
            go_wp2_with (at_builtin; refine wpList_append_own_at _ rfl _ _ 22 rfl w.heap.size 3 i0 (.int .i64 0) 1 8 Try.underlying22 hi0 hz0 hz1 hz2 rfl (by decide) _ acc.length (ints acc) rfl HO.out.row ⟨wr.heap.size, 0, none⟩ 1 1 (ints [X]) rfl rfl (lit_new _ _ _) (ints_one _) (by unfold maxLen; omega) (by omega) HO.out.bel.size ?_)
            intro v' w3 hown hgrow _ _
            have HN := Lib.hid (show OwnL w w3 3 1 v' (acc.length + 1) (ints (acc ++ [X])) by
              rw [show ints (acc ++ [X]) = ints acc ++ ints [X] from List.map_append ..]
              exact ho.out.app (w_alloc (w_refl wr) _) hown hgrow)
            obtain ⟨x2, c2, hv⟩ := HN.out.val
            subst hv
            clear hown hgrow HO ho
            go_wp2_with fail
            go_roundw
            case rel => exact ⟨k + 1, acc ++ [X], by omega, by go_num, ⟨x2, c2, by simp⟩, Lib.hid (by rw [List.length_append]; exact HN.out), HP2, HB2⟩
            case measure => simp [intOf]; omega
        · have h0' : ¬ (0 : Int) < acc.length := by omega
          rw [if_neg (fun g => h0 g.1)] at hst
          have HO := Lib.hid (ho.out.later (w_alloc (w_refl wr) (.cells #[.int .i64 X] 3)))
          subst hst
          clear h0
          go_wp2_with fail
          refine (MD.out _).mono ?_
          rintro e w2 ⟨rfl, rfl⟩
          clear MD
          go_wp2_with (at_builtin; refine wpList_append_own_at _ rfl _ _ 22 rfl w.heap.size 3 i0 (.int .i64 0) 1 8 Try.underlying22 hi0 hz0 hz1 hz2 rfl (by decide) _ acc.length (ints acc) rfl HO.out.row ⟨wr.heap.size, 0, none⟩ 1 1 (ints [X]) rfl rfl (lit_new _ _ _) (ints_one _) (by unfold maxLen; omega) (by omega) HO.out.bel.size ?_)
          intro v' w3 hown hgrow _ _
          have HN := Lib.hid (show OwnL w w3 3 1 v' (acc.length + 1) (ints (acc ++ [X])) by
            rw [show ints (acc ++ [X]) = ints acc ++ ints [X] from List.map_append ..]
            exact ho.out.app (w_alloc (w_refl wr) _) hown hgrow)
          obtain ⟨x2, c2, hv⟩ := HN.out.val
          subst hv
          clear hown hgrow HO ho
          go_wp2_with fail
          go_roundw
          case rel => exact ⟨k + 1, acc ++ [X], by omega, by go_num, ⟨x2, c2, by simp⟩, Lib.hid (by rw [List.length_append]; exact HN.out), HP2, HB2⟩
          case measure => simp [intOf]; omega
      · have h8' : ¬ (acc.length : Int) < 8 := by omega
        have e := HR.out
        rw [pathR_full h8] at e
        subst e
        clear HR HB HZ h8
        go_wp2_with fail
        go_ret
        exact ⟨_, rfl, ho.out⟩
    · obtain rfl : k = nums.length := by omega
      have hlt' : ¬ ((nums.length : Int) < nums.length) := by omega
      have e := HR.out
      rw [List.drop_length] at e
      have e2 : acc = R := e
      subst e2
      clear HR HB HZ e
      go_wp2_with fail
      go_ret
      exact ⟨_, rfl, ho.out⟩

end Go.Proofs.Ytedkcnphplpacaa
