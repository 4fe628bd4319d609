/- Runs made of numbers: what they are, that they are valid under every mensuration, and the walk of Made. -/
import Derived.Test.YthokapebcplmkaaDKit
import Derived.Test.YthokapebcplmkaaDSort
import Derived.Test.YthokapebcplmkaaDClos
import Derived.Test.YthokapebcplmkaaDMea
namespace Go.Proofs.Ythokapebcplmkaa
open Go.RowKit

def mdS (k : Int) : Sg := if k % 5 = 4 then rS (2 + k % 4) else ⟨1, 2 + k % 4, 0, 0, decide (k % 7 = 3), 0, false, false, 0, 0, 0, 0, false, 0, 0, 0, 0⟩
def mdD (k : Int) : List Sg := if 40 ≤ k ∧ ¬ k % 5 = 4 then [pS] else []
def mdP (nums : List Int) : Nat → List Sg
  | 0 => []
  | i + 1 => (mdP nums i ++ [mdS (nums.getD i 0 % 60)]) ++ mdD (nums.getD i 0 % 60)
def madeD (nums : List Int) : List Sg := mdP nums (min nums.length 20)
theorem mdP_len (nums : List Int) : ∀ i, (mdP nums i).length ≤ 2 * i
  | 0 => Nat.le_refl _
  | i + 1 => by
    have := mdP_len nums i
    unfold mdP mdD
    split <;> simp <;> omega
theorem made_len (nums : List Int) : (madeD nums).length ≤ 40 := by
  have := mdP_len nums (min nums.length 20)
  unfold madeD; omega
/-- All signs of a list are without error. -/
def VR (q : Q4) (l : List Sg) : Prop := ∀ j, j < l.length → errD q l j = 0
theorem bef_app (l m : List Sg) : ∀ j, j ≤ l.length → bef (l ++ m) j = bef l j
  | 0, _ => rfl
  | j + 1, h => by
    show nxt ((l ++ m).getD j zS) = nxt (l.getD j zS)
    rw [List.getD_eq_getElem?_getD, List.getD_eq_getElem?_getD, List.getElem?_append_left (by omega)]
theorem VR.app {q : Q4} {l : List Sg} {s : Sg} (h : VR q l) (hs : sgnE q (bef l l.length) s = 0) : VR q (l ++ [s]) := by
  intro j hj
  rw [List.length_append] at hj
  unfold errD
  rw [bef_app l [s] j (by simp at hj; omega)]
  by_cases c : j < l.length
  · have := h j c
    unfold errD at this
    rw [List.getD_eq_getElem?_getD, List.getElem?_append_left c, ← List.getD_eq_getElem?_getD]
    exact this
  · obtain rfl : j = l.length := by simp at hj; omega
    rw [List.getD_eq_getElem?_getD, List.getElem?_append_right (Nat.le_refl _), Nat.sub_self]
    exact hs
theorem bef_last (l : List Sg) (s : Sg) : bef (l ++ [s]) (l ++ [s]).length = nxt s := by
  rw [List.length_append]
  show nxt ((l ++ [s]).getD l.length zS) = nxt s
  rw [List.getD_eq_getElem?_getD, List.getElem?_append_right (Nat.le_refl _), Nat.sub_self]; rfl
theorem mdS_ok (q : Q4) (b : Sg) (k : Int) : sgnE q b (mdS k) = 0 := by
  have h1 : 0 ≤ k % 4 := Int.emod_nonneg _ (by decide)
  have h2 : k % 4 < 4 := Int.emod_lt_of_pos _ (by decide)
  unfold mdS
  split
  · unfold sgnE rS
    rw [if_pos (.inr rfl), if_pos ⟨by show (1 : Int) ≤ 2 + k % 4; omega, by show 2 + k % 4 ≤ (8 : Int); omega⟩]
  · unfold sgnE
    rw [if_pos (.inl rfl), if_pos ⟨by show (1 : Int) ≤ 2 + k % 4; omega, by show 2 + k % 4 ≤ (8 : Int); omega⟩]
theorem note_mns (q : Q4) (s : Sg) (h : s.kind = 1) : (mns q s).length ≠ 0 := by
  unfold mns
  rw [if_pos h]
  repeat' split
  all_goals simp
theorem mdP_ok (q : Q4) (nums : List Int) : ∀ i, VR q (mdP nums i)
  | 0 => fun j hj => by cases hj
  | i + 1 => by
    have ih := mdP_ok q nums i
    have h1 := ih.app (mdS_ok q (bef (mdP nums i) (mdP nums i).length) (nums.getD i 0 % 60))
    show VR q ((mdP nums i ++ [mdS (nums.getD i 0 % 60)]) ++ mdD (nums.getD i 0 % 60))
    generalize nums.getD i 0 % 60 = k at *
    unfold mdD
    by_cases c : 40 ≤ k ∧ ¬ k % 5 = 4
    · rw [if_pos c]
      refine h1.app ?_
      rw [bef_last]
      have hk : (mdS k).kind = 1 := by unfold mdS; rw [if_neg c.2]
      have hn : nxt (mdS k) = mdS k := if_neg (by rw [hk]; decide)
      rw [hn]
      show (if _ then _ else _) = _
      rw [if_neg (by decide), if_pos (show pS.kind = 3 from rfl), if_neg (note_mns q _ hk)]
    · rw [if_neg c, List.append_nil]; exact h1
theorem made_ok {q : Q4} (hq : okM q) (nums : List Int) : chkD q (madeD nums) = 0 := chkD_ok hq (mdP_ok q nums _)
/-- The rule's meaning is one of the meanings. -/
theorem rul_in (q : Q4) (s : Sg) (x : Option Int) (h : (mns q s).length ≠ 0) : rul q s x ∈ mns q s := by
  unfold rul
  by_cases c : (mns q s).length = 1
  · rw [if_pos c]
    obtain ⟨y, hy⟩ := List.length_eq_one_iff.1 c
    rw [hy]; simp
  · rw [if_neg c]
    unfold mns at h c ⊢
    by_cases hk : s.kind = 1
    · rw [if_pos hk] at h c ⊢
      by_cases hc : s.col = true
      · rw [if_pos hc] at c; exact absurd rfl c
      · rw [if_neg hc] at h c ⊢
        by_cases ha : aboV q s.val = 0
        · rw [if_pos ha] at c; exact absurd rfl c
        · rw [if_neg ha]
          by_cases h0 : ownM q s.val = 0
          · rw [if_pos h0]; split <;> simp [h0]
          · rw [if_neg h0]; split <;> simp
    · rw [if_neg hk] at h c
      by_cases ha : aboV q s.val = 0
      · rw [if_pos ha] at h; exact absurd rfl h
      · rw [if_neg ha] at c; exact absurd rfl c
theorem gd_l {α : Type} (l m : List α) (d : α) {i : Nat} (h : i < l.length) : (l ++ m).getD i d = l.getD i d := by
  rw [List.getD_eq_getElem?_getD, List.getElem?_append_left h, ← List.getD_eq_getElem?_getD]
theorem gd_r {α : Type} (l : List α) (x d : α) : (l ++ [x]).getD l.length d = x := by
  rw [List.getD_eq_getElem?_getD, List.getElem?_append_right (Nat.le_refl _), Nat.sub_self]; rfl
theorem ruP_in {q : Q4} {l : List Sg} (h : ∀ j, j < l.length → errD q l j = 0) : ∀ k, k ≤ l.length → ∀ i, i < (mnP q l k).length → (ruP q l k).getD i 0 ∈ (mnP q l k).getD i []
  | 0, _, i, hi => by cases hi
  | k + 1, hk, i, hi => by
    have ih := ruP_in h k (by omega)
    by_cases hd : (l.getD k zS).kind = 3
    · rw [mnP_dot hd] at hi ⊢
      rw [ruP_dot hd]
      rw [List.length_append] at hi
      have hl := ruP_len q l k
      by_cases c : i < (mnP q l k).length
      · rw [gd_l _ _ _ (show i < (ruP q l k).length by omega), gd_l _ _ _ c]
        exact ih i c
      · obtain rfl : i = (mnP q l k).length := by simp at hi; omega
        have e1 : (ruP q l k ++ [rul q (bef l k) (nextV l k)]).getD (mnP q l k).length 0 = rul q (bef l k) (nextV l k) := by rw [← hl]; exact gd_r _ _ _
        rw [e1, gd_r]
        obtain ⟨j, _, _, _, hb, hm, _⟩ := dot_prev h (by omega) hd
        exact rul_in _ _ _ (by rw [hb]; exact hm)
    · rw [mnP_not hd] at hi ⊢
      rw [ruP_not hd]
      exact ih i hi
theorem ruD_in {q : Q4} {l : List Sg} (h : chkD q l = 0) (i : Nat) (hi : i < (mnD q l).length) : (ruD q l).getD i 0 ∈ (mnD q l).getD i [] := by
  rw [mnD_ok h] at hi ⊢
  rw [ruD_ok h]
  exact ruP_in (chkD_zero h).2 _ (Nat.le_refl _) i hi
theorem ruD_len {q : Q4} {l : List Sg} (h : chkD q l = 0) : (ruD q l).length = (mnD q l).length := by rw [mnD_ok h, ruD_ok h, ruP_len]
/-- Two meanings ascend. -/
theorem mnP_asc (q : Q4) (l : List Sg) : ∀ k, ∀ z ∈ mnP q l k, ∀ x y, z = [x, y] → x < y
  | 0, z, hz, _, _, _ => by cases hz
  | k + 1, z, hz, x, y, e => by
    by_cases hd : (l.getD k zS).kind = 3
    · rw [mnP_dot hd, List.mem_append] at hz
      rcases hz with hz | hz
      · exact mnP_asc q l k z hz x y e
      · obtain rfl := List.mem_singleton.1 hz
        exact mns_two q _ x y e
    · rw [mnP_not hd] at hz
      exact mnP_asc q l k z hz x y e
theorem mnD_asc {q : Q4} {l : List Sg} : ∀ z ∈ mnD q l, ∀ x y, z = [x, y] → x < y := by
  intro z hz x y e
  unfold mnD at hz
  split at hz
  · exact mnP_asc q l _ z hz x y e
  · cases hz


theorem own_kept3 {A A' : World} {base : Nat} {e : TypeId} {k : Nat} {v : Value} {n b : Nat} {cs : List Value} (h : A.ownsRow base e k v n cs) (hne : some b ≠ v.ownBlock) (hg : A.grownBy A' (some b)) : A'.ownsRow base e k v n cs := by
  refine ⟨h.1, ?_⟩
  rcases h.2 with h2 | ⟨g, cap, cur, rfl, hb, hh, r⟩
  · exact .inl h2
  · exact .inr ⟨g, cap, cur, rfl, hb, (hg.block g (Array.getElem?_eq_some_iff.1 hh).1 (fun e => hne (by rw [← e]; rfl))).trans hh, r⟩
theorem run_lit1 (s : Sg) (w : World) : (Instr.buildSlice 24 1 #[(0, sgv s)]).run Try.prog w = .ok (.slice (some ⟨w.heap.size, 0, none⟩) 1 1) (w.alloc (litO [s])) := run_lit_sg s w

set_option maxRecDepth 100000 in
set_option maxHeartbeats 8000000 in
theorem made_any (nums : List Int) (hb : ∀ z ∈ nums, -9223372036854775808 ≤ z ∧ z ≤ 9223372036854775807) (p : Option Addr) (cap : Nat) (w : World) (h : SlP w 1 p nums.length cap (ints nums)) :
    Calls Try.prog 39 #[.slice p nums.length cap] w fun e w' => ∃ v, e = .returned v ∧ OwnL w w' 51 17 v (madeD nums).length (flatG (madeD nums)) := by
  obtain ⟨i0, hi0, hz0, hz1, hz2⟩ := info_parts info_sign
  have f1 := h.fit
  have f2 := h.max
  have HP := Lib.hid h
  have HBD := Lib.hid hb
  have MD := Lib.hid (fun a W (ha : -9223372036854775808 ≤ a ∧ a ≤ 9223372036854775807) => mod_any a 60 W ha.1 ha.2 (by decide) (by decide))
  have NT := Lib.hid (fun v W => lnote_any v W)
  have RT := Lib.hid (fun v W => lrest_any v W)
  have PT := Lib.hid (fun W => lpoint_any W)
  have HLN := Lib.hid (fun i => mdP_len nums i)
  have HEQ := Lib.hid (show madeD nums = mdP nums (min nums.length 20) from rfl)
  clear h hb
  go_enter Try.func39, Try.ntmps39
  go_wp2_with fail
  go_loopw [3, 4, 5, 6] (fun s3 s4 _ _ wr => ∃ i : Nat, i ≤ nums.length ∧ i ≤ 20 ∧ s4 = .int .i64 i ∧ (∃ q c, s3 = .slice q (mdP nums i).length c) ∧ Hid (OwnL w wr 51 17 s3 (mdP nums i).length (flatG (mdP nums i)))) (fun _ s4 _ _ _ => 20 - (intOf s4).toNat)
  case atStart => exact ⟨0, by omega, by omega, rfl, ⟨none, 0, rfl⟩, Lib.hid (OwnL.start _ _ _)⟩
  case round =>
    rename World => wr
    obtain ⟨i, hi1, hi2, rfl, ⟨q3, c3, rfl⟩, GV⟩ := hrel
    by_cases hlt : i < nums.length ∧ i < 20
    · obtain ⟨hlt, hlt2⟩ := hlt
      have hlt' : (i : Int) < nums.length := by omega
      have hlt2' : (i : Int) < 20 := by omega
      have hk0 : (0 : Int) ≤ i := by omega
      have hPr := HP.out.later GV.out.bel
      obtain ⟨b, off, rfl, -, -⟩ := hPr.at_ (by omega)
      have c0 := int_at hPr hlt
      have hE := Lib.hid (show mdP nums (i + 1) = (mdP nums i ++ [mdS (nums.getD i 0 % 60)]) ++ mdD (nums.getD i 0 % 60) from rfl)
      obtain ⟨x, hx⟩ : ∃ x, nums.getD i 0 = x := ⟨_, rfl⟩
      have hxb : -9223372036854775808 ≤ x ∧ x ≤ 9223372036854775807 := by
        rw [← hx, List.getD_eq_getElem?_getD, List.getElem?_eq_getElem hlt]
        exact HBD.out _ (List.getElem_mem hlt)
      have hln := HLN.out i
      rw [hx] at c0 hE
      have M1 := Lib.hid (fun W => MD.out x W hxb)
      have k0 : 0 ≤ x % 60 := Int.emod_nonneg _ (by decide)
      have k59 : x % 60 < 60 := Int.emod_lt_of_pos _ (by decide)
      clear hPr hx hxb MD HLN HEQ
      generalize x % 60 = k at *
      generalize mdP nums i = L at *
      have r4 : 0 ≤ k % 4 ∧ k % 4 < 4 := ⟨Int.emod_nonneg _ (by decide), Int.emod_lt_of_pos _ (by decide)⟩
      have r5 : 0 ≤ k % 5 ∧ k % 5 < 5 := ⟨Int.emod_nonneg _ (by decide), Int.emod_lt_of_pos _ (by decide)⟩
      have r7 : 0 ≤ k % 7 ∧ k % 7 < 7 := ⟨Int.emod_nonneg _ (by decide), Int.emod_lt_of_pos _ (by decide)⟩
      obtain ⟨r40, r41⟩ := r4
      obtain ⟨r50, r51⟩ := r5
      obtain ⟨r70, r71⟩ := r7
      go_wp2_with fail
      refine (M1.out _).mono ?_
      rintro e w1 ⟨rfl, rfl⟩
      clear M1 c0
      go_wp2_with fail
      refine (NT.out (2 + k % 4) _).mono ?_
      rintro e w1 ⟨rfl, hb⟩
      have H6 := Lib.hid (sg_new w1 (nS (2 + k % 4)))
      have hwr := GV.out.bel.size
      have hw1 := hb.size
      have GA := Lib.hid (GV.out.later (w_alloc hb (sgO (nS (2 + k % 4)))))
      have HNE := Lib.hid (show ∀ b, wr.heap.size ≤ b → some b ≠ (Value.slice q3 L.length c3).ownBlock from fun b hb e => by have := (GV.out.row.lt b e.symm).2; omega)
      clear hb GV
      go_upto_region 7 with (first | (refine wl_store0 w1.heap.size _ (nS (2 + k % 4)) rfl (by kernel_rfl) (by kernel_rfl) rfl ?_) | fail)
      obtain ⟨b6, hb6⟩ : ∃ b6, w1.heap.size = b6 := ⟨_, rfl⟩
      rw [hb6] at H6 hw1 ⊢
      generalize World.alloc w1 (sgO (nS (2 + k % 4))) = z1 at *
      clear hb6
      replace HNE := Lib.hid (HNE.out b6 hw1)
      have hle6 : w.heap.size ≤ b6 := by omega
      have c4 := H6.out.cell (j := 4) (v := .bool false) rfl
      have fr4 := H6.out.frozen 4
      have H7 := Lib.hid (show HoldsB (z1.setCell ⟨b6, 4, none⟩ (.bool (k % 7 == 3))) b6 51 (sgA ⟨1, 2 + k % 4, 0, 0, decide (k % 7 = 3), 0, false, false, 0, 0, 0, 0, false, 0, 0, 0, 0⟩) from H6.out.set 4 _)
      have GB := Lib.hid (show OwnL w (z1.setCell ⟨b6, 4, none⟩ (.bool (k % 7 == 3))) 51 17 (.slice q3 L.length c3) L.length (flatG L) from ⟨w_put GA.out.bel hle6 _ _, own_put GA.out.row HNE.out _ _⟩)
      go_upto_region 8 with (fail)
      generalize z1.setCell ⟨b6, 4, none⟩ (.bool (k % 7 == 3)) = z2 at *
      clear c4 fr4 H6 GA
      by_cases h5 : k % 5 = 4
      ·
        have h51 : (k % 5 == 4) = true := by simp [h5]
        have hE2 := Lib.hid (show mdP nums (i + 1) = L ++ [rS (2 + k % 4)] from by
          rw [hE.out, show mdS k = rS (2 + k % 4) from if_pos h5, show mdD k = [] from if_neg (fun c => c.2 h5), List.append_nil])
        clear hE h5
        go_wp2_with fail
        refine (RT.out (2 + k % 4) _).mono ?_
        rintro e w2 ⟨rfl, hb⟩
        have H7b := Lib.hid (H7.out.later hb)
        have GB2 := Lib.hid (GB.out.later hb)
        clear hb H7 GB
        go_wp2_with (first | (refine wl_storeH b6 _ _ (rS (2 + k % 4)) H7b.out rfl (by kernel_rfl) (by kernel_rfl) ?_) | fail)
        intro z3 hH hG _
        have H8 := Lib.hid hH
        have GC := Lib.hid (show OwnL w z3 51 17 (.slice q3 L.length c3) L.length (flatG L) from ⟨GB2.out.bel.grown hG GB2.out.bel.size (fun j e => by injection e with e; omega), own_kept3 GB2.out.row HNE.out hG⟩)
        clear hH hG H7b GB2
        by_cases h40 : 40 ≤ k
        ·
          have GD := Lib.hid (GC.out.later (w_alloc (w_refl z3) (litO [rS (2 + k % 4)])))
          go_wp2_with (first | (refine wl_load (x := .tmp 6) b6 0 (rS (2 + k % 4)) (by kernel_rfl) H8.out.sg ?_) | (refine wl_lit 1 _ [rS (2 + k % 4)] #[(0, sgv (rS (2 + k % 4)))] (by kernel_rfl) (run_lit1 _ _) (by kernel_rfl) ?_) | (at_builtin; refine wpList_append_own_at _ rfl _ _ 24 rfl w.heap.size 51 i0 (sgv zS) 17 128 Try.underlying24 hi0 hz0 hz1 hz2 rfl (by decide) _ L.length (flatG L) rfl GD.out.row ⟨z3.heap.size, 0, none⟩ 1 1 (flatG [rS (2 + k % 4)]) rfl rfl (lit_new _ _ _) (flatG_one _) (by unfold maxLen; omega) (by omega) GD.out.bel.size ?_) | fail)
          intro v4 w4 hown hgrow _ _
          have GE := Lib.hid (show OwnL w w4 51 17 v4 (L.length + 1) (flatG (L ++ [rS (2 + k % 4)])) from by rw [flatG_app]; exact GD.out.app (w_refl _) hown hgrow)
          have e0 := ((H8.out.al (litO [rS (2 + k % 4)])).kept hgrow HNE.out).cell (j := 0) (v := .int .i64 2) rfl
          obtain ⟨q4, c4, rfl⟩ := GE.out.val
          clear hown hgrow GD H8 GC HNE
          go_wp2_with fail
          exact ⟨⟨i + 1, by omega, by omega, by go_num, ⟨q4, c4, by rw [hE2.out]; simp⟩, Lib.hid (by rw [hE2.out, show (L ++ [rS (2 + k % 4)]).length = L.length + 1 by simp]; exact GE.out)⟩, by simp [intOf]; omega⟩
        ·
          have GD := Lib.hid (GC.out.later (w_alloc (w_refl z3) (litO [rS (2 + k % 4)])))
          go_wp2_with (first | (refine wl_load (x := .tmp 6) b6 0 (rS (2 + k % 4)) (by kernel_rfl) H8.out.sg ?_) | (refine wl_lit 1 _ [rS (2 + k % 4)] #[(0, sgv (rS (2 + k % 4)))] (by kernel_rfl) (run_lit1 _ _) (by kernel_rfl) ?_) | (at_builtin; refine wpList_append_own_at _ rfl _ _ 24 rfl w.heap.size 51 i0 (sgv zS) 17 128 Try.underlying24 hi0 hz0 hz1 hz2 rfl (by decide) _ L.length (flatG L) rfl GD.out.row ⟨z3.heap.size, 0, none⟩ 1 1 (flatG [rS (2 + k % 4)]) rfl rfl (lit_new _ _ _) (flatG_one _) (by unfold maxLen; omega) (by omega) GD.out.bel.size ?_) | fail)
          intro v4 w4 hown hgrow _ _
          have GE := Lib.hid (show OwnL w w4 51 17 v4 (L.length + 1) (flatG (L ++ [rS (2 + k % 4)])) from by rw [flatG_app]; exact GD.out.app (w_refl _) hown hgrow)
          have e0 := ((H8.out.al (litO [rS (2 + k % 4)])).kept hgrow HNE.out).cell (j := 0) (v := .int .i64 2) rfl
          obtain ⟨q4, c4, rfl⟩ := GE.out.val
          clear hown hgrow GD H8 GC HNE
          go_wp2_with fail
          exact ⟨⟨i + 1, by omega, by omega, by go_num, ⟨q4, c4, by rw [hE2.out]; simp⟩, Lib.hid (by rw [hE2.out, show (L ++ [rS (2 + k % 4)]).length = L.length + 1 by simp]; exact GE.out)⟩, by simp [intOf]; omega⟩
      ·
        have h51 : (k % 5 == 4) = false := by simp [h5]
        have H8 := H7
        have GC := GB
        clear H7 GB
        by_cases h40 : 40 ≤ k
        ·
          have hE2 := Lib.hid (show mdP nums (i + 1) = (L ++ [(⟨1, 2 + k % 4, 0, 0, decide (k % 7 = 3), 0, false, false, 0, 0, 0, 0, false, 0, 0, 0, 0⟩ : Sg)]) ++ [pS] from by
            rw [hE.out, show mdS k = (⟨1, 2 + k % 4, 0, 0, decide (k % 7 = 3), 0, false, false, 0, 0, 0, 0, false, 0, 0, 0, 0⟩ : Sg) from if_neg h5, show mdD k = [pS] from if_pos ⟨h40, h5⟩])
          clear hE h5
          have GD := Lib.hid (GC.out.later (w_alloc (w_refl z2) (litO [(⟨1, 2 + k % 4, 0, 0, decide (k % 7 = 3), 0, false, false, 0, 0, 0, 0, false, 0, 0, 0, 0⟩ : Sg)])))
          go_wp2_with (first | (refine wl_load (x := .tmp 6) b6 0 ((⟨1, 2 + k % 4, 0, 0, decide (k % 7 = 3), 0, false, false, 0, 0, 0, 0, false, 0, 0, 0, 0⟩ : Sg)) (by kernel_rfl) H8.out.sg ?_) | (refine wl_lit 1 _ [(⟨1, 2 + k % 4, 0, 0, decide (k % 7 = 3), 0, false, false, 0, 0, 0, 0, false, 0, 0, 0, 0⟩ : Sg)] #[(0, sgv ((⟨1, 2 + k % 4, 0, 0, decide (k % 7 = 3), 0, false, false, 0, 0, 0, 0, false, 0, 0, 0, 0⟩ : Sg)))] (by kernel_rfl) (run_lit1 _ _) (by kernel_rfl) ?_) | (at_builtin; refine wpList_append_own_at _ rfl _ _ 24 rfl w.heap.size 51 i0 (sgv zS) 17 128 Try.underlying24 hi0 hz0 hz1 hz2 rfl (by decide) _ L.length (flatG L) rfl GD.out.row ⟨z2.heap.size, 0, none⟩ 1 1 (flatG [(⟨1, 2 + k % 4, 0, 0, decide (k % 7 = 3), 0, false, false, 0, 0, 0, 0, false, 0, 0, 0, 0⟩ : Sg)]) rfl rfl (lit_new _ _ _) (flatG_one _) (by unfold maxLen; omega) (by omega) GD.out.bel.size ?_) | fail)
          intro v4 w4 hown hgrow _ _
          have GE := Lib.hid (show OwnL w w4 51 17 v4 (L.length + 1) (flatG (L ++ [(⟨1, 2 + k % 4, 0, 0, decide (k % 7 = 3), 0, false, false, 0, 0, 0, 0, false, 0, 0, 0, 0⟩ : Sg)])) from by rw [flatG_app]; exact GD.out.app (w_refl _) hown hgrow)
          have e0 := ((H8.out.al (litO [(⟨1, 2 + k % 4, 0, 0, decide (k % 7 = 3), 0, false, false, 0, 0, 0, 0, false, 0, 0, 0, 0⟩ : Sg)])).kept hgrow HNE.out).cell (j := 0) (v := .int .i64 1) rfl
          obtain ⟨q4, c4, rfl⟩ := GE.out.val
          clear hown hgrow GD H8 GC HNE
          go_wp2_with fail
          refine (PT.out _).mono ?_
          rintro e w5 ⟨rfl, hb⟩
          have GF := Lib.hid ((GE.out.later hb).later (w_alloc (w_refl w5) (litO [pS])))
          clear hb e0
          go_wp2_with (first | (refine wl_lit 1 _ [pS] #[(0, sgv pS)] (by kernel_rfl) (run_lit1 _ _) (by kernel_rfl) ?_) | (at_builtin; refine wpList_append_own_at _ rfl _ _ 24 rfl w.heap.size 51 i0 (sgv zS) 17 128 Try.underlying24 hi0 hz0 hz1 hz2 rfl (by decide) _ (L.length + 1) (flatG (L ++ [(⟨1, 2 + k % 4, 0, 0, decide (k % 7 = 3), 0, false, false, 0, 0, 0, 0, false, 0, 0, 0, 0⟩ : Sg)])) rfl GF.out.row ⟨w5.heap.size, 0, none⟩ 1 1 (flatG [pS]) rfl rfl (lit_new _ _ _) (flatG_one _) (by unfold maxLen; omega) (by omega) GF.out.bel.size ?_) | fail)
          intro v6 w6 hown hgrow _ _
          have GG := Lib.hid (show OwnL w w6 51 17 v6 (L.length + 1 + 1) (flatG ((L ++ [(⟨1, 2 + k % 4, 0, 0, decide (k % 7 = 3), 0, false, false, 0, 0, 0, 0, false, 0, 0, 0, 0⟩ : Sg)]) ++ [pS])) from by rw [flatG_app]; exact GF.out.app (w_refl _) hown hgrow)
          obtain ⟨q6, c6, rfl⟩ := GG.out.val
          clear hown hgrow GE GF
          go_wp2_with fail
          exact ⟨⟨i + 1, by omega, by omega, by go_num, ⟨q6, c6, by rw [hE2.out]; simp⟩, Lib.hid (by rw [hE2.out, show ((L ++ [(⟨1, 2 + k % 4, 0, 0, decide (k % 7 = 3), 0, false, false, 0, 0, 0, 0, false, 0, 0, 0, 0⟩ : Sg)]) ++ [pS]).length = L.length + 1 + 1 by simp]; exact GG.out)⟩, by simp [intOf]; omega⟩
        ·
          have hE2 := Lib.hid (show mdP nums (i + 1) = L ++ [(⟨1, 2 + k % 4, 0, 0, decide (k % 7 = 3), 0, false, false, 0, 0, 0, 0, false, 0, 0, 0, 0⟩ : Sg)] from by
            rw [hE.out, show mdS k = (⟨1, 2 + k % 4, 0, 0, decide (k % 7 = 3), 0, false, false, 0, 0, 0, 0, false, 0, 0, 0, 0⟩ : Sg) from if_neg h5, show mdD k = [] from if_neg (fun c => h40 c.1), List.append_nil])
          clear hE h5
          have GD := Lib.hid (GC.out.later (w_alloc (w_refl z2) (litO [(⟨1, 2 + k % 4, 0, 0, decide (k % 7 = 3), 0, false, false, 0, 0, 0, 0, false, 0, 0, 0, 0⟩ : Sg)])))
          go_wp2_with (first | (refine wl_load (x := .tmp 6) b6 0 ((⟨1, 2 + k % 4, 0, 0, decide (k % 7 = 3), 0, false, false, 0, 0, 0, 0, false, 0, 0, 0, 0⟩ : Sg)) (by kernel_rfl) H8.out.sg ?_) | (refine wl_lit 1 _ [(⟨1, 2 + k % 4, 0, 0, decide (k % 7 = 3), 0, false, false, 0, 0, 0, 0, false, 0, 0, 0, 0⟩ : Sg)] #[(0, sgv ((⟨1, 2 + k % 4, 0, 0, decide (k % 7 = 3), 0, false, false, 0, 0, 0, 0, false, 0, 0, 0, 0⟩ : Sg)))] (by kernel_rfl) (run_lit1 _ _) (by kernel_rfl) ?_) | (at_builtin; refine wpList_append_own_at _ rfl _ _ 24 rfl w.heap.size 51 i0 (sgv zS) 17 128 Try.underlying24 hi0 hz0 hz1 hz2 rfl (by decide) _ L.length (flatG L) rfl GD.out.row ⟨z2.heap.size, 0, none⟩ 1 1 (flatG [(⟨1, 2 + k % 4, 0, 0, decide (k % 7 = 3), 0, false, false, 0, 0, 0, 0, false, 0, 0, 0, 0⟩ : Sg)]) rfl rfl (lit_new _ _ _) (flatG_one _) (by unfold maxLen; omega) (by omega) GD.out.bel.size ?_) | fail)
          intro v4 w4 hown hgrow _ _
          have GE := Lib.hid (show OwnL w w4 51 17 v4 (L.length + 1) (flatG (L ++ [(⟨1, 2 + k % 4, 0, 0, decide (k % 7 = 3), 0, false, false, 0, 0, 0, 0, false, 0, 0, 0, 0⟩ : Sg)])) from by rw [flatG_app]; exact GD.out.app (w_refl _) hown hgrow)
          have e0 := ((H8.out.al (litO [(⟨1, 2 + k % 4, 0, 0, decide (k % 7 = 3), 0, false, false, 0, 0, 0, 0, false, 0, 0, 0, 0⟩ : Sg)])).kept hgrow HNE.out).cell (j := 0) (v := .int .i64 1) rfl
          obtain ⟨q4, c4, rfl⟩ := GE.out.val
          clear hown hgrow GD H8 GC HNE
          go_wp2_with fail
          exact ⟨⟨i + 1, by omega, by omega, by go_num, ⟨q4, c4, by rw [hE2.out]; simp⟩, Lib.hid (by rw [hE2.out, show (L ++ [(⟨1, 2 + k % 4, 0, 0, decide (k % 7 = 3), 0, false, false, 0, 0, 0, 0, false, 0, 0, 0, 0⟩ : Sg)]).length = L.length + 1 by simp]; exact GE.out)⟩, by simp [intOf]; omega⟩
    · have hln := HLN.out i
      have heq : mdP nums i = madeD nums := by
        rw [HEQ.out, show min nums.length 20 = i by omega]
      have HF := Lib.hid GV.out
      rw [heq] at HF ⊢
      have ways : ¬ (i : Int) < nums.length ∨ ((i : Int) < nums.length ∧ ¬ (i : Int) < 20) := by omega
      clear GV HLN HEQ hln heq
      generalize hMM : madeD nums = M at *
      replace hMM := Lib.hid hMM
      rcases ways with g | ⟨g, g2⟩
      · go_wp2_with fail
        go_ret
        exact ⟨.slice q3 M.length c3, rfl, by rw [hMM.out]; exact HF.out⟩
      · go_wp2_with fail
        go_ret
        exact ⟨.slice q3 M.length c3, rfl, by rw [hMM.out]; exact HF.out⟩

end Go.Proofs.Ythokapebcplmkaa
