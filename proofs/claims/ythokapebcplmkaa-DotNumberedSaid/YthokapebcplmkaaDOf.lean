/- Counting up by mixed radices, as plain lists. -/
import Derived.Test.YthokapebcplmkaaDSpec
import Derived.Test.YthokapebcplmkaaDPost
import Derived.Deep.OwnRows
import Derived.Deep.LoopGhost
namespace Go.Proofs.Ythokapebcplmkaa

def tl (L : List (List Int)) (i : Nat) : Nat := prodL (L.drop i)
def rd (L : List (List Int)) (i : Nat) : Nat := (L.getD i []).length
theorem tl_step {L : List (List Int)} {i : Nat} (h : i < L.length) : tl L i = rd L i * tl L (i + 1) := by
  unfold tl rd
  rw [List.drop_eq_getElem_cons h, List.getD_eq_getElem?_getD, List.getElem?_eq_getElem h]
  rfl
theorem tl_dvd {L : List (List Int)} {i j : Nat} (h : i ≤ j) : tl L j ∣ tl L i := by
  have e : L.drop i = (L.drop i).take (j - i) ++ L.drop j := by
    have h2 := (List.take_append_drop (j - i) (L.drop i)).symm
    rw [List.drop_drop, show i + (j - i) = j by omega] at h2
    exact h2
  unfold tl
  rw [e, prodL_app]
  exact Nat.dvd_mul_left _ _
theorem tl_pos {L : List (List Int)} (h : ∀ x ∈ L, 1 ≤ x.length ∧ x.length ≤ 2) (i : Nat) : 1 ≤ tl L i := prodL_pos fun x hx => h x (List.mem_of_mem_drop hx)
theorem rd_pos {L : List (List Int)} (h : ∀ x ∈ L, 1 ≤ x.length ∧ x.length ≤ 2) {i : Nat} (hi : i < L.length) : 1 ≤ rd L i ∧ rd L i ≤ 2 := by
  unfold rd
  rw [List.getD_eq_getElem?_getD, List.getElem?_eq_getElem hi]
  exact h _ (List.getElem_mem hi)
theorem tl_le {L : List (List Int)} (h : ∀ x ∈ L, 1 ≤ x.length ∧ x.length ≤ 2) (i : Nat) : tl L i ≤ prodL L := by
  have := tl_dvd (L := L) (Nat.zero_le i)
  exact Nat.le_of_dvd (by have := tl_pos h 0; exact this) this
/-- The places of the combination with a number. -/
def plc : List (List Int) → Nat → List Int
  | [], _ => []
  | x :: t, n => ((n / prodL t % x.length : Nat) : Int) :: plc t n
theorem plc_len : ∀ (L : List (List Int)) (n : Nat), (plc L n).length = L.length
  | [], _ => rfl
  | x :: t, n => by simp [plc, plc_len t n]
theorem plc_get : ∀ (L : List (List Int)) (n i : Nat), i < L.length → (plc L n)[i]? = some ((n / tl L (i + 1) % rd L i : Nat) : Int)
  | [], _, _, h => by simp at h
  | x :: t, n, 0, _ => rfl
  | x :: t, n, i + 1, h => by
    have ih := plc_get t n i (by simpa using h)
    show (plc t n)[i]? = _
    rw [ih]; rfl
theorem ofR_get : ∀ (L : List (List Int)) (n i : Nat), i < L.length → (ofR L n)[i]? = some ((L.getD i []).getD (n / tl L (i + 1) % rd L i) 0)
  | [], _, _, h => by simp at h
  | x :: t, n, 0, _ => rfl
  | x :: t, n, i + 1, h => by
    have ih := ofR_get t n i (by simpa using h)
    show (ofR t n)[i]? = _
    rw [ih]; rfl
theorem div_next {P k : Nat} (hp : 1 ≤ P) (h : P ∣ k + 1) : (k + 1) / P = k / P + 1 := by
  obtain ⟨c, hc⟩ := h
  have hc0 : 1 ≤ c := by
    rcases Nat.eq_zero_or_pos c with e | e
    · subst e; simp at hc
    · exact e
  obtain ⟨m, rfl⟩ : ∃ m, c = m + 1 := ⟨c - 1, by omega⟩
  have e1 : (k + 1) / P = m + 1 := by rw [hc]; exact Nat.mul_div_cancel_left _ hp
  have e2 : k / P = m := by
    have hk : k = P * m + (P - 1) := by rw [Nat.mul_add] at hc; omega
    rw [hk, Nat.mul_add_div hp, Nat.div_eq_of_lt (by omega)]; omega
  rw [e1, e2]
/-- The more significant places stay, where nothing is carried. -/
theorem div_same {P r Q k : Nat} (hp : 1 ≤ P) (hr : 1 ≤ r) (h : P ∣ k + 1) (ha : k / P % r + 1 < r) : (k + 1) / (Q * (r * P)) = k / (Q * (r * P)) := by
  have e : ∀ n, n / (Q * (r * P)) = n / P / r / Q := fun n => by
    rw [Nat.div_div_eq_div_mul, Nat.div_div_eq_div_mul]
    congr 1
    rw [Nat.mul_comm Q, Nat.mul_comm r P, Nat.mul_assoc]
  rw [e, e, div_next hp h]
  congr 1
  have hd := Nat.div_add_mod (k / P) r
  have hlt := Nat.mod_lt (k / P) hr
  have e3 : k / P + 1 = r * (k / P / r) + (k / P % r + 1) := by omega
  rw [e3, Nat.mul_add_div hr, Nat.div_eq_of_lt ha]; omega
theorem plc_next {L : List (List Int)} (hone : ∀ x ∈ L, 1 ≤ x.length ∧ x.length ≤ 2) {k d : Nat} (hd : d < L.length) (hdv : tl L (d + 1) ∣ k + 1) (ha : k / tl L (d + 1) % rd L d + 1 < rd L d) :
    plc L (k + 1) = (plc L k).take d ++ ((k / tl L (d + 1) % rd L d + 1 : Nat) : Int) :: List.replicate (L.length - d - 1) 0 := by
  have hp := tl_pos hone (d + 1)
  have hr := (rd_pos hone hd).1
  have hlen : (plc L k).length = L.length := plc_len L k
  apply List.ext_getElem?
  intro i
  by_cases hi : i < L.length
  · rw [plc_get L (k + 1) i hi]
    by_cases c1 : i < d
    · rw [List.getElem?_append_left (by rw [List.length_take]; omega), List.getElem?_take, if_pos c1, plc_get L k i hi]
      obtain ⟨Q, hQ⟩ := tl_dvd (L := L) (show i + 1 ≤ d by omega)
      have e : tl L (i + 1) = Q * (rd L d * tl L (d + 1)) := by rw [hQ, tl_step hd, Nat.mul_comm]
      rw [e, div_same hp hr hdv ha]
    · rw [List.getElem?_append_right (by rw [List.length_take]; omega), List.length_take, Nat.min_eq_left (by omega)]
      by_cases c2 : i = d
      · subst c2
        rw [Nat.sub_self, div_next hp hdv]
        have hd2 := Nat.div_add_mod (k / tl L (i + 1)) (rd L i)
        have e3 : k / tl L (i + 1) + 1 = rd L i * (k / tl L (i + 1) / rd L i) + (k / tl L (i + 1) % rd L i + 1) := by omega
        have : (k / tl L (i + 1) + 1) % rd L i = k / tl L (i + 1) % rd L i + 1 := by
          rw [e3, Nat.mul_add_mod, Nat.mod_eq_of_lt ha]
        rw [this]; rfl
      · obtain ⟨j, hj⟩ : ∃ j, i - d = j + 1 := ⟨i - d - 1, by omega⟩
        rw [hj, List.getElem?_cons_succ, List.getElem?_replicate, if_pos (by omega)]
        have hdv2 : rd L i * tl L (i + 1) ∣ k + 1 := by
          rw [← tl_step hi]; exact Nat.dvd_trans (tl_dvd (by omega)) hdv
        obtain ⟨c, hc⟩ := hdv2
        have : (k + 1) / tl L (i + 1) % rd L i = 0 := by
          rw [hc, show rd L i * tl L (i + 1) * c = tl L (i + 1) * (rd L i * c) by rw [Nat.mul_comm (rd L i), Nat.mul_assoc], Nat.mul_div_cancel_left _ (tl_pos hone (i + 1)), Nat.mul_mod_right]
        rw [this]; rfl
  · rw [List.getElem?_eq_none (by rw [plc_len]; omega), List.getElem?_eq_none (by rw [List.length_append, List.length_take, List.length_cons, List.length_replicate, hlen]; omega)]
theorem plc_carry {L : List (List Int)} (hone : ∀ x ∈ L, 1 ≤ x.length ∧ x.length ≤ 2) {k d : Nat} (hd : d < L.length) (hdv : tl L (d + 1) ∣ k + 1) (ha : ¬ k / tl L (d + 1) % rd L d + 1 < rd L d) : tl L d ∣ k + 1 := by
  have hp := tl_pos hone (d + 1)
  have hr := (rd_pos hone hd).1
  have hlt := Nat.mod_lt (k / tl L (d + 1)) hr
  have hd2 := Nat.div_add_mod (k / tl L (d + 1)) (rd L d)
  have hn := div_next hp hdv
  rw [tl_step hd]
  have e1 : (k + 1) / tl L (d + 1) = rd L d * (k / tl L (d + 1) / rd L d + 1) := by rw [hn, Nat.mul_add]; omega
  have e2 : k + 1 = tl L (d + 1) * ((k + 1) / tl L (d + 1)) := (Nat.mul_div_cancel' hdv).symm
  rw [e2, e1, Nat.mul_comm (rd L d)]
  exact Nat.mul_dvd_mul_left _ (Nat.dvd_mul_right _ _)
theorem plc_end {L : List (List Int)} (hone : ∀ x ∈ L, 1 ≤ x.length ∧ x.length ≤ 2) {k : Nat} (hdv : tl L 0 ∣ k) : plc L k = List.replicate L.length 0 := by
  apply List.ext_getElem?
  intro i
  by_cases hi : i < L.length
  · rw [plc_get L k i hi, List.getElem?_replicate, if_pos hi]
    have hdv2 : rd L i * tl L (i + 1) ∣ k := by
      rw [← tl_step hi]; exact Nat.dvd_trans (tl_dvd (Nat.zero_le _)) hdv
    obtain ⟨c, hc⟩ := hdv2
    have : k / tl L (i + 1) % rd L i = 0 := by
      rw [hc, show rd L i * tl L (i + 1) * c = tl L (i + 1) * (rd L i * c) by rw [Nat.mul_comm (rd L i), Nat.mul_assoc], Nat.mul_div_cancel_left _ (tl_pos hone (i + 1)), Nat.mul_mod_right]
    rw [this]; rfl
  · rw [List.getElem?_eq_none (by rw [plc_len]; omega), List.getElem?_eq_none (by rw [List.length_replicate]; omega)]
theorem plc_zero {L : List (List Int)} (hone : ∀ x ∈ L, 1 ≤ x.length ∧ x.length ≤ 2) : plc L 0 = List.replicate L.length 0 := plc_end hone ⟨0, rfl⟩
/-- The places with the last ones carried: the first c stand. -/
def mid (L : List (List Int)) (k c : Nat) : List Int := (plc L k).take c ++ List.replicate (L.length - c) 0
theorem mid_len (L : List (List Int)) (k c : Nat) (h : c ≤ L.length) : (mid L k c).length = L.length := by
  unfold mid; rw [List.length_append, List.length_take, List.length_replicate, plc_len]; omega
theorem mid_full (L : List (List Int)) (k : Nat) : mid L k L.length = plc L k := by
  unfold mid; rw [Nat.sub_self, List.take_of_length_le (by rw [plc_len]; exact Nat.le_refl _)]; simp
theorem mid_at {L : List (List Int)} {k d : Nat} (hd : d < L.length) : (mid L k (d + 1))[d]? = some ((k / tl L (d + 1) % rd L d : Nat) : Int) := by
  unfold mid
  rw [List.getElem?_append_left (by rw [List.length_take, plc_len]; omega), List.getElem?_take, if_pos (by omega), plc_get L k d hd]
theorem mid_set {L : List (List Int)} {k d : Nat} (hd : d < L.length) (x : Int) : (mid L k (d + 1)).set d x = (plc L k).take d ++ x :: List.replicate (L.length - d - 1) 0 := by
  have hl : (plc L k).length = L.length := plc_len L k
  unfold mid
  rw [List.take_add_one, List.append_assoc, List.set_append_right _ _ (by rw [List.length_take]; omega), List.length_take, Nat.min_eq_left (by omega), Nat.sub_self, List.getElem?_eq_getElem (by omega)]
  show _ ++ (x :: List.replicate (L.length - (d + 1)) 0) = _
  rw [show L.length - (d + 1) = L.length - d - 1 by omega]
theorem mid_set0 {L : List (List Int)} {k d : Nat} (hd : d < L.length) (x : Int) : ((plc L k).take d ++ x :: List.replicate (L.length - d - 1) 0).set d 0 = mid L k d := by
  have hl : (plc L k).length = L.length := plc_len L k
  rw [List.set_append_right _ _ (by rw [List.length_take]; omega), List.length_take, Nat.min_eq_left (by omega), Nat.sub_self]
  unfold mid
  rw [show L.length - d = (L.length - d - 1) + 1 by omega, List.replicate_succ]; rfl

/-- The reference's list, with the last places filled. -/
def fil (L : List (List Int)) (n c : Nat) : List Int := List.replicate c 0 ++ (ofR L n).drop c
theorem fil_len (L : List (List Int)) (n c : Nat) (h : c ≤ L.length) : (fil L n c).length = L.length := by
  unfold fil; rw [List.length_append, List.length_replicate, List.length_drop, ofR_len]; omega
theorem fil_full (L : List (List Int)) (n : Nat) : fil L n L.length = List.replicate L.length 0 := by
  unfold fil; rw [List.drop_of_length_le (by rw [ofR_len]; exact Nat.le_refl _), List.append_nil]
theorem fil_zero (L : List (List Int)) (n : Nat) : fil L n 0 = ofR L n := rfl
theorem fil_set {L : List (List Int)} {n d : Nat} (hd : d < L.length) : (fil L n (d + 1)).set d ((L.getD d []).getD (n / tl L (d + 1) % rd L d) 0) = fil L n d := by
  have hl : (ofR L n).length = L.length := ofR_len L n
  have hg := ofR_get L n d hd
  rw [List.getElem?_eq_getElem (by omega)] at hg
  unfold fil
  rw [List.replicate_succ', List.append_assoc, List.set_append_right _ _ (by rw [List.length_replicate]; omega), List.length_replicate, Nat.sub_self, List.drop_eq_getElem_cons (show d < (ofR L n).length by omega), Option.some.inj hg]
  rfl
theorem div_down {L : List (List Int)} {n d : Nat} (hd : d < L.length) : n / tl L (d + 1) / rd L d = n / tl L d := by
  rw [Nat.div_div_eq_div_mul, tl_step hd, Nat.mul_comm]
theorem tl_end (L : List (List Int)) : tl L L.length = 1 := by unfold tl; rw [List.drop_length]; rfl

end Go.Proofs.Ythokapebcplmkaa

/- The program's countUp. -/
namespace Go.Proofs.Ythokapebcplmkaa
open Go.RowKit

/-- A block that holds ints of the call's own. -/
theorem hold_cell {w : World} {b : Nat} {zs : List Int} (h : HoldsB w b 3 (ints zs).toArray) {j : Nat} {x : Int} (hj : zs[j]? = some x) : w.cell? ⟨b, j, none⟩ = some (.int .i64 x) :=
  h.cell (by rw [List.getElem?_toArray, List.getElem?_map, hj]; rfl)
theorem hold_set {w : World} {b : Nat} {zs : List Int} (h : HoldsB w b 3 (ints zs).toArray) (j : Nat) (x : Int) : HoldsB (w.setCell ⟨b, j, none⟩ (.int .i64 x)) b 3 (ints (zs.set j x)).toArray := by
  have := h.set j (.int .i64 x)
  rw [List.setIfInBounds_toArray, show (ints zs).set j (.int .i64 x) = ints (zs.set j x) from (List.map_set ..).symm] at this
  exact this
theorem hold_int {w : World} {b : Nat} {zs : List Int} (h : HoldsB w b 3 (ints zs).toArray) (hn : zs.length ≤ 1000) : SlP w 1 (some ⟨b, 0, none⟩) zs.length zs.length (ints zs) :=
  ⟨ints_len zs, Nat.le_refl _, by omega, fun e => (by cases e), ints_one zs, fun _ => ⟨b, 0, rfl, h.lt, fun j u hj => by
    rw [Nat.zero_add]
    exact h.cell (by rw [List.getElem?_toArray]; exact hj)⟩⟩
theorem make_ints (n : Nat) (hn : n ≤ 1000) (W : World) : (Instr.makeSlice 32 (.int .i64 (n : Int)) (.int .i64 (n : Int))).run Try.prog W = .ok (.slice (some ⟨W.heap.size, 0, none⟩) n n) (W.alloc (.cells (ints (List.replicate n 0)).toArray 3)) := by
  obtain ⟨i0, hi0, hz0, hz1, hz2⟩ := info_parts info_int
  have := run_make_row 32 3 i0 _ Try.underlying32 hi0 hz0 hz1 rfl .i64 .i64 n (by rw [hz2]; omega) (by omega) W
  rw [this]
  have e : madeCells #[.int .i64 0] n = (ints (List.replicate n 0)).toArray := by
    apply Array.ext_getElem?
    intro i
    by_cases h : i < n
    · simp [madeCells, h, Nat.mod_one]
    · rw [Array.getElem?_eq_none (by rw [size_madeCells]; omega), Array.getElem?_eq_none (by simp; omega)]
  rw [e]

set_option maxRecDepth 100000 in
set_option maxHeartbeats 4000000 in
theorem pcup_any (L : List (List Int)) (hL : L.length ≤ 1000) (hone : ∀ x ∈ L, 1 ≤ x.length ∧ x.length ≤ 2) (m : Nat) (hm : m < 64) (p : Option Addr) (cap : Nat) (vs : List Value) (w : World) (h : LstI w p cap vs L) :
    Calls Try.prog 56 #[.slice p L.length cap, .int .i64 (m : Int)] w fun e w' => ∃ b, e = .returned (.slice (some ⟨b, 0, none⟩) L.length L.length) ∧ HoldsB w' b 3 (ints (plc L m)).toArray ∧ Below w.heap.size w w' := by
  have f1 := h.sl.fit
  have f2 := h.sl.max
  have HP := Lib.hid h
  have mk := fun W => make_ints L.length hL W
  have HW := Lib.hid (HoldsB.new w 3 (ints (List.replicate L.length 0)).toArray)
  have B0 := Lib.hid (w_alloc (w_refl w) (.cells (ints (List.replicate L.length 0)).toArray 3))
  have hz := plc_zero hone
  rw [← hz] at HW B0
  rw [← hz] at mk
  have ONE := Lib.hid hone
  clear h hz hone
  generalize hbv : w.heap.size = bv at *
  have hbel := Lib.hid (Nat.le_of_eq hbv)
  go_enter Try.func56, Try.ntmps56
  go_wp2_with fail
  go_step3
  go_wp2_with fail
  clear mk
  try go_step3
  try go_wp2_with fail
  go_loopg [6, 11] m (fun g _ s11 wr => ∃ k : Nat, k + g = m ∧ s11 = .int .i64 k ∧ Hid (HoldsB wr bv 3 (ints (plc L k)).toArray) ∧ Hid (Below w.heap.size w wr))
  case atStart => exact ⟨0, by omega, rfl, HW, Lib.hid (by rw [hbv]; exact B0.out)⟩
  case round =>
    clear HW B0
    obtain ⟨k, hkg, rfl, HW, B⟩ := hrel
    cases gk with
    | succ g =>
      have hlt' : (k : Int) < m := by omega
      have HW1 := Lib.hid (show HoldsB wr bv 3 (ints (mid L k L.length)).toArray from by rw [mid_full]; exact HW.out)
      have x1 : IntKind.i64.wrap ((L.length : Int) - 1) = (L.length : Int) - 1 := IntWalk.i64_in _ (by omega)
      clear HW
      go_wp2_with fail
      go_loopg [6] L.length (fun c s6 wy => c ≤ L.length ∧ s6 = .int .i64 ((c : Int) - 1) ∧ Hid (tl L c ∣ k + 1) ∧ Hid (HoldsB wy bv 3 (ints (mid L k c)).toArray) ∧ Hid (Below w.heap.size w wy))
      case atStart => exact ⟨Nat.le_refl _, rfl, Lib.hid (by rw [tl_end]; exact Nat.one_dvd _), HW1, B⟩
      case round =>
        clear HW1 B x1
        rename World => wy
        obtain ⟨hc, rfl, hdv, HW, B⟩ := hrel
        cases gk with
        | succ d =>
          have hdl : d < L.length := by omega
          have hdl2 : (d : Int) < L.length := by omega
          have hd0 : (0 : Int) ≤ d := by omega
          have e6 : ((d + 1 : Nat) : Int) - 1 = (d : Int) := by omega
          rw [e6]
          have hz := mid_at (L := L) (k := k) hdl
          have hbd : k / tl L (d + 1) % rd L d < 2 := Nat.lt_of_lt_of_le (Nat.mod_lt _ (rd_pos ONE.out hdl).1) (rd_pos ONE.out hdl).2
          have hrd := (rd_pos ONE.out hdl).2
          have NX := Lib.hid (fun ha => plc_next ONE.out (k := k) hdl hdv.out ha)
          have CA := Lib.hid (fun ha => plc_carry ONE.out (k := k) hdl hdv.out ha)
          have S1 := Lib.hid (mid_set (L := L) (k := k) hdl ((k / tl L (d + 1) % rd L d + 1 : Nat) : Int))
          have S2 := Lib.hid (mid_set0 (L := L) (k := k) hdl ((k / tl L (d + 1) % rd L d + 1 : Nat) : Int))
          have hrr : rd L d = L[d].length := by unfold rd; rw [List.getD_eq_getElem?_getD, List.getElem?_eq_getElem hdl]; rfl
          generalize hA : k / tl L (d + 1) % rd L d = a at *
          have c0 := hold_cell HW.out hz
          have fr0 := HW.out.frozen d
          have HW1 := Lib.hid (hold_set HW.out d ((a + 1 : Nat) : Int))
          have hml := mid_len L k (d + 1) (by omega)
          have c1 := hold_cell HW1.out (j := d) (x := ((a + 1 : Nat) : Int)) (List.getElem?_set_self (by rw [hml]; exact hdl))
          rw [S1.out] at HW1
          have B1 := Lib.hid (w_put B.out hbel.out d (.int .i64 ((a + 1 : Nat) : Int)))
          have hLr := HP.out.later B1.out
          obtain ⟨b, off, rfl, _, _⟩ := hLr.sl.at_ (by omega)
          obtain ⟨u, hu, pu, cu, rfl, hus⟩ := hLr.at_ d _ (List.getElem?_eq_getElem hdl)
          have c2 := cell_at hLr.sl hu
          have fr1 := HW1.out.frozen d
          have x2 : IntKind.i64.wrap ((a : Int) + 1) = ((a + 1 : Nat) : Int) := by rw [IntWalk.i64_in _ (by omega)]; omega
          have x3 : IntKind.i64.wrap ((d : Int) - 1) = (d : Int) - 1 := IntWalk.i64_in _ (by omega)
          have HW2' := Lib.hid (fun (n : Nat) => show HoldsB (((wy.setCell ⟨bv, d, none⟩ (.int .i64 ((a + 1 : Nat) : Int))).drewN n).setCell ⟨bv, d, none⟩ (.int .i64 0)) bv 3 (ints (mid L k d)).toArray from by
            have := hold_set (HW1.out.later (below_drewN (w_refl _) n)) d 0
            rw [S2.out] at this
            exact this)
          clear hz HW B S1 S2 hLr hu hus hA hdv e6 hml
          rw [← hrr] at c2
          generalize rd L d = r at *
          by_cases hin : a + 1 < r
          · have HN := Lib.hid (show HoldsB (wy.setCell ⟨bv, d, none⟩ (.int .i64 ((a + 1 : Nat) : Int))) bv 3 (ints (plc L (k + 1))).toArray from by rw [NX.out hin]; exact HW1.out)
            have hin2 : ((a + 1 : Nat) : Int) < (r : Int) := by omega
            clear NX CA HW2' HW1 hin hrr
            generalize hwz : wy.setCell ⟨bv, d, none⟩ (.int .i64 ((a + 1 : Nat) : Int)) = wz at *
            generalize ((a + 1 : Nat) : Int) = a1 at *
            go_wp2_with fail
            clear hwz fr0 c0
            go_quiet (fail)
            go_wp2_with fail
            go_roundg g
            case measure => omega
            case rel => exact ⟨k + 1, by omega, by go_num, Lib.hid (HN.out.later (below_drewN (w_refl _) _)), Lib.hid (below_drewN B1.out _)⟩
          · have hin2 : ¬ ((a + 1 : Nat) : Int) < (r : Int) := by omega
            have hdv2 := Lib.hid (CA.out hin)
            clear NX CA hin hrr
            generalize hwz : wy.setCell ⟨bv, d, none⟩ (.int .i64 ((a + 1 : Nat) : Int)) = wz at *
            generalize ((a + 1 : Nat) : Int) = a1 at *
            go_wp2_with fail
            clear hwz fr0 c0
            go_quiet (fail)
            go_wp2_with fail
            go_roundg d
            case measure => omega
            case rel => exact ⟨by omega, by go_num, hdv2, Lib.hid (HW2'.out _), Lib.hid (w_put (below_drewN B1.out _) hbel.out d (.int .i64 0))⟩
        | zero =>
          have HN := Lib.hid (show HoldsB wy bv 3 (ints (plc L (k + 1))).toArray from by
            have e : mid L k 0 = plc L (k + 1) := by rw [plc_end ONE.out hdv.out]; unfold mid; simp
            rw [← e]; exact HW.out)
          clear HW hdv
          go_wp2_with fail
          go_roundg g
          case measure => omega
          case rel => exact ⟨k + 1, by omega, by go_num, HN, B⟩
    | zero =>
      obtain rfl : k = m := by omega
      go_wp2_with fail
      try rw [Exit.noGoto_ret]
      go_ret
      exact ⟨bv, rfl, HW.out, by rw [← hbv]; exact B.out⟩

def OfPost (q : Q4) (l : List Sg) (n : Int) (w : World) (e : Ending) (w' : World) : Prop := ∃ v, e = .returned (.tuple #[v, .int .i64 (ofE q l n)]) ∧ IntV w' v (ofD q l n) ∧ Below w.heap.size w w'
theorem cnt_ok {q : Q4} {l : List Sg} (h : (cntD q l).2 = 0) : chkD q l = 0 ∧ (cntD q l).1 = (prodL (mnD q l) : Int) ∧ prodL (mnD q l) ≤ 64 := by
  unfold cntD at h ⊢
  by_cases c : chkD q l = 0
  · rw [if_pos c] at h ⊢
    by_cases c2 : prodL (mnD q l) ≤ 64
    · rw [if_pos c2]; exact ⟨c, rfl, c2⟩
    · rw [if_neg c2] at h; cases h
  · rw [if_neg c] at h; exact absurd h c

end Go.Proofs.Ythokapebcplmkaa
