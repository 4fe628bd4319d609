/- Counts add up: the mathematics of notes and rests, ligatures and counts of a valid part. -/
import Derived.Test.YtcomjcflllfobaaDoorSFreB
namespace Go.Proofs.YtcomjcflllfobaaDoor
open Go.RowKit

/-! ### Sums -/
def sumI : List Int → Int
  | [] => 0
  | z :: r => z + sumI r
theorem sumI_app : ∀ a b : List Int, sumI (a ++ b) = sumI a + sumI b
  | [], b => by simp [sumI]
  | z :: r, b => by simp only [List.cons_append, sumI]; rw [sumI_app r b]; omega
theorem sumI_step {zs : List Int} {i : Nat} (h : i < zs.length) : sumI (zs.take (i + 1)) = sumI (zs.take i) + zs[i] := by
  rw [List.take_add_one, List.getElem?_eq_getElem h, Option.toList_some, sumI_app]
  simp [sumI]
theorem sumI_map : ∀ (f g : Nat → Int) (n : Nat), (∀ j, j < n → 0 ≤ f j ∧ f j ≤ g j) → 0 ≤ sumI ((List.range n).map f) ∧ sumI ((List.range n).map f) ≤ sumI ((List.range n).map g)
  | f, g, 0, h => by simp [sumI]
  | f, g, n + 1, h => by
    have := sumI_map f g n (fun j hj => h j (by omega))
    have h2 := h n (by omega)
    rw [List.range_succ, List.map_append, List.map_append, sumI_app, sumI_app]
    simp only [List.map_cons, List.map_nil, sumI]
    omega
/-- One more in one place. -/
theorem sumI_one : ∀ (f g : Nat → Int) (k n : Nat), k < n → (∀ j, j ≠ k → g j = f j) → g k = f k + 1 → sumI ((List.range n).map g) = sumI ((List.range n).map f) + 1
  | f, g, k, 0, h, _, _ => by omega
  | f, g, k, n + 1, h, h1, h2 => by
    rw [List.range_succ, List.map_append, List.map_append, sumI_app, sumI_app]
    simp only [List.map_cons, List.map_nil, sumI]
    by_cases e : k = n
    · subst e
      have : (List.range k).map g = (List.range k).map f := List.map_congr_left (fun j hj => h1 j (by have := List.mem_range.1 hj; omega))
      rw [this]; omega
    · have := sumI_one f g k n (by omega) h1 h2
      rw [this, h1 n (fun e2 => e e2.symm)]; omega
theorem kind_ok {s : Sg} (h : oneE s = 0) : kOk s.kind := by
  unfold oneE at h
  split at h
  · cases h
  · rename_i h1; exact Classical.not_not.1 h1
/-- The counts of all kinds add up. -/
theorem cnt_sum {l : List Sg} (G : ∀ k, k < l.length → oneE (l.getD k zS) = 0) : ∀ k, k ≤ l.length → sumI (cntL l k) = k
  | 0, _ => by rw [cnt_zero]; decide
  | k + 1, h => by
    have ih := cnt_sum G k (by omega)
    obtain ⟨h1, h2⟩ := kind_ok (G k (by omega))
    obtain ⟨j, hj⟩ : ∃ j : Nat, (l.getD k zS).kind = (j : Int) + 1 := ⟨((l.getD k zS).kind - 1).toNat, by omega⟩
    have := sumI_one (cntK l k) (cntK l (k + 1)) j 12 (by omega) (fun i hi => by rw [cntK_succ (by omega), if_neg (by omega)]; omega) (by rw [cntK_succ (by omega), if_pos hj])
    unfold cntL at ih ⊢
    rw [this, ih]; push_cast; rfl

/-! ### Notes and rests -/
theorem isTim_iff {l : List Sg} {i : Nat} (h : kOk (l.getD i zS).kind) : isTim l i = true ↔ (l.getD i zS).kind = 1 ∨ (l.getD i zS).kind = 2 ∨ (l.getD i zS).kind = 4 := by
  unfold isTim
  generalize (l.getD i zS).kind = x at *
  obtain ⟨h1, h2⟩ := h
  have c : x = 1 ∨ x = 2 ∨ x = 3 ∨ x = 4 ∨ x = 5 ∨ x = 6 ∨ x = 7 ∨ x = 8 ∨ x = 9 ∨ x = 10 ∨ x = 11 ∨ x = 12 := by omega
  rcases c with rfl | rfl | rfl | rfl | rfl | rfl | rfl | rfl | rfl | rfl | rfl | rfl <;> decide
theorem tim_len {l : List Sg} (G : ∀ k, k < l.length → oneE (l.getD k zS) = 0) : ∀ k, k ≤ l.length → ((selP (isTim l) k).length : Int) = cntK l k 0 + cntK l k 1 + cntK l k 3
  | 0, _ => by simp [selP, cntK]
  | k + 1, h => by
    have ih := tim_len G k (by omega)
    have ok := kind_ok (G k (by omega))
    have iff := isTim_iff ok
    rw [cntK_succ (by omega), cntK_succ (by omega), cntK_succ (by omega)]
    cases ht : isTim l k with
    | true =>
      have hk := iff.1 ht
      rw [sel_yes ht, List.length_append]
      simp only [List.length_cons, List.length_nil]
      push_cast
      rw [ih]
      rcases hk with e | e | e <;> rw [e] <;> simp <;> omega
    | false =>
      have hk : ¬ ((l.getD k zS).kind = 1 ∨ (l.getD k zS).kind = 2 ∨ (l.getD k zS).kind = 4) := fun e => by rw [iff.2 e] at ht; cases ht
      rw [sel_no ht, if_neg (by omega), if_neg (by omega), if_neg (by omega), ih]; omega
theorem sel_lt {p : Nat → Bool} : ∀ k, ∀ z ∈ selP p k, ∃ i : Nat, z = (i : Int) ∧ i < k ∧ p i = true
  | 0, z, h => by cases h
  | k + 1, z, h => by
    cases hp : p k with
    | true =>
      rw [sel_yes hp] at h
      rcases List.mem_append.1 h with h | h
      · obtain ⟨i, h1, h2, h3⟩ := sel_lt k z h; exact ⟨i, h1, by omega, h3⟩
      · obtain rfl := List.mem_singleton.1 h; exact ⟨k, rfl, by omega, hp⟩
    | false =>
      rw [sel_no hp] at h
      obtain ⟨i, h1, h2, h3⟩ := sel_lt k z h; exact ⟨i, h1, by omega, h3⟩
theorem sel_asc {p : Nat → Bool} : ∀ k i, (h : i + 1 < (selP p k).length) → (selP p k)[i]'(by omega) < (selP p k)[i + 1]
  | 0, i, h => by simp [selP] at h
  | k + 1, i, h => by
    cases hp : p k with
    | false => simp only [sel_no hp] at h ⊢; exact sel_asc k i h
    | true =>
      simp only [sel_yes hp] at h ⊢
      rw [List.length_append] at h
      simp only [List.length_cons, List.length_nil] at h
      by_cases e : i + 1 < (selP p k).length
      · rw [List.getElem_append_left (by omega), List.getElem_append_left e]; exact sel_asc k i e
      · rw [List.getElem_append_left (by omega), List.getElem_append_right (by omega)]
        obtain ⟨j, h1, h2, _⟩ := sel_lt k _ (List.getElem_mem (show i < (selP p k).length by omega))
        rw [h1]
        simp
        omega

/-! ### Ligatures -/
def chn : Int → List (Int × Int) → Prop
  | _, [] => True
  | e, (a, b) :: r => e < a ∧ a < b ∧ chn b r
def fin : Int → List (Int × Int) → Int
  | e, [] => e
  | _, (_, b) :: r => fin b r
def tsum : List (Int × Int) → Int
  | [] => 0
  | (a, b) :: r => (b - a + 1) + tsum r
theorem chn_app : ∀ (ps : List (Int × Int)) (e a b : Int), chn e ps → fin e ps < a → a < b → chn e (ps ++ [(a, b)])
  | [], _, _, _, _, h1, h2 => ⟨h1, h2, trivial⟩
  | (_, y) :: r, _, a, b, h, h1, h2 => ⟨h.1, h.2.1, chn_app r y a b h.2.2 h1 h2⟩
theorem fin_app : ∀ (ps : List (Int × Int)) (e a b : Int), fin e (ps ++ [(a, b)]) = b
  | [], _, _, _ => rfl
  | (_, y) :: r, _, a, b => fin_app r y a b
theorem tsum_app : ∀ (ps : List (Int × Int)) (a b : Int), tsum (ps ++ [(a, b)]) = tsum ps + (b - a + 1)
  | [], a, b => by simp [tsum]
  | (x, y) :: r, a, b => by simp only [List.cons_append, tsum]; rw [tsum_app r a b]; omega
theorem chn_at : ∀ (ps : List (Int × Int)) (e : Int) (i : Nat) (h : i < ps.length), chn e ps → fin e (ps.take i) < (ps[i]).1 ∧ (ps[i]).1 < (ps[i]).2 ∧ fin e (ps.take (i + 1)) = (ps[i]).2 ∧ tsum (ps.take (i + 1)) = tsum (ps.take i) + ((ps[i]).2 - (ps[i]).1 + 1)
  | [], e, i, h, _ => by simp at h
  | (x, y) :: r, e, 0, h, g => by refine ⟨g.1, g.2.1, rfl, ?_⟩; simp [tsum]
  | (x, y) :: r, e, i + 1, h, g => by
    obtain ⟨h1, h2, h3, h4⟩ := chn_at r y i (by simpa using h) g.2.2
    refine ⟨h1, h2, h3, ?_⟩
    simp only [List.take_succ_cons, tsum, List.getElem_cons_succ]
    rw [h4]; omega
/-- What is known of the ligatures before sign k. -/
theorem lig_inv {l : List Sg} (G : Good l) : ∀ k, k ≤ l.length → ∃ (ps : List (Int × Int)) (o : Option Int), selP (fstB l) k = ps.map (·.1) ++ o.toList ∧ selP (isLst l) k = ps.map (·.2) ∧ chn (-1) ps ∧ fin (-1) ps < k ∧
    (pst l k = true → ∃ f, o = some f ∧ fin (-1) ps < f ∧ f < k ∧ cntK l k 3 = tsum ps + (k - f)) ∧ (pst l k = false → o = none ∧ cntK l k 3 = tsum ps)
  | 0, _ => ⟨[], none, rfl, rfl, trivial, by decide, fun h => (by cases h), fun _ => ⟨rfl, by simp [cntK, tsum]⟩⟩
  | k + 1, h => by
    obtain ⟨ps, o, h1, h2, h3, h4, h5, h6⟩ := lig_inv G k (by omega)
    have hf := fst_pst l k
    have hk4 : cntK l (k + 1) 3 = cntK l k 3 + (if kB l k = true then 1 else 0) := by
      rw [cntK_succ (by omega)]
      unfold kB
      by_cases e : (l.getD k zS).kind = 4
      · rw [if_pos (by rw [e]; rfl), if_pos (by rw [e]; rfl)]
      · rw [if_neg (by rw [show ((3 : Nat) : Int) + 1 = 4 from rfl]; exact e), if_neg (by simpa using e)]
    cases hkb : kB l k with
    | false =>
      have hp : pst l k = false := by
        cases hp : pst l k with
        | false => rfl
        | true => rw [(pst_tied G (by omega) hp).2] at hkb; cases hkb
      obtain ⟨rfl, h7⟩ := h6 hp
      rw [hkb, Bool.false_and] at hf
      refine ⟨ps, none, by rw [sel_no hf]; exact h1, by rw [sel_no (by simp [isLst, hkb])]; exact h2, h3, by omega, fun h => (by simp [pst, hkb] at h), fun _ => ⟨rfl, by rw [hk4, hkb, h7]; simp⟩⟩
    | true =>
      rw [hkb, Bool.true_and] at hf
      rw [hkb, if_pos rfl] at hk4
      cases hl : laB l k with
      | true =>
        -- a ligature ends here
        have hp : pst l k = true := by
          have := G.jn k (by omega)
          rw [jn_last hkb hl, hf] at this
          simpa using this
        obtain ⟨f, rfl, g1, g2, g3⟩ := h5 hp
        rw [hp] at hf
        refine ⟨ps ++ [(f, (k : Int))], none, ?_, ?_, chn_app _ _ _ _ h3 g1 g2, by rw [fin_app]; omega, fun h => (by simp [pst, hl] at h), fun _ => ⟨rfl, ?_⟩⟩
        · rw [sel_no hf, h1, List.map_append]; simp
        · rw [sel_yes (by simp [isLst, hkb, hl]), h2, List.map_append]; simp
        · rw [hk4, g3, tsum_app]; omega
      | false =>
        cases hp : pst l k with
        | true =>
          obtain ⟨f, rfl, g1, g2, g3⟩ := h5 hp
          rw [hp] at hf
          refine ⟨ps, some f, by rw [sel_no hf]; exact h1, by rw [sel_no (by simp [isLst, hl])]; exact h2, h3, by omega, fun _ => ⟨f, rfl, g1, by omega, by rw [hk4, g3]; push_cast; omega⟩, fun h => by simp [pst, hkb, hl] at h⟩
        | false =>
          obtain ⟨rfl, h7⟩ := h6 hp
          rw [hp] at hf
          refine ⟨ps, some (k : Int), ?_, by rw [sel_no (by simp [isLst, hl])]; exact h2, h3, by omega, fun _ => ⟨k, rfl, h4, by omega, by rw [hk4, h7]; push_cast; omega⟩, fun h => by simp [pst, hkb, hl] at h⟩
          rw [sel_yes hf, h1]; simp
/-- The ligatures of a valid part. -/
theorem lig_all {l : List Sg} (G : Good l) : ∃ ps : List (Int × Int), selP (fstB l) l.length = ps.map (·.1) ∧ selP (isLst l) l.length = ps.map (·.2) ∧ chn (-1) ps ∧ cntK l l.length 3 = tsum ps := by
  obtain ⟨ps, o, h1, h2, h3, _, _, h6⟩ := lig_inv G l.length (Nat.le_refl _)
  obtain ⟨rfl, h7⟩ := h6 (pst_end G)
  exact ⟨ps, by simpa using h1, h2, h3, h7⟩

end Go.Proofs.YtcomjcflllfobaaDoor

/- SignCounts: counts add up; ligatures have all tied signs. -/
namespace Go.Proofs.YtcomjcflllfobaaDoor
open Go.RowKit

theorem take_sum : ∀ (zs : List Int) (k : Nat), (∀ z ∈ zs, 0 ≤ z) → 0 ≤ sumI (zs.take k) ∧ sumI (zs.take k) ≤ sumI zs
  | [], k, _ => by simp [sumI]
  | z :: r, 0, h => by
    have := take_sum r r.length (fun x hx => h x (List.mem_cons_of_mem _ hx))
    rw [List.take_length] at this
    have h0 := h z (List.mem_cons_self ..)
    simp only [List.take_zero, sumI]; omega
  | z :: r, k + 1, h => by
    have := take_sum r k (fun x hx => h x (List.mem_cons_of_mem _ hx))
    have h0 := h z (List.mem_cons_self ..)
    simp only [List.take_succ_cons, sumI]; omega
theorem tsum_bd : ∀ (ps : List (Int × Int)) (e : Int) (k : Nat), chn e ps → 0 ≤ tsum (ps.take k) ∧ tsum (ps.take k) ≤ tsum ps
  | [], _, k, _ => by simp [tsum]
  | (x, y) :: r, _, 0, h => by
    have := tsum_bd r y r.length h.2.2
    rw [List.take_length] at this
    have := h.2.1
    simp only [List.take_zero, tsum]; omega
  | (x, y) :: r, _, k + 1, h => by
    have := tsum_bd r y k h.2.2
    have := h.2.1
    simp only [List.take_succ_cons, tsum]; omega
theorem fin_ge : ∀ (ps : List (Int × Int)) (e : Int) (k : Nat), chn e ps → e ≤ fin e (ps.take k)
  | [], e, k, _ => by simp [fin]
  | (x, y) :: r, e, 0, _ => by simp [fin]
  | (x, y) :: r, e, k + 1, h => by
    have := fin_ge r y k h.2.2
    have h1 := h.1
    have h2 := h.2.1
    simp only [List.take_succ_cons, fin]; omega
theorem SlP.intK {W : World} {p : Option Addr} {n cap : Nat} {zs : List Int} (h : SlP W 1 p n cap (ints zs)) {k : Nat} {z : Int} (hk : zs[k]? = some z) : ∃ b off, p = some ⟨b, off, none⟩ ∧ W.cell? ⟨b, off + k, none⟩ = some (.int .i64 z) := by
  have hn := h.len
  rw [ints_len] at hn
  have hlt := (List.getElem?_eq_some_iff.1 hk).1
  obtain ⟨b, off, e, _, hc⟩ := h.at_ (by omega)
  exact ⟨b, off, e, hc k _ (by rw [List.getElem?_map, hk]; rfl)⟩
theorem last_lt {l : List Sg} {ps : List (Int × Int)} (h : selP (isLst l) l.length = ps.map (·.2)) : ∀ pr ∈ ps, pr.2 < (l.length : Int) := fun pr hp => by
  have hm : pr.2 ∈ selP (isLst l) l.length := by rw [h]; exact List.mem_map_of_mem hp
  obtain ⟨i, h1, h2, _⟩ := sel_lt _ _ hm
  omega
theorem sel_asc2 (p : Nat → Bool) (k i : Nat) (a b : Int) (h1 : (selP p k)[i]? = some a) (h2 : (selP p k)[i + 1]? = some b) : a < b := by
  obtain ⟨g1, e1⟩ := List.getElem?_eq_some_iff.1 h1
  obtain ⟨g2, e2⟩ := List.getElem?_eq_some_iff.1 h2
  rw [← e1, ← e2]
  exact sel_asc k i g2
theorem get_eq {A : List Int} {i j : Nat} (hi : i < A.length) (hj : j < A.length) (e : i = j) {z : Int} (h : A[j] = z) : A[i] = z := by subst e; exact h
/-- What stands in memory: the part and four lists of numbers. -/
structure CtX (w y : World) (b8 : Nat) (nm : ByteArray) (l : List Sg) (q : Option Addr) (c : Nat) (C A F L : List Int) (nA n3 : Nat) (pc pa pf pl : Option Addr) (cc ca cf cl : Nat) : Prop where
  x : MvX w y b8 nm l q c
  c : SlP y 1 pc 12 cc (ints C)
  a : SlP y 1 pa nA ca (ints A)
  f : SlP y 1 pf n3 cf (ints F)
  l : SlP y 1 pl n3 cl (ints L)
theorem CtX.later {w y z : World} {b8 : Nat} {nm : ByteArray} {l : List Sg} {q : Option Addr} {c : Nat} {C A F L : List Int} {nA n3 : Nat} {pc pa pf pl : Option Addr} {cc ca cf cl : Nat} (h : CtX w y b8 nm l q c C A F L nA n3 pc pa pf pl cc ca cf cl) (k : Below y.heap.size y z) : CtX w z b8 nm l q c C A F L nA n3 pc pa pf pl cc ca cf cl :=
  ⟨h.x.later k, h.c.later k, h.a.later k, h.f.later k, h.l.later k⟩

set_option maxRecDepth 100000 in
set_option maxHeartbeats 16000000 in
theorem lcounts_any (p : Option Addr) (cap : Nat) (zs : List Int) (hz : ∀ z ∈ zs, -9223372036854775808 ≤ z ∧ z ≤ 9223372036854775807) (w : World) (h : SlP w 1 p zs.length cap (ints zs)) (T : TabS w) :
    Calls Tryd.prog 7 #[.slice p zs.length cap] w fun e w' => e = .returned (.bool true) ∧ Below w.heap.size w w' := by
  have TT := Lib.hid (show ∀ W, Below w.heap.size w W → TabS W from fun W b => T.later b)
  have KN := Lib.hid (lknown_any w T)
  have F1 := Lib.hid (fun W g => free_any p cap zs hz W g)
  have HL := Lib.hid h
  clear h T hz
  go_enter Tryd.func7, Tryd.ntmps7
  go_wp2_with fail
  refine KN.out.mono ?_
  rintro e w1 ⟨rfl, hb⟩
  replace HL := Lib.hid (HL.out.later hb)
  have B := Lib.hid hb
  clear hb KN
  go_wp2_with fail
  refine (F1.out _ HL.out).mono ?_
  rintro e w2 ⟨v, rfl, nm, l, q, c, rfl, hs1, hnm, hst, hl2, hl60, ho⟩
  obtain ⟨bq, oq, rfl, -, -⟩ := (own_sl ho.row rfl).at_ (by omega)
  have FX := Lib.hid (show MvX w (w2.alloc (ptO nm (some ⟨bq, oq, none⟩) l.length c)) w2.heap.size nm l (some ⟨bq, oq, none⟩) c from ⟨pt_new w2 nm (some ⟨bq, oq, none⟩) l.length c, (own_sl ho.row rfl).later (w_alloc (w_refl _) _), w_alloc (w_below B.out ho.bel) _⟩)
  have fit := (own_sl ho.row rfl).fit
  have mxc := (own_sl ho.row rfl).max
  have V := st_ok hst (by omega)
  have V1 : (chkV (nameV nm.data.toList) l).1 = 0 := by rw [hnm, V]
  have G := good_of V1
  obtain ⟨ps, hF, hLs, hch, h4⟩ := lig_all G
  have hC := cnt_sum G.one l.length (Nat.le_refl _)
  have hT := tim_len G.one l.length (Nat.le_refl _)
  have CNT := Lib.hid (fun W (g : SlP W 17 (some ⟨bq, oq, none⟩) l.length c (flatG l)) t => pcnt_any nm (by unfold maxLen; omega) l _ c W g t)
  have TIM := Lib.hid (fun W (g : SlP W 17 (some ⟨bq, oq, none⟩) l.length c (flatG l)) t => ptim_any nm (by unfold maxLen; omega) l _ c W g t)
  have LIG := Lib.hid (fun W (g : SlP W 17 (some ⟨bq, oq, none⟩) l.length c (flatG l)) t => plig_any nm (by unfold maxLen; omega) l _ c W g t)
  have e1 : cntR (nameV nm.data.toList) l = cntL l l.length := if_pos V1
  have e2 : timR (nameV nm.data.toList) l = selP (isTim l) l.length := if_pos V1
  have e3 : firR (nameV nm.data.toList) l = ps.map (·.1) := (if_pos V1).trans hF
  have e4 : lasR (nameV nm.data.toList) l = ps.map (·.2) := (if_pos V1).trans hLs
  rw [V1, e1] at CNT
  rw [V1, e2] at TIM
  rw [V1, e3, e4] at LIG
  have h12 : (cntL l l.length).length = 12 := by simp [cntL]
  have CB := Lib.hid (show ∀ z ∈ cntL l l.length, 0 ≤ z from fun z hz => by unfold cntL at hz; rw [List.mem_map] at hz; obtain ⟨j, _, rfl⟩ := hz; exact (cntK_le l l.length j).1)
  have A0 := cnt_at l l.length (j := 0) (by decide)
  have A1 := cnt_at l l.length (j := 1) (by decide)
  have A3 := cnt_at l l.length (j := 3) (by decide)
  have K0 := cntK_le l l.length 0
  have K1 := cntK_le l l.length 1
  have K3 := cntK_le l l.length 3
  have AB := Lib.hid (show ∀ z ∈ selP (isTim l) l.length, ∃ i : Nat, z = (i : Int) ∧ i < l.length ∧ ((l.getD i zS).kind = 1 ∨ (l.getD i zS).kind = 2 ∨ (l.getD i zS).kind = 4) from fun z hz => by obtain ⟨i, h1, h2, h3⟩ := sel_lt _ z hz; exact ⟨i, h1, h2, (isTim_iff (kind_ok (G.one i h2))).1 h3⟩)
  have AS := Lib.hid (sel_asc2 (isTim l) l.length)
  have LB := Lib.hid (last_lt hLs)
  generalize cntL l l.length = C at *
  generalize cntK l l.length 0 = k0 at *
  generalize cntK l l.length 1 = k1 at *
  generalize cntK l l.length 3 = k3 at *
  generalize selP (isTim l) l.length = A at *
  have HC := Lib.hid hC
  have HT := Lib.hid hT
  have H4 := Lib.hid h4
  have CH := Lib.hid hch
  have CH := Lib.hid hch
  clear ho hs1 hst HL F1 B V V1 G hF hLs e1 e2 e3 e4 hnm hch
  go_upto_region 3 with (fail)
  obtain ⟨b8, hb8⟩ : ∃ b, w2.heap.size = b := ⟨_, rfl⟩
  rw [hb8] at FX ⊢
  generalize w2.alloc (ptO nm (some ⟨bq, oq, none⟩) l.length c) = y at *
  clear hb8
  have j0 := FX.out.h.cell (j := 0) rfl
  have j1 := FX.out.h.cell (j := 1) rfl
  go_wp2_with fail
  refine (CNT.out _ FX.out.s (TT.out _ FX.out.b)).mono ?_
  rintro e w3 ⟨v, rfl, ho⟩
  obtain ⟨pc, cc, rfl, hsc⟩ := ho.sl
  replace FX := Lib.hid (FX.out.later ho.bel)
  have SC := Lib.hid hsc
  rw [h12] at SC
  clear ho hsc CNT j0 j1
  rw [h12]
  have j0 := FX.out.h.cell (j := 0) rfl
  have j1 := FX.out.h.cell (j := 1) rfl
  go_wp2_with fail
  refine (TIM.out _ FX.out.s (TT.out _ FX.out.b)).mono ?_
  rintro e w4 ⟨v, rfl, ho⟩
  obtain ⟨pa, ca, rfl, hsa⟩ := ho.sl
  replace FX := Lib.hid (FX.out.later ho.bel)
  replace SC := Lib.hid (SC.out.later ho.bel)
  have SA := Lib.hid hsa
  clear ho hsa TIM j0 j1
  have j0 := FX.out.h.cell (j := 0) rfl
  have j1 := FX.out.h.cell (j := 1) rfl
  go_wp2_with fail
  refine (LIG.out _ FX.out.s (TT.out _ FX.out.b)).mono ?_
  rintro e w5 ⟨v, u, rfl, ho, ho2⟩
  obtain ⟨pf, cf, rfl, hsf⟩ := ho.sl
  obtain ⟨pl, cl, rfl, hsl⟩ := ho2.sl
  replace FX := Lib.hid (FX.out.later ho.bel)
  replace SC := Lib.hid (SC.out.later ho.bel)
  replace SA := Lib.hid (SA.out.later ho.bel)
  have SF := Lib.hid hsf
  have SL := Lib.hid hsl
  clear ho ho2 hsf hsl LIG j0 j1
  have lf : (ps.map (·.1)).length = ps.length := List.length_map ..
  have ll : (ps.map (·.2)).length = ps.length := List.length_map ..
  rw [lf] at SF
  rw [ll] at SL
  rw [lf, ll]
  clear lf ll
  obtain ⟨n3, hn3⟩ : ∃ n, ps.length = n := ⟨_, rfl⟩
  rw [hn3] at SF SL ⊢
  have N3 := Lib.hid hn3
  clear hn3
  obtain ⟨nA, hnA⟩ : ∃ n, A.length = n := ⟨_, rfl⟩
  rw [hnA] at SA hT ⊢
  have NA := Lib.hid hnA
  clear hnA
  have HX := Lib.hid (show CtX w w5 b8 nm l (some ⟨bq, oq, none⟩) c C A (ps.map (·.1)) (ps.map (·.2)) nA n3 pc pa pf pl cc ca cf cl from ⟨FX.out, SC.out, SA.out, SF.out, SL.out⟩)
  have g1 := SC.out.fit
  have g2 := SC.out.max
  have g3 := SA.out.fit
  have g4 := SA.out.max
  have g5 := SF.out.fit
  have g6 := SF.out.max
  have g7 := SL.out.fit
  have g8 := SL.out.max
  clear FX SC SA SF SL
  have HC := Lib.hid hC
  have HT := Lib.hid hT
  have H4 := Lib.hid h4
  have nA4 : nA ≤ 180 := by omega
  have LL := Lib.hid (show l.length ≤ 60 from hl60)
  have h12' := Lib.hid h12
  have AA0 := Lib.hid A0
  have AA1 := Lib.hid A1
  have AA3 := Lib.hid A3
  have KK := Lib.hid (And.intro K0 (And.intro K1 K3))
  clear hC hT h4 A0 A1 A3 K0 K1 K3 h12 hl2 hl60 TT
  go_wp2_with fail
  go_loopw [12, 15] (fun s i wr => ∃ k : Nat, k ≤ 12 ∧ i = .int .i64 k ∧ s = .int .i64 (sumI (C.take k)) ∧ w5 = wr) (fun _ i _ => 12 - (intOf i).toNat)
  case atStart => exact ⟨0, by omega, rfl, rfl, rfl⟩
  case round =>
    rename World => wr
    obtain ⟨k, hk, rfl, rfl, rfl⟩ := hrel
    by_cases hlt : k < 12
    · have hlt' : (k : Int) < 12 := by omega
      have hk0 : (0 : Int) ≤ k := by omega
      have hkl : k < C.length := by rw [h12'.out]; exact hlt
      have hs := sumI_step hkl
      have hb0 := take_sum C k CB.out
      have hb1 := take_sum C (k + 1) CB.out
      have hcc := HC.out
      have hll := LL.out
      obtain ⟨bb, oo, rfl, hcell⟩ := HX.out.c.intK (List.getElem?_eq_getElem hkl)
      generalize C[k] = z at *
      obtain ⟨s1, hs1⟩ : ∃ s, sumI (C.take (k + 1)) = s := ⟨_, rfl⟩
      rw [hs1] at hs hb1
      have HS1 := Lib.hid hs1
      clear hs1
      generalize sumI (C.take k) = s0 at *
      have x1 : IntKind.i64.wrap (s0 + z) = s1 := by rw [IntWalk.i64_in _ (by omega)]; omega
      clear hs hb0 hb1 hcc hll hkl
      go_wp2_with fail
      go_roundw
      case rel => exact ⟨k + 1, by omega, by go_num, by rw [HS1.out], by trivial⟩
      case measure => simp [intOf]; omega
    · obtain rfl : k = 12 := by omega
      have hs12 : sumI (C.take 12) = (l.length : Int) := by rw [List.take_of_length_le (by rw [h12'.out]; exact Nat.le_refl _)]; exact HC.out
      rw [hs12]
      clear hs12 hk hlt
      go_wp2_with fail
      go_loopw [13, 14, 16] (fun t e i wr => ∃ k : Nat, k ≤ n3 ∧ i = .int .i64 k ∧ t = .int .i64 (tsum (ps.take k)) ∧ e = .int .i64 (fin (-1) (ps.take k)) ∧ Hid (CtX w wr b8 nm l (some ⟨bq, oq, none⟩) c C A (ps.map (·.1)) (ps.map (·.2)) nA n3 pc pa pf pl cc ca cf cl)) (fun _ _ i _ => n3 - (intOf i).toNat)
      case atStart => exact ⟨0, by omega, rfl, rfl, rfl, HX⟩
      case round =>
        rename World => wr
        clear HX
        obtain ⟨k, hk, rfl, rfl, rfl, HX⟩ := hrel
        by_cases hlt : k < n3
        · have hlt' : (k : Int) < n3 := by omega
          have hk0 : (0 : Int) ≤ k := by omega
          have hkp : k < ps.length := by rw [N3.out]; exact hlt
          obtain ⟨q1, q2, q3, q4⟩ := chn_at ps (-1) k hkp CH.out
          have q5 := tsum_bd ps (-1) k CH.out
          have q6 := fin_ge ps (-1) k CH.out
          have q7 := LB.out _ (List.getElem_mem hkp)
          have q8 := H4.out
          have q9 := KK.out
          have qa := LL.out
          have q10 := tsum_bd ps (-1) (k + 1) CH.out
          obtain ⟨bf, of, hpf, hcf⟩ := HX.out.f.intK (k := k) (z := ps[k].1) (by rw [List.getElem?_map, List.getElem?_eq_getElem hkp]; rfl)
          obtain ⟨bl, ol, hpl, hcl⟩ := HX.out.l.intK (k := k) (z := ps[k].2) (by rw [List.getElem?_map, List.getElem?_eq_getElem hkp]; rfl)
          obtain ⟨t1, ht1⟩ : ∃ t, tsum (ps.take (k + 1)) = t := ⟨_, rfl⟩
          rw [ht1] at q4 q10
          have HT1 := Lib.hid ht1
          clear ht1
          have HF1 := Lib.hid q3
          clear q3
          generalize ps[k].1 = fk at *
          generalize ps[k].2 = lk at *
          generalize tsum (ps.take k) = t0 at *
          generalize fin (-1) (ps.take k) = e0 at *
          subst hpf hpl
          have d1 : decide (fk ≤ e0) = false := decide_eq_false (by omega)
          have d2 : decide (lk ≤ fk) = false := decide_eq_false (by omega)
          have x1 : IntKind.i64.wrap (t0 + lk) = t0 + lk := IntWalk.i64_in _ (by omega)
          have x2 : IntKind.i64.wrap (t0 + lk - fk) = t0 + lk - fk := IntWalk.i64_in _ (by omega)
          have x3 : IntKind.i64.wrap (t0 + lk - fk + 1) = t1 := by rw [IntWalk.i64_in _ (by omega)]; omega
          clear q1 q2 q4 q5 q6 q7 q8 q9 qa q10
          go_wp2_with fail
          go_quiet (fail)
          go_wp2_with fail
          go_quiet (fail)
          go_wp2_with fail
          go_roundw
          case rel => exact ⟨k + 1, by omega, by go_num, by rw [HT1.out], by rw [HF1.out], Lib.hid (HX.out.later ⟨rfl, rfl, rfl, Nat.le_refl _, fun _ _ => rfl⟩)⟩
          case measure => simp [intOf]; omega
        · obtain rfl : k = n3 := by omega
          have ht3 : tsum (ps.take k) = k3 := by rw [List.take_of_length_le (by rw [N3.out]; exact Nat.le_refl _)]; exact H4.out.symm
          rw [ht3]
          generalize fin (-1) (ps.take k) = e9
          clear ht3 hk hlt
          go_wp2_with fail
          go_loopw [17] (fun i wr => ∃ j : Nat, j ≤ nA ∧ i = .int .i64 j ∧ Hid (CtX w wr b8 nm l (some ⟨bq, oq, none⟩) c C A (ps.map (·.1)) (ps.map (·.2)) nA k pc pa pf pl cc ca cf cl)) (fun i _ => nA - (intOf i).toNat)
          case atStart => exact ⟨0, by omega, rfl, HX⟩
          case round =>
            rename World => wz
            clear HX
            obtain ⟨j, hj, rfl, HX⟩ := hrel
            by_cases hlt : j < nA
            · skip
              have hlt' : (j : Int) < nA := by omega
              have hj0 : (0 : Int) ≤ j := by omega
              have hjA : j < A.length := by rw [NA.out]; exact hlt
              obtain ⟨i, hi1, hi2, hi3⟩ := AB.out _ (List.getElem_mem hjA); have HI := Lib.hid (show A[j]? = some (i : Int) by rw [List.getElem?_eq_getElem hjA, hi1])
              obtain ⟨ba, oa, hpa, hca⟩ := HX.out.a.intK (k := j) (z := (i : Int)) (by rw [List.getElem?_eq_getElem hjA, hi1])
              have i0 : (0 : Int) ≤ i := by omega
              have i1 : (i : Int) < l.length := by omega
              have d2 : decide ((i : Int) < 0) = false := decide_eq_false (by omega)
              have d3 : decide ((l.length : Int) ≤ i) = false := decide_eq_false (by omega)
              have d3n : decide (l.length ≤ i) = false := decide_eq_false (by omega)
              obtain ⟨b', o', eq, -, hsi⟩ := HX.out.x.s.sg (List.getElem?_eq_getElem hi2)
              injection eq with eq
              injection eq with eq1 eq2 _
              subst eq1 eq2
              have gi := hsi.e0
              rw [List.getD_eq_getElem?_getD, List.getElem?_eq_getElem hi2] at hi3
              simp only [Option.getD_some] at hi3
              have m1 := HX.out.x.h.cell (j := 1) rfl
              clear hsi
              have KI := Lib.hid (show ∃ z, l[i].kind = z ∧ (z = 1 ∨ z = 2 ∨ z = 4) from ⟨_, rfl, hi3⟩)
              have GI := Lib.hid gi
              clear gi hi3
              go_upto_region 22 with (fail)
              go_cut [147] (fun s wx => s = .bool false ∧ Hid (CtX w wx b8 nm l (some ⟨bq, oq, none⟩) c C A (ps.map (·.1)) (ps.map (·.2)) nA k pc pa pf pl cc ca cf cl))
              case first =>
                clear GI KI
                rcases Nat.eq_zero_or_pos j with hz0 | hz0
                · have d0n : decide (0 < j) = false := decide_eq_false (by omega)
                  have d0 : decide ((0 : Int) < (j : Int)) = false := decide_eq_false (by omega)
                  subst hpa
                  clear hi1 hz0 hjA
                  refine wp_region_held (S := fun W => W.cell? ⟨ba, oa + j, none⟩ = some (.int .i64 (i : Int)) ∧ W.cell? ⟨b8, 1, none⟩ = some (.slice (some ⟨bq, oq, none⟩) l.length c)) (by kernel_rfl) ?_
                  change wpAnyH _ _ _ _ _ _ _ _ (World.drew _)
                  have HZ := Lib.hid (HX.out.later (w_refl wz).drew)
                  have ZS := Lib.hid (show (fun W : World => W.cell? ⟨ba, oa + j, none⟩ = some (.int .i64 (i : Int)) ∧ W.cell? ⟨b8, 1, none⟩ = some (.slice (some ⟨bq, oq, none⟩) l.length c)) (World.drew wz) from ⟨cell_later (w_refl wz).drew hca, cell_later (w_refl wz).drew m1⟩)
                  generalize World.drew wz = z0 at *
                  clear HX
                  refine wpAnyH_take (i := 0) (v := .int .i64 (j : Int)) rfl (by kernel_rfl) (by kernel_rfl) (by kernel_rfl) (fun _ _ _ h => h) (run_yields _ (by kernel_rfl) (fun _ _ => by kernel_rfl)) ZS.out ?_
                  refine wpAnyH_take (i := 1) (v := .bool false) rfl (by kernel_rfl) (by kernel_rfl) (by kernel_rfl) (fun _ _ _ h => h) (Or.inl ⟨by kernel_rfl, fun _ _ => by go_simp⟩) ZS.out ?_
                  refine wpAnyH_take (i := 2) (v := .bool false) rfl (by kernel_rfl) (by kernel_rfl) (by kernel_rfl) (fun _ _ _ h => h) (run_yields _ (by kernel_rfl) (fun _ _ => by kernel_rfl)) ZS.out ?_
                  refine wpAnyH_take (i := 3) (v := undef) rfl (by kernel_rfl) (by kernel_rfl) (by kernel_rfl) (fun _ _ _ h => h) (Or.inr ⟨by kernel_rfl, rfl⟩) ZS.out ?_
                  refine wpAnyH_take (i := 4) (v := undef) rfl (by kernel_rfl) (by kernel_rfl) (by kernel_rfl) (fun _ _ _ h => h) (Or.inr ⟨by kernel_rfl, rfl⟩) ZS.out ?_
                  refine wpAnyH_take (i := 5) (v := undef) rfl (by kernel_rfl) (by kernel_rfl) (by kernel_rfl) (fun _ _ _ h => h) (Or.inr ⟨by kernel_rfl, rfl⟩) ZS.out ?_
                  refine wpAnyH_take (i := 6) (v := undef) rfl (by kernel_rfl) (by kernel_rfl) (by kernel_rfl) (fun _ _ _ h => h) (Or.inr ⟨by kernel_rfl, rfl⟩) ZS.out ?_
                  refine wpAnyH_take (i := 7) (v := undef) rfl (by kernel_rfl) (by kernel_rfl) (by kernel_rfl) (fun _ _ _ h => h) (Or.inr ⟨by kernel_rfl, rfl⟩) ZS.out ?_
                  refine wpAnyH_take (i := 8) (v := undef) rfl (by kernel_rfl) (by kernel_rfl) (by kernel_rfl) (fun _ _ _ h => h) (Or.inr ⟨by kernel_rfl, rfl⟩) ZS.out ?_
                  refine wpAnyH_take (i := 9) (v := undef) rfl (by kernel_rfl) (by kernel_rfl) (by kernel_rfl) (fun _ _ _ h => h) (Or.inr ⟨by kernel_rfl, rfl⟩) ZS.out ?_
                  refine wpAnyH_take (i := 10) (v := undef) rfl (by kernel_rfl) (by kernel_rfl) (by kernel_rfl) (fun _ _ _ h => h) (Or.inr ⟨by kernel_rfl, rfl⟩) ZS.out ?_
                  refine wpAnyH_take (i := 11) (v := undef) rfl (by kernel_rfl) (by kernel_rfl) (by kernel_rfl) (fun _ _ _ h => h) (Or.inr ⟨by kernel_rfl, rfl⟩) ZS.out ?_
                  refine wpAnyH_take (i := 12) (v := undef) rfl (by kernel_rfl) (by kernel_rfl) (by kernel_rfl) (fun _ _ _ h => h) (Or.inr ⟨by kernel_rfl, rfl⟩) ZS.out ?_
                  refine wpAnyH_take (i := 13) (v := .bool false) rfl (by kernel_rfl) (by kernel_rfl) (by kernel_rfl) (fun _ _ _ h => h) (run_yields _ (by kernel_rfl) (fun _ _ => by kernel_rfl)) ZS.out ?_
                  refine wpAnyH_take (i := 14) (v := .bool false) rfl (by kernel_rfl) (by kernel_rfl) (by kernel_rfl) (fun _ _ _ h => h) (run_yields _ (by kernel_rfl) (fun _ _ => by kernel_rfl)) ZS.out ?_
                  refine wpAnyH_take (i := 15) (v := .slice (some ⟨ba, oa, none⟩) nA ca) rfl (by kernel_rfl) (by kernel_rfl) (by kernel_rfl) (fun _ _ _ h => h) (run_yields _ (by kernel_rfl) (fun _ _ => by kernel_rfl)) ZS.out ?_
                  refine wpAnyH_take (i := 16) (v := .int .i64 (j : Int)) rfl (by kernel_rfl) (by kernel_rfl) (by kernel_rfl) (fun _ _ _ h => h) (run_yields _ (by kernel_rfl) (fun _ _ => by kernel_rfl)) ZS.out ?_
                  refine wpAnyH_take (i := 17) (v := .pointer (some ⟨ba, oa + j, none⟩)) rfl (by kernel_rfl) (by kernel_rfl) (by kernel_rfl) (fun _ _ _ h => h) (ix_yields 45 (.tmp 132) (.tmp 133) (.slice (some ⟨ba, oa, none⟩) nA ca) ((j : Int)) _ (by kernel_rfl) rfl (by kernel_rfl) (by kernel_rfl) (ix_int _ _ _ _ _ _ rfl hlt)) ZS.out ?_
                  refine wpAnyH_take (i := 18) (v := .int .i64 ((i : Int))) rfl (by kernel_rfl) (by kernel_rfl) (by kernel_rfl) (fun _ _ _ h => h) (ld_yields 3 (.tmp 134) ⟨ba, oa + j, none⟩ _ (by kernel_rfl) rfl (by kernel_rfl) (ld_int _ _) (fun _ h => h.1)) ZS.out ?_
                  refine wpAnyH_take (i := 19) (v := .bool false) rfl (by kernel_rfl) (by kernel_rfl) (by kernel_rfl) (fun _ _ _ h => h) (Or.inl ⟨by kernel_rfl, fun _ _ => by go_simp⟩) ZS.out ?_
                  refine wpAnyH_take (i := 20) (v := .bool false) rfl (by kernel_rfl) (by kernel_rfl) (by kernel_rfl) (fun _ _ _ h => h) (run_yields _ (by kernel_rfl) (fun _ _ => by kernel_rfl)) ZS.out ?_
                  refine wpAnyH_take (i := 21) (v := .bool false) rfl (by kernel_rfl) (by kernel_rfl) (by kernel_rfl) (fun _ _ _ h => h) (run_yields _ (by kernel_rfl) (fun _ _ => by kernel_rfl)) ZS.out ?_
                  refine wpAnyH_take (i := 22) (v := .slice (some ⟨ba, oa, none⟩) nA ca) rfl (by kernel_rfl) (by kernel_rfl) (by kernel_rfl) (fun _ _ _ h => h) (run_yields _ (by kernel_rfl) (fun _ _ => by kernel_rfl)) ZS.out ?_
                  refine wpAnyH_take (i := 23) (v := .int .i64 (j : Int)) rfl (by kernel_rfl) (by kernel_rfl) (by kernel_rfl) (fun _ _ _ h => h) (run_yields _ (by kernel_rfl) (fun _ _ => by kernel_rfl)) ZS.out ?_
                  refine wpAnyH_take (i := 24) (v := .pointer (some ⟨ba, oa + j, none⟩)) rfl (by kernel_rfl) (by kernel_rfl) (by kernel_rfl) (fun _ _ _ h => h) (ix_yields 45 (.tmp 139) (.tmp 140) (.slice (some ⟨ba, oa, none⟩) nA ca) ((j : Int)) _ (by kernel_rfl) rfl (by kernel_rfl) (by kernel_rfl) (ix_int _ _ _ _ _ _ rfl hlt)) ZS.out ?_
                  refine wpAnyH_take (i := 25) (v := .int .i64 ((i : Int))) rfl (by kernel_rfl) (by kernel_rfl) (by kernel_rfl) (fun _ _ _ h => h) (ld_yields 3 (.tmp 141) ⟨ba, oa + j, none⟩ _ (by kernel_rfl) rfl (by kernel_rfl) (ld_int _ _) (fun _ h => h.1)) ZS.out ?_
                  refine wpAnyH_take (i := 26) (v := .pointer (some ⟨b8, 1, none⟩)) rfl (by kernel_rfl) (by kernel_rfl) (by kernel_rfl) (fun _ _ _ h => h) (run_yields _ (by kernel_rfl) (fun _ _ => by kernel_rfl)) ZS.out ?_
                  refine wpAnyH_take (i := 27) (v := .slice (some ⟨bq, oq, none⟩) l.length c) rfl (by kernel_rfl) (by kernel_rfl) (by kernel_rfl) (fun _ _ _ h => h) (ld_yields 38 (.tmp 143) ⟨b8, 1, none⟩ _ (by kernel_rfl) rfl (by kernel_rfl) (ld_sgs _ _ _ _) (fun _ h => h.2)) ZS.out ?_
                  refine wpAnyH_take (i := 28) (v := .int .i64 (l.length : Int)) rfl (by kernel_rfl) (by kernel_rfl) (by kernel_rfl) (fun _ _ _ h => h) (run_yields _ (by kernel_rfl) (fun _ _ => by kernel_rfl)) ZS.out ?_
                  refine wpAnyH_take (i := 29) (v := .bool false) rfl (by kernel_rfl) (by kernel_rfl) (by kernel_rfl) (fun _ _ _ h => h) (Or.inl ⟨by kernel_rfl, fun _ _ => by go_simp⟩) ZS.out ?_
                  refine wpAnyH_take (i := 30) (v := .bool false) rfl (by kernel_rfl) (by kernel_rfl) (by kernel_rfl) (fun _ _ _ h => h) (run_yields _ (by kernel_rfl) (fun _ _ => by kernel_rfl)) ZS.out ?_
                  refine wpAnyH_done (by kernel_rfl) ?_ _
                  clear ZS
                  go_wp2_with fail
                  go_meet
                  exact ⟨rfl, HZ⟩
                · have d0n : decide (0 < j) = true := decide_eq_true hz0
                  have d0 : decide ((0 : Int) < (j : Int)) = true := decide_eq_true (by omega)
                  obtain ⟨j2, hj2⟩ : ∃ t, j = t + 1 := ⟨j - 1, by omega⟩
                  have hjB : j2 < A.length := by omega
                  obtain ⟨i2, hi21, hi22, _⟩ := AB.out _ (List.getElem_mem hjB)
                  have hai := get_eq (show j2 + 1 < A.length by omega) hjA hj2.symm hi1
                  have has := AS.out j2 (i2 : Int) (i : Int) (by rw [List.getElem?_eq_getElem hjB, hi21]) (by rw [List.getElem?_eq_getElem (show j2 + 1 < A.length by omega), hai])
                  obtain ⟨ba', oa', hpa', hca'⟩ := HX.out.a.intK (k := j2) (z := (i2 : Int)) (by rw [List.getElem?_eq_getElem hjB, hi21])
                  rw [hpa] at hpa'
                  injection hpa' with hpa'
                  injection hpa' with eq1 eq2 _
                  subst eq1 eq2
                  subst hpa
                  have y1 : (j : Int) - 1 = (j2 : Int) := by omega
                  have y2 : IntKind.i64.wrap ((j : Int) - 1) = (j2 : Int) := by rw [y1]; exact IntWalk.i64_in _ (by omega)
                  have y3 : IntKind.i64.wrap (j2 : Int) = (j2 : Int) := IntWalk.i64_in _ (by omega)
                  have hlt2 : j2 < nA := by omega
                  have d1 : decide ((i : Int) ≤ (i2 : Int)) = false := decide_eq_false (by omega)
                  have d1n : decide (i ≤ i2) = false := decide_eq_false (by omega)
                  clear has hai hi1 hi21 hi22 hz0 hjA hjB hj2
                  refine wp_region_held (S := fun W => W.cell? ⟨ba, oa + j, none⟩ = some (.int .i64 (i : Int)) ∧ W.cell? ⟨b8, 1, none⟩ = some (.slice (some ⟨bq, oq, none⟩) l.length c) ∧ W.cell? ⟨ba, oa + j2, none⟩ = some (.int .i64 (i2 : Int))) (by kernel_rfl) ?_
                  change wpAnyH _ _ _ _ _ _ _ _ (World.drew _)
                  have HZ := Lib.hid (HX.out.later (w_refl wz).drew)
                  have ZS := Lib.hid (show (fun W : World => W.cell? ⟨ba, oa + j, none⟩ = some (.int .i64 (i : Int)) ∧ W.cell? ⟨b8, 1, none⟩ = some (.slice (some ⟨bq, oq, none⟩) l.length c) ∧ W.cell? ⟨ba, oa + j2, none⟩ = some (.int .i64 (i2 : Int))) (World.drew wz) from ⟨cell_later (w_refl wz).drew hca, cell_later (w_refl wz).drew m1, cell_later (w_refl wz).drew hca'⟩)
                  generalize World.drew wz = z0 at *
                  clear HX
                  refine wpAnyH_take (i := 0) (v := .int .i64 (j : Int)) rfl (by kernel_rfl) (by kernel_rfl) (by kernel_rfl) (fun _ _ _ h => h) (run_yields _ (by kernel_rfl) (fun _ _ => by kernel_rfl)) ZS.out ?_
                  refine wpAnyH_take (i := 1) (v := .bool true) rfl (by kernel_rfl) (by kernel_rfl) (by kernel_rfl) (fun _ _ _ h => h) (Or.inl ⟨by kernel_rfl, fun _ _ => by go_simp⟩) ZS.out ?_
                  refine wpAnyH_take (i := 2) (v := .bool true) rfl (by kernel_rfl) (by kernel_rfl) (by kernel_rfl) (fun _ _ _ h => h) (run_yields _ (by kernel_rfl) (fun _ _ => by kernel_rfl)) ZS.out ?_
                  refine wpAnyH_take (i := 3) (v := .slice (some ⟨ba, oa, none⟩) nA ca) rfl (by kernel_rfl) (by kernel_rfl) (by kernel_rfl) (fun _ _ _ h => h) (run_yields _ (by kernel_rfl) (fun _ _ => by kernel_rfl)) ZS.out ?_
                  refine wpAnyH_take (i := 4) (v := .int .i64 (j : Int)) rfl (by kernel_rfl) (by kernel_rfl) (by kernel_rfl) (fun _ _ _ h => h) (run_yields _ (by kernel_rfl) (fun _ _ => by kernel_rfl)) ZS.out ?_
                  refine wpAnyH_take (i := 5) (v := .pointer (some ⟨ba, oa + j, none⟩)) rfl (by kernel_rfl) (by kernel_rfl) (by kernel_rfl) (fun _ _ _ h => h) (ix_yields 45 (.tmp 120) (.tmp 121) (.slice (some ⟨ba, oa, none⟩) nA ca) ((j : Int)) _ (by kernel_rfl) rfl (by kernel_rfl) (by kernel_rfl) (ix_int _ _ _ _ _ _ rfl hlt)) ZS.out ?_
                  refine wpAnyH_take (i := 6) (v := .int .i64 ((i : Int))) rfl (by kernel_rfl) (by kernel_rfl) (by kernel_rfl) (fun _ _ _ h => h) (ld_yields 3 (.tmp 122) ⟨ba, oa + j, none⟩ _ (by kernel_rfl) rfl (by kernel_rfl) (ld_int _ _) (fun _ h => h.1)) ZS.out ?_
                  refine wpAnyH_take (i := 7) (v := .slice (some ⟨ba, oa, none⟩) nA ca) rfl (by kernel_rfl) (by kernel_rfl) (by kernel_rfl) (fun _ _ _ h => h) (run_yields _ (by kernel_rfl) (fun _ _ => by kernel_rfl)) ZS.out ?_
                  refine wpAnyH_take (i := 8) (v := .int .i64 (j : Int)) rfl (by kernel_rfl) (by kernel_rfl) (by kernel_rfl) (fun _ _ _ h => h) (run_yields _ (by kernel_rfl) (fun _ _ => by kernel_rfl)) ZS.out ?_
                  refine wpAnyH_take (i := 9) (v := .int .i64 (j2 : Int)) rfl (by kernel_rfl) (by kernel_rfl) (by kernel_rfl) (fun _ _ _ h => h) (Or.inl ⟨by kernel_rfl, fun _ _ => by go_simp⟩) ZS.out ?_
                  refine wpAnyH_take (i := 10) (v := .pointer (some ⟨ba, oa + j2, none⟩)) rfl (by kernel_rfl) (by kernel_rfl) (by kernel_rfl) (fun _ _ _ h => h) (ix_yields 45 (.tmp 124) (.tmp 126) (.slice (some ⟨ba, oa, none⟩) nA ca) ((j2 : Int)) _ (by kernel_rfl) rfl (by kernel_rfl) (by kernel_rfl) (ix_int _ _ _ _ _ _ rfl hlt2)) ZS.out ?_
                  refine wpAnyH_take (i := 11) (v := .int .i64 ((i2 : Int))) rfl (by kernel_rfl) (by kernel_rfl) (by kernel_rfl) (fun _ _ _ h => h) (ld_yields 3 (.tmp 127) ⟨ba, oa + j2, none⟩ _ (by kernel_rfl) rfl (by kernel_rfl) (ld_int _ _) (fun _ h => h.2.2)) ZS.out ?_
                  refine wpAnyH_take (i := 12) (v := .bool false) rfl (by kernel_rfl) (by kernel_rfl) (by kernel_rfl) (fun _ _ _ h => h) (Or.inl ⟨by kernel_rfl, fun _ _ => by go_simp⟩) ZS.out ?_
                  refine wpAnyH_take (i := 13) (v := .bool false) rfl (by kernel_rfl) (by kernel_rfl) (by kernel_rfl) (fun _ _ _ h => h) (run_yields _ (by kernel_rfl) (fun _ _ => by kernel_rfl)) ZS.out ?_
                  refine wpAnyH_take (i := 14) (v := .bool false) rfl (by kernel_rfl) (by kernel_rfl) (by kernel_rfl) (fun _ _ _ h => h) (run_yields _ (by kernel_rfl) (fun _ _ => by kernel_rfl)) ZS.out ?_
                  refine wpAnyH_take (i := 15) (v := .slice (some ⟨ba, oa, none⟩) nA ca) rfl (by kernel_rfl) (by kernel_rfl) (by kernel_rfl) (fun _ _ _ h => h) (run_yields _ (by kernel_rfl) (fun _ _ => by kernel_rfl)) ZS.out ?_
                  refine wpAnyH_take (i := 16) (v := .int .i64 (j : Int)) rfl (by kernel_rfl) (by kernel_rfl) (by kernel_rfl) (fun _ _ _ h => h) (run_yields _ (by kernel_rfl) (fun _ _ => by kernel_rfl)) ZS.out ?_
                  refine wpAnyH_take (i := 17) (v := .pointer (some ⟨ba, oa + j, none⟩)) rfl (by kernel_rfl) (by kernel_rfl) (by kernel_rfl) (fun _ _ _ h => h) (ix_yields 45 (.tmp 132) (.tmp 133) (.slice (some ⟨ba, oa, none⟩) nA ca) ((j : Int)) _ (by kernel_rfl) rfl (by kernel_rfl) (by kernel_rfl) (ix_int _ _ _ _ _ _ rfl hlt)) ZS.out ?_
                  refine wpAnyH_take (i := 18) (v := .int .i64 ((i : Int))) rfl (by kernel_rfl) (by kernel_rfl) (by kernel_rfl) (fun _ _ _ h => h) (ld_yields 3 (.tmp 134) ⟨ba, oa + j, none⟩ _ (by kernel_rfl) rfl (by kernel_rfl) (ld_int _ _) (fun _ h => h.1)) ZS.out ?_
                  refine wpAnyH_take (i := 19) (v := .bool false) rfl (by kernel_rfl) (by kernel_rfl) (by kernel_rfl) (fun _ _ _ h => h) (Or.inl ⟨by kernel_rfl, fun _ _ => by go_simp⟩) ZS.out ?_
                  refine wpAnyH_take (i := 20) (v := .bool false) rfl (by kernel_rfl) (by kernel_rfl) (by kernel_rfl) (fun _ _ _ h => h) (run_yields _ (by kernel_rfl) (fun _ _ => by kernel_rfl)) ZS.out ?_
                  refine wpAnyH_take (i := 21) (v := .bool false) rfl (by kernel_rfl) (by kernel_rfl) (by kernel_rfl) (fun _ _ _ h => h) (run_yields _ (by kernel_rfl) (fun _ _ => by kernel_rfl)) ZS.out ?_
                  refine wpAnyH_take (i := 22) (v := .slice (some ⟨ba, oa, none⟩) nA ca) rfl (by kernel_rfl) (by kernel_rfl) (by kernel_rfl) (fun _ _ _ h => h) (run_yields _ (by kernel_rfl) (fun _ _ => by kernel_rfl)) ZS.out ?_
                  refine wpAnyH_take (i := 23) (v := .int .i64 (j : Int)) rfl (by kernel_rfl) (by kernel_rfl) (by kernel_rfl) (fun _ _ _ h => h) (run_yields _ (by kernel_rfl) (fun _ _ => by kernel_rfl)) ZS.out ?_
                  refine wpAnyH_take (i := 24) (v := .pointer (some ⟨ba, oa + j, none⟩)) rfl (by kernel_rfl) (by kernel_rfl) (by kernel_rfl) (fun _ _ _ h => h) (ix_yields 45 (.tmp 139) (.tmp 140) (.slice (some ⟨ba, oa, none⟩) nA ca) ((j : Int)) _ (by kernel_rfl) rfl (by kernel_rfl) (by kernel_rfl) (ix_int _ _ _ _ _ _ rfl hlt)) ZS.out ?_
                  refine wpAnyH_take (i := 25) (v := .int .i64 ((i : Int))) rfl (by kernel_rfl) (by kernel_rfl) (by kernel_rfl) (fun _ _ _ h => h) (ld_yields 3 (.tmp 141) ⟨ba, oa + j, none⟩ _ (by kernel_rfl) rfl (by kernel_rfl) (ld_int _ _) (fun _ h => h.1)) ZS.out ?_
                  refine wpAnyH_take (i := 26) (v := .pointer (some ⟨b8, 1, none⟩)) rfl (by kernel_rfl) (by kernel_rfl) (by kernel_rfl) (fun _ _ _ h => h) (run_yields _ (by kernel_rfl) (fun _ _ => by kernel_rfl)) ZS.out ?_
                  refine wpAnyH_take (i := 27) (v := .slice (some ⟨bq, oq, none⟩) l.length c) rfl (by kernel_rfl) (by kernel_rfl) (by kernel_rfl) (fun _ _ _ h => h) (ld_yields 38 (.tmp 143) ⟨b8, 1, none⟩ _ (by kernel_rfl) rfl (by kernel_rfl) (ld_sgs _ _ _ _) (fun _ h => h.2.1)) ZS.out ?_
                  refine wpAnyH_take (i := 28) (v := .int .i64 (l.length : Int)) rfl (by kernel_rfl) (by kernel_rfl) (by kernel_rfl) (fun _ _ _ h => h) (run_yields _ (by kernel_rfl) (fun _ _ => by kernel_rfl)) ZS.out ?_
                  refine wpAnyH_take (i := 29) (v := .bool false) rfl (by kernel_rfl) (by kernel_rfl) (by kernel_rfl) (fun _ _ _ h => h) (Or.inl ⟨by kernel_rfl, fun _ _ => by go_simp⟩) ZS.out ?_
                  refine wpAnyH_take (i := 30) (v := .bool false) rfl (by kernel_rfl) (by kernel_rfl) (by kernel_rfl) (fun _ _ _ h => h) (run_yields _ (by kernel_rfl) (fun _ _ => by kernel_rfl)) ZS.out ?_
                  refine wpAnyH_done (by kernel_rfl) ?_ _
                  clear ZS
                  go_wp2_with fail
                  go_meet
                  exact ⟨rfl, HZ⟩
              case rest =>
                obtain ⟨rfl, HX⟩ := hcut
                rename World => wy
                clear m1 hca hi1
                go_upto_region 24 with (fail)
                have m1 := HX.out.x.h.cell (j := 1) rfl
                obtain ⟨ba', oa', hpa', hca⟩ := HX.out.a.intK (k := j) (z := (i : Int)) HI.out
                rw [hpa] at hpa'
                injection hpa' with hpa'
                injection hpa' with eq1 eq2 _
                subst eq1 eq2
                subst hpa
                obtain ⟨b', o', eq, -, hsi⟩ := HX.out.x.s.sg (List.getElem?_eq_getElem hi2)
                injection eq with eq
                injection eq with eq1 eq2 _
                subst eq1 eq2
                have gi := hsi.e0
                clear hsi
                obtain ⟨ki, hki, hk3⟩ := KI.out
                rw [hki] at gi
                have K3 := Lib.hid hk3
                clear hki hk3 KI GI
                go_cut [18] (fun s wx => s = .int .i64 ki ∧ Hid (CtX w wx b8 nm l (some ⟨bq, oq, none⟩) c C A (ps.map (·.1)) (ps.map (·.2)) nA k pc (some ⟨ba, oa, none⟩) pf pl cc ca cf cl))
                case first =>
                  refine wp_region_held (S := fun W => W.cell? ⟨ba, oa + j, none⟩ = some (.int .i64 (i : Int)) ∧ W.cell? ⟨b8, 1, none⟩ = some (.slice (some ⟨bq, oq, none⟩) l.length c) ∧ W.cell? ⟨bq, oq + i * 17, none⟩ = some (.int .i64 ki)) (by kernel_rfl) ?_
                  change wpAnyH _ _ _ _ _ _ _ _ (World.drew _)
                  have HZ := Lib.hid (HX.out.later (w_refl wy).drew)
                  have ZS := Lib.hid (show (fun W : World => W.cell? ⟨ba, oa + j, none⟩ = some (.int .i64 (i : Int)) ∧ W.cell? ⟨b8, 1, none⟩ = some (.slice (some ⟨bq, oq, none⟩) l.length c) ∧ W.cell? ⟨bq, oq + i * 17, none⟩ = some (.int .i64 ki)) (World.drew wy) from ⟨cell_later (w_refl wy).drew hca, cell_later (w_refl wy).drew m1, cell_later (w_refl wy).drew gi⟩)
                  generalize World.drew wy = z0 at *
                  clear HX
                  refine wpAnyH_take (i := 0) (v := .pointer (some ⟨b8, 1, none⟩)) rfl (by kernel_rfl) (by kernel_rfl) (by kernel_rfl) (fun _ _ _ h => h) (run_yields _ (by kernel_rfl) (fun _ _ => by kernel_rfl)) ZS.out ?_
                  refine wpAnyH_take (i := 1) (v := .slice (some ⟨bq, oq, none⟩) l.length c) rfl (by kernel_rfl) (by kernel_rfl) (by kernel_rfl) (fun _ _ _ h => h) (ld_yields 38 (.tmp 148) ⟨b8, 1, none⟩ _ (by kernel_rfl) rfl (by kernel_rfl) (ld_sgs _ _ _ _) (fun _ h => h.2.1)) ZS.out ?_
                  refine wpAnyH_take (i := 2) (v := .slice (some ⟨ba, oa, none⟩) nA ca) rfl (by kernel_rfl) (by kernel_rfl) (by kernel_rfl) (fun _ _ _ h => h) (run_yields _ (by kernel_rfl) (fun _ _ => by kernel_rfl)) ZS.out ?_
                  refine wpAnyH_take (i := 3) (v := .int .i64 (j : Int)) rfl (by kernel_rfl) (by kernel_rfl) (by kernel_rfl) (fun _ _ _ h => h) (run_yields _ (by kernel_rfl) (fun _ _ => by kernel_rfl)) ZS.out ?_
                  refine wpAnyH_take (i := 4) (v := .pointer (some ⟨ba, oa + j, none⟩)) rfl (by kernel_rfl) (by kernel_rfl) (by kernel_rfl) (fun _ _ _ h => h) (ix_yields 45 (.tmp 150) (.tmp 151) (.slice (some ⟨ba, oa, none⟩) nA ca) ((j : Int)) _ (by kernel_rfl) rfl (by kernel_rfl) (by kernel_rfl) (ix_int _ _ _ _ _ _ rfl hlt)) ZS.out ?_
                  refine wpAnyH_take (i := 5) (v := .int .i64 ((i : Int))) rfl (by kernel_rfl) (by kernel_rfl) (by kernel_rfl) (fun _ _ _ h => h) (ld_yields 3 (.tmp 152) ⟨ba, oa + j, none⟩ _ (by kernel_rfl) rfl (by kernel_rfl) (ld_int _ _) (fun _ h => h.1)) ZS.out ?_
                  refine wpAnyH_take (i := 6) (v := .pointer (some ⟨bq, oq + i * 17, none⟩)) rfl (by kernel_rfl) (by kernel_rfl) (by kernel_rfl) (fun _ _ _ h => h) (ix_yields 38 (.tmp 149) (.tmp 153) (.slice (some ⟨bq, oq, none⟩) l.length c) (i : Int) _ (by kernel_rfl) rfl (by kernel_rfl) (by kernel_rfl) (ix_sgn _ _ _ _ _ _ rfl hi2)) ZS.out ?_
                  refine wpAnyH_take (i := 7) (v := .pointer (some ⟨bq, oq + i * 17, none⟩)) rfl (by kernel_rfl) (by kernel_rfl) (by kernel_rfl) (fun _ _ _ h => h) (run_yields _ (by kernel_rfl) (fun _ _ => by kernel_rfl)) ZS.out ?_
                  refine wpAnyH_take (i := 8) (v := .int .i64 (ki)) rfl (by kernel_rfl) (by kernel_rfl) (by kernel_rfl) (fun _ _ _ h => h) (ld_yields 3 (.tmp 155) ⟨bq, oq + i * 17, none⟩ _ (by kernel_rfl) rfl (by kernel_rfl) (ld_int _ _) (fun _ h => h.2.2)) ZS.out ?_
                  refine wpAnyH_take (i := 9) (v := .int .i64 ki) rfl (by kernel_rfl) (by kernel_rfl) (by kernel_rfl) (fun _ _ _ h => h) (run_yields _ (by kernel_rfl) (fun _ _ => by kernel_rfl)) ZS.out ?_
                  refine wpAnyH_done (by kernel_rfl) ?_ _
                  clear ZS
                  go_wp2_with fail
                  go_meet
                  exact ⟨rfl, HZ⟩
                case rest =>
                  obtain ⟨rfl, HX⟩ := hcut
                  rename World => wq
                  clear m1 hca gi d2 d3 d3n
                  have hk3 := K3.out
                  clear K3
                  rcases hk3 with rfl | rfl | rfl
                  · go_wp2_with fail
                    go_roundw
                    case rel => exact ⟨j + 1, by omega, by go_num, HX⟩
                    case measure => simp [intOf]; omega
                  · go_wp2_with fail
                    go_roundw
                    case rel => exact ⟨j + 1, by omega, by go_num, HX⟩
                    case measure => simp [intOf]; omega
                  · go_wp2_with fail
                    go_roundw
                    case rel => exact ⟨j + 1, by omega, by go_num, HX⟩
                    case measure => simp [intOf]; omega
            · obtain rfl : j = nA := by omega
              have hlt' : ¬ (j : Int) < j := by omega
              obtain ⟨bc, oc, rfl, hc0⟩ := HX.out.c.intK AA0.out
              obtain ⟨b', o', eq, hc1⟩ := HX.out.c.intK AA1.out
              injection eq with eq
              injection eq with eq1 eq2 _
              subst eq1 eq2
              obtain ⟨b', o', eq, hc3⟩ := HX.out.c.intK AA3.out
              injection eq with eq
              injection eq with eq1 eq2 _
              subst eq1 eq2
              have m1 := HX.out.x.h.cell (j := 1) rfl
              rw [Nat.add_zero] at hc0
              have kk := KK.out
              have lq := LL.out
              have hT := HT.out
              have z1 : IntKind.i64.wrap (k0 + k1) = k0 + k1 := IntWalk.i64_in _ (by omega)
              have z2 : IntKind.i64.wrap (k0 + k1 + k3) = (j : Int) := by rw [IntWalk.i64_in _ (by omega)]; omega
              clear kk lq hT
              go_upto_region 27 with (fail)
              refine wp_region_held (S := fun W => W.cell? ⟨b8, 1, none⟩ = some (.slice (some ⟨bq, oq, none⟩) l.length c) ∧ W.cell? ⟨bc, oc, none⟩ = some (.int .i64 k0) ∧ W.cell? ⟨bc, oc + 1, none⟩ = some (.int .i64 k1) ∧ W.cell? ⟨bc, oc + 3, none⟩ = some (.int .i64 k3)) (by kernel_rfl) ?_
              change wpAnyH _ _ _ _ _ _ _ _ (World.drew _)
              have HZ := Lib.hid (HX.out.later (w_refl wz).drew)
              have ZS := Lib.hid (show (fun W : World => W.cell? ⟨b8, 1, none⟩ = some (.slice (some ⟨bq, oq, none⟩) l.length c) ∧ W.cell? ⟨bc, oc, none⟩ = some (.int .i64 k0) ∧ W.cell? ⟨bc, oc + 1, none⟩ = some (.int .i64 k1) ∧ W.cell? ⟨bc, oc + 3, none⟩ = some (.int .i64 k3)) (World.drew wz) from ⟨cell_later (w_refl wz).drew m1, cell_later (w_refl wz).drew hc0, cell_later (w_refl wz).drew hc1, cell_later (w_refl wz).drew hc3⟩)
              generalize World.drew wz = z0 at *
              clear HX
              refine wpAnyH_take (i := 0) (v := .bool true) rfl (by kernel_rfl) (by kernel_rfl) (by kernel_rfl) (fun _ _ _ h => h) (run_yields _ (by kernel_rfl) (fun _ _ => by kernel_rfl)) ZS.out ?_
              refine wpAnyH_take (i := 1) (v := .bool true) rfl (by kernel_rfl) (by kernel_rfl) (by kernel_rfl) (fun _ _ _ h => h) (run_yields _ (by kernel_rfl) (fun _ _ => by kernel_rfl)) ZS.out ?_
              refine wpAnyH_take (i := 2) (v := .int .i64 (l.length : Int)) rfl (by kernel_rfl) (by kernel_rfl) (by kernel_rfl) (fun _ _ _ h => h) (run_yields _ (by kernel_rfl) (fun _ _ => by kernel_rfl)) ZS.out ?_
              refine wpAnyH_take (i := 3) (v := .pointer (some ⟨b8, 1, none⟩)) rfl (by kernel_rfl) (by kernel_rfl) (by kernel_rfl) (fun _ _ _ h => h) (run_yields _ (by kernel_rfl) (fun _ _ => by kernel_rfl)) ZS.out ?_
              refine wpAnyH_take (i := 4) (v := .slice (some ⟨bq, oq, none⟩) l.length c) rfl (by kernel_rfl) (by kernel_rfl) (by kernel_rfl) (fun _ _ _ h => h) (ld_yields 38 (.tmp 170) ⟨b8, 1, none⟩ _ (by kernel_rfl) rfl (by kernel_rfl) (ld_sgs _ _ _ _) (fun _ h => h.1)) ZS.out ?_
              refine wpAnyH_take (i := 5) (v := .int .i64 (l.length : Int)) rfl (by kernel_rfl) (by kernel_rfl) (by kernel_rfl) (fun _ _ _ h => h) (run_yields _ (by kernel_rfl) (fun _ _ => by kernel_rfl)) ZS.out ?_
              refine wpAnyH_take (i := 6) (v := .bool true) rfl (by kernel_rfl) (by kernel_rfl) (by kernel_rfl) (fun _ _ _ h => h) (Or.inl ⟨by kernel_rfl, fun _ _ => by go_simp⟩) ZS.out ?_
              refine wpAnyH_take (i := 7) (v := .bool true) rfl (by kernel_rfl) (by kernel_rfl) (by kernel_rfl) (fun _ _ _ h => h) (run_yields _ (by kernel_rfl) (fun _ _ => by kernel_rfl)) ZS.out ?_
              refine wpAnyH_take (i := 8) (v := .bool true) rfl (by kernel_rfl) (by kernel_rfl) (by kernel_rfl) (fun _ _ _ h => h) (run_yields _ (by kernel_rfl) (fun _ _ => by kernel_rfl)) ZS.out ?_
              refine wpAnyH_take (i := 9) (v := .int .i64 k3) rfl (by kernel_rfl) (by kernel_rfl) (by kernel_rfl) (fun _ _ _ h => h) (run_yields _ (by kernel_rfl) (fun _ _ => by kernel_rfl)) ZS.out ?_
              refine wpAnyH_take (i := 10) (v := .slice (some ⟨bc, oc, none⟩) 12 cc) rfl (by kernel_rfl) (by kernel_rfl) (by kernel_rfl) (fun _ _ _ h => h) (run_yields _ (by kernel_rfl) (fun _ _ => by kernel_rfl)) ZS.out ?_
              refine wpAnyH_take (i := 11) (v := .pointer (some ⟨bc, oc + 3, none⟩)) rfl (by kernel_rfl) (by kernel_rfl) (by kernel_rfl) (fun _ _ _ h => h) (run_yields _ (by kernel_rfl) (fun _ _ => by kernel_rfl)) ZS.out ?_
              refine wpAnyH_take (i := 12) (v := .int .i64 (k3)) rfl (by kernel_rfl) (by kernel_rfl) (by kernel_rfl) (fun _ _ _ h => h) (ld_yields 3 (.tmp 178) ⟨bc, oc + 3, none⟩ _ (by kernel_rfl) rfl (by kernel_rfl) (ld_int _ _) (fun _ h => h.2.2.2)) ZS.out ?_
              refine wpAnyH_take (i := 13) (v := .bool true) rfl (by kernel_rfl) (by kernel_rfl) (by kernel_rfl) (fun _ _ _ h => h) (Or.inl ⟨by kernel_rfl, fun _ _ => by go_simp⟩) ZS.out ?_
              refine wpAnyH_take (i := 14) (v := .bool true) rfl (by kernel_rfl) (by kernel_rfl) (by kernel_rfl) (fun _ _ _ h => h) (run_yields _ (by kernel_rfl) (fun _ _ => by kernel_rfl)) ZS.out ?_
              refine wpAnyH_take (i := 15) (v := .bool true) rfl (by kernel_rfl) (by kernel_rfl) (by kernel_rfl) (fun _ _ _ h => h) (run_yields _ (by kernel_rfl) (fun _ _ => by kernel_rfl)) ZS.out ?_
              refine wpAnyH_take (i := 16) (v := .slice pa j ca) rfl (by kernel_rfl) (by kernel_rfl) (by kernel_rfl) (fun _ _ _ h => h) (run_yields _ (by kernel_rfl) (fun _ _ => by kernel_rfl)) ZS.out ?_
              refine wpAnyH_take (i := 17) (v := .int .i64 (j : Int)) rfl (by kernel_rfl) (by kernel_rfl) (by kernel_rfl) (fun _ _ _ h => h) (run_yields _ (by kernel_rfl) (fun _ _ => by kernel_rfl)) ZS.out ?_
              refine wpAnyH_take (i := 18) (v := .slice (some ⟨bc, oc, none⟩) 12 cc) rfl (by kernel_rfl) (by kernel_rfl) (by kernel_rfl) (fun _ _ _ h => h) (run_yields _ (by kernel_rfl) (fun _ _ => by kernel_rfl)) ZS.out ?_
              refine wpAnyH_take (i := 19) (v := .pointer (some ⟨bc, oc, none⟩)) rfl (by kernel_rfl) (by kernel_rfl) (by kernel_rfl) (fun _ _ _ h => h) (run_yields _ (by kernel_rfl) (fun _ _ => by kernel_rfl)) ZS.out ?_
              refine wpAnyH_take (i := 20) (v := .int .i64 (k0)) rfl (by kernel_rfl) (by kernel_rfl) (by kernel_rfl) (fun _ _ _ h => h) (ld_yields 3 (.tmp 186) ⟨bc, oc, none⟩ _ (by kernel_rfl) rfl (by kernel_rfl) (ld_int _ _) (fun _ h => h.2.1)) ZS.out ?_
              refine wpAnyH_take (i := 21) (v := .slice (some ⟨bc, oc, none⟩) 12 cc) rfl (by kernel_rfl) (by kernel_rfl) (by kernel_rfl) (fun _ _ _ h => h) (run_yields _ (by kernel_rfl) (fun _ _ => by kernel_rfl)) ZS.out ?_
              refine wpAnyH_take (i := 22) (v := .pointer (some ⟨bc, oc + 1, none⟩)) rfl (by kernel_rfl) (by kernel_rfl) (by kernel_rfl) (fun _ _ _ h => h) (run_yields _ (by kernel_rfl) (fun _ _ => by kernel_rfl)) ZS.out ?_
              refine wpAnyH_take (i := 23) (v := .int .i64 (k1)) rfl (by kernel_rfl) (by kernel_rfl) (by kernel_rfl) (fun _ _ _ h => h) (ld_yields 3 (.tmp 189) ⟨bc, oc + 1, none⟩ _ (by kernel_rfl) rfl (by kernel_rfl) (ld_int _ _) (fun _ h => h.2.2.1)) ZS.out ?_
              refine wpAnyH_take (i := 24) (v := .int .i64 (k0 + k1)) rfl (by kernel_rfl) (by kernel_rfl) (by kernel_rfl) (fun _ _ _ h => h) (Or.inl ⟨by kernel_rfl, fun _ _ => by go_simp⟩) ZS.out ?_
              refine wpAnyH_take (i := 25) (v := .slice (some ⟨bc, oc, none⟩) 12 cc) rfl (by kernel_rfl) (by kernel_rfl) (by kernel_rfl) (fun _ _ _ h => h) (run_yields _ (by kernel_rfl) (fun _ _ => by kernel_rfl)) ZS.out ?_
              refine wpAnyH_take (i := 26) (v := .pointer (some ⟨bc, oc + 3, none⟩)) rfl (by kernel_rfl) (by kernel_rfl) (by kernel_rfl) (fun _ _ _ h => h) (run_yields _ (by kernel_rfl) (fun _ _ => by kernel_rfl)) ZS.out ?_
              refine wpAnyH_take (i := 27) (v := .int .i64 (k3)) rfl (by kernel_rfl) (by kernel_rfl) (by kernel_rfl) (fun _ _ _ h => h) (ld_yields 3 (.tmp 193) ⟨bc, oc + 3, none⟩ _ (by kernel_rfl) rfl (by kernel_rfl) (ld_int _ _) (fun _ h => h.2.2.2)) ZS.out ?_
              refine wpAnyH_take (i := 28) (v := .int .i64 (j : Int)) rfl (by kernel_rfl) (by kernel_rfl) (by kernel_rfl) (fun _ _ _ h => h) (Or.inl ⟨by kernel_rfl, fun _ _ => by go_simp⟩) ZS.out ?_
              refine wpAnyH_take (i := 29) (v := .bool true) rfl (by kernel_rfl) (by kernel_rfl) (by kernel_rfl) (fun _ _ _ h => h) (Or.inl ⟨by kernel_rfl, fun _ _ => by go_simp⟩) ZS.out ?_
              refine wpAnyH_take (i := 30) (v := .bool true) rfl (by kernel_rfl) (by kernel_rfl) (by kernel_rfl) (fun _ _ _ h => h) (run_yields _ (by kernel_rfl) (fun _ _ => by kernel_rfl)) ZS.out ?_
              refine wpAnyH_take (i := 31) (v := .bool true) rfl (by kernel_rfl) (by kernel_rfl) (by kernel_rfl) (fun _ _ _ h => h) (run_yields _ (by kernel_rfl) (fun _ _ => by kernel_rfl)) ZS.out ?_
              refine wpAnyH_done (by kernel_rfl) ?_ _
              clear ZS
              go_wp2_with fail
              go_ret
              exact ⟨rfl, HZ.out.x.b⟩

end Go.Proofs.YtcomjcflllfobaaDoor
