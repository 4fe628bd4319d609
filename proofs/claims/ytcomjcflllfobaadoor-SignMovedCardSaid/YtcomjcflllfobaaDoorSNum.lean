/- Notes and rests, ligatures and counts by definition. -/
import Derived.Test.YtcomjcflllfobaaDoorSPart
import Derived.Test.YtcomjcflllfobaaDoorLgLst
import Derived.Deep.OwnRows
import Derived.Test.YtcomjcflllfobaaDoorSProgE
import Derived.Test.YtcomjcflllfobaaDoorSRefF
import Derived.Test.YtcomjcflllfobaaDoorKApp
namespace Go.Proofs.YtcomjcflllfobaaDoor
open Go.RowKit

/-- The numbers below k that are picked. -/
def selP (p : Nat → Bool) : Nat → List Int
  | 0 => []
  | k + 1 => selP p k ++ (if p k = true then [(k : Int)] else [])
theorem sel_yes {p : Nat → Bool} {k : Nat} (h : p k = true) : selP p (k + 1) = selP p k ++ [(k : Int)] := by show _ ++ _ = _; rw [if_pos h]
theorem sel_no {p : Nat → Bool} {k : Nat} (h : p k = false) : selP p (k + 1) = selP p k := by show _ ++ _ = _; rw [if_neg (by rw [h]; decide), List.append_nil]
theorem sel_le (p : Nat → Bool) : ∀ k, (selP p k).length ≤ k
  | 0 => Nat.le_refl _
  | k + 1 => by
    have := sel_le p k
    cases h : p k with
    | true => rw [sel_yes h, List.length_append]; simp; omega
    | false => rw [sel_no h]; omega
theorem sel_congr {p q : Nat → Bool} : ∀ k, (∀ i, i < k → p i = q i) → selP p k = selP q k
  | 0, _ => rfl
  | k + 1, h => by
    have ih := sel_congr k (fun i hi => h i (by omega))
    show _ ++ _ = _ ++ _
    rw [ih, h k (by omega)]
def isTim (l : List Sg) (i : Nat) : Bool := (clsV (l.getD i zS).kind).1 == 1
def okPt (b : Bool) (l : List Sg) : Bool := decide ((chkV b l).1 = 0)
def timR (b : Bool) (l : List Sg) : List Int := if (chkV b l).1 = 0 then selP (isTim l) l.length else []
/-- A list of one number. -/
theorem one_sl (w : World) (z : Int) : SlP (w.alloc (.cells #[.int .i64 z] 3)) 1 (some ⟨w.heap.size, 0, none⟩) 1 1 (ints [z]) :=
  ⟨rfl, Nat.le_refl _, by omega, fun e => (by cases e), ints_one _, fun _ => ⟨w.heap.size, 0, rfl, by simp, fun j u hj => by
    rw [Nat.zero_add]
    exact (HoldsB.new w 3 #[.int .i64 z]).cell (by rw [← Array.getElem?_toList]; exact hj)⟩⟩
theorem ints_app (a b : List Int) : ints (a ++ b) = ints a ++ ints b := by simp [ints]
/-- What was made since a later world was made since an earlier one. -/
theorem OwnL.base {w0 w1 w : World} {e : TypeId} {k : Nat} {v : Value} {n : Nat} {cs : List Value} (h : OwnL w1 w e k v n cs) (b : Below w0.heap.size w0 w1) : OwnL w0 w e k v n cs :=
  ⟨w_below b h.bel, own_base h.row b.size⟩
/-- Numbers, made since w0, as a slice. -/
def IntO (w0 w : World) (v : Value) (zs : List Int) : Prop := OwnL w0 w 3 1 v zs.length (ints zs)
theorem IntO.none {w0 w : World} (b : Below w0.heap.size w0 w) : IntO w0 w (.slice none 0 0) [] := (OwnL.start w0 _ _).later b
theorem IntO.sl {w0 w : World} {v : Value} {zs : List Int} (h : IntO w0 w v zs) : ∃ p cap, v = .slice p zs.length cap ∧ SlP w 1 p zs.length cap (ints zs) := SlP.of_own h.row (ints_len _) (ints_one _)
theorem IntO.later {w0 w w1 : World} {v : Value} {zs : List Int} (h : IntO w0 w v zs) (b : Below w.heap.size w w1) : IntO w0 w1 v zs := OwnL.later h b
theorem IntO.base {w0 w1 w : World} {v : Value} {zs : List Int} (h : IntO w1 w v zs) (b : Below w0.heap.size w0 w1) : IntO w0 w v zs := OwnL.base h b

/-! ### Counts -/
def cntK (l : List Sg) (k j : Nat) : Int := (((l.take k).filter fun s => s.kind == ((j : Int) + 1)).length : Int)
def cntL (l : List Sg) (k : Nat) : List Int := (List.range 12).map (cntK l k)
def cntR (b : Bool) (l : List Sg) : List Int := if (chkV b l).1 = 0 then cntL l l.length else []
theorem cnt_zero (l : List Sg) : cntL l 0 = List.replicate 12 0 := by
  unfold cntL cntK; simp; decide
theorem cntK_succ {l : List Sg} {k : Nat} (h : k < l.length) (j : Nat) : cntK l (k + 1) j = cntK l k j + (if (l.getD k zS).kind = (j : Int) + 1 then 1 else 0) := by
  unfold cntK
  rw [List.take_add_one, sg_some h]
  simp only [Option.toList_some, List.filter_append, List.length_append]
  by_cases e : (l.getD k zS).kind = (j : Int) + 1
  · rw [if_pos e, List.filter_cons_of_pos (by rw [e]; simp)]; simp
  · rw [if_neg e, List.filter_cons_of_neg (by simpa using e)]; simp
theorem cntK_le (l : List Sg) (k j : Nat) : 0 ≤ cntK l k j ∧ cntK l k j ≤ k := by
  unfold cntK
  have := List.length_filter_le (fun s : Sg => s.kind == ((j : Int) + 1)) (l.take k)
  rw [List.length_take] at this
  omega
theorem cnt_at (l : List Sg) (k : Nat) {j : Nat} (h : j < 12) : (cntL l k)[j]? = some (cntK l k j) := by
  unfold cntL; rw [List.getElem?_map, List.getElem?_range h]; rfl
theorem cnt_set {l : List Sg} {k j : Nat} (h : k < l.length) (hj : j < 12) (e : (l.getD k zS).kind = (j : Int) + 1) : (cntL l k).set j (cntK l k j + 1) = cntL l (k + 1) := by
  apply List.ext_getElem?
  intro i
  by_cases hi : i < 12
  · rw [cnt_at l (k + 1) hi, cntK_succ h]
    by_cases c : j = i
    · subst c
      rw [List.getElem?_set_self (by unfold cntL; simp; exact hj), if_pos e]
    · rw [List.getElem?_set_ne c, cnt_at l k hi, if_neg (by omega), Int.add_zero]
  · have hl : (cntL l k).length = 12 := by unfold cntL; simp
    have hl2 : (cntL l (k + 1)).length = 12 := by unfold cntL; simp
    rw [List.getElem?_eq_none (by rw [List.length_set]; omega), List.getElem?_eq_none (by omega)]
theorem cntL_len (l : List Sg) (k : Nat) : (cntL l k).length = 12 := by unfold cntL; simp

/-! ### Valid parts -/
theorem scan_zero {f : Nat → Int} : ∀ (n i : Nat), (scan f i n).1 = 0 → ∀ k, i ≤ k → k < i + n → f k = 0
  | 0, i, _, k, h1, h2 => by omega
  | n + 1, i, h, k, h1, h2 => by
    by_cases c : f i = 0
    · have h3 : (scan f (i + 1) n).1 = 0 := by
        have : scan f i (n + 1) = scan f (i + 1) n := by show (if f i ≠ 0 then _ else _) = _; rw [if_neg (fun x => x c)]
        rwa [this] at h
      by_cases e : k = i
      · rw [e]; exact c
      · exact scan_zero n (i + 1) h3 k (by omega) (by omega)
    · have : scan f i (n + 1) = (f i, i) := if_pos c
      rw [this] at h
      exact absurd h c
theorem chk_zero {b : Bool} {l : List Sg} (h : (chkV b l).1 = 0) : b = true ∧ ¬ 400 < l.length ∧ ∀ k, k < l.length → sgnE l k = 0 := by
  unfold chkV at h
  split at h
  · cases h
  · split at h
    · cases h
    · refine ⟨by simpa using ‹¬ b = false›, ‹_›, fun k hk => scan_zero _ _ h k (Nat.zero_le _) (by omega)⟩
theorem sgn_zero {l : List Sg} {k : Nat} (h : sgnE l k = 0) : oneE (l.getD k zS) = 0 ∧ jnB l k = true := by
  unfold sgnE at h
  split at h
  · exact absurd h ‹_›
  · split at h
    · exact ⟨by simpa using ‹¬ oneE _ ≠ 0›, ‹_›⟩
    · cases h
theorem one_kind {s : Sg} (h : oneE s = 0) : kOk s.kind := by
  unfold oneE at h
  split at h
  · cases h
  · exact Classical.not_not.1 ‹_›
theorem one_use {s : Sg} (h : oneE s = 0) : s = useS s := by
  unfold oneE at h
  split at h
  · cases h
  · split at h
    · cases h
    · exact (sgE_iff _ _).1 (by simpa using ‹¬ sgE s (useS s) = false›)
/-- A sign that is Last is Tied. -/
theorem one_last {s : Sg} (h : oneE s = 0) (k : s.last = true) : s.kind = 4 := by
  have e := congrArg Sg.last (one_use h)
  rw [k] at e
  have hk := one_kind h
  unfold kOk at hk
  have c : s.kind = 1 ∨ s.kind = 2 ∨ s.kind = 3 ∨ s.kind = 4 ∨ s.kind = 5 ∨ s.kind = 6 ∨ s.kind = 7 ∨ s.kind = 8 ∨ s.kind = 9 ∨ s.kind = 10 ∨ s.kind = 11 ∨ s.kind = 12 := by omega
  have hu : (useS s).last = ((fdK s.kind.toNat).fl && s.last) := rfl
  rw [hu] at e
  rcases c with c | c | c | c | c | c | c | c | c | c | c | c
  all_goals first | exact c | (rw [c] at e; cases e)

end Go.Proofs.YtcomjcflllfobaaDoor

/- The numbers of notes and rests, of both sides. -/
namespace Go.Proofs.YtcomjcflllfobaaDoor
open Go.RowKit

set_option maxRecDepth 100000 in
set_option maxHeartbeats 4000000 in
theorem ptim_any (nm : ByteArray) (hnm : nm.size ≤ maxLen) (l : List Sg) (p : Option Addr) (cap : Nat) (w : World) (h : SlP w 17 p l.length cap (flatG l)) (T : TabS w) :
    Calls Tryd.prog 21 #[ptv nm p l.length cap] w fun e w' => ∃ v, e = .returned (.tuple #[v, .int .i64 (chkV (nameV nm.data.toList) l).1]) ∧ IntO w w' v (timR (nameV nm.data.toList) l) := by
  have f1 := h.fit
  have m1 := h.max
  have HP := Lib.hid (pt_new w nm p l.length cap)
  have B1 := Lib.hid (w_alloc (w_refl w) (ptO nm p l.length cap))
  have CK := Lib.hid (show Calls Tryd.prog 19 #[ptv nm p l.length cap] (w.alloc (ptO nm p l.length cap)) _ from pchk_any nm hnm l p cap _ (h.later (w_alloc (w_refl w) _)) (T.al _))
  have HL := Lib.hid (h.later (w_alloc (w_refl w) (ptO nm p l.length cap)))
  have CL := Lib.hid (fun k W => pcls_any k W)
  have k0 := HP.out.cell (j := 0) rfl
  have k1 := HP.out.cell (j := 1) rfl
  have CZ := Lib.hid (fun h => chk_zero (b := nameV nm.data.toList) (l := l) h)
  have TR := Lib.hid (show timR (nameV nm.data.toList) l = if (chkV (nameV nm.data.toList) l).1 = 0 then selP (isTim l) l.length else [] from rfl)
  generalize timR (nameV nm.data.toList) l = R at *
  generalize chkV (nameV nm.data.toList) l = E at *
  obtain ⟨e1, e2⟩ := E
  simp only at CK CZ TR ⊢
  clear h T
  by_cases he : e1 = 0
  case neg =>
    have hR := Lib.hid (show R = [] by rw [TR.out, if_neg he])
    have q1 : (e1 != 0) = true := by simp [he]
    clear TR CZ he CL HL
    go_enter Tryd.func21, Tryd.ntmps21
    go_wp2_with fail
    refine CK.out.mono ?_
    rintro e w1 ⟨rfl, hb⟩
    have hB := Lib.hid (w_below B1.out hb)
    clear hb CK
    go_wp2_with fail
    go_ret2
    exact ⟨_, rfl, by rw [hR.out]; exact IntO.none hB.out⟩
  subst he
  have hR := Lib.hid (show R = selP (isTim l) l.length by rw [TR.out, if_pos rfl])
  obtain ⟨_, hm, _⟩ := CZ.out rfl
  obtain ⟨i0, hi0, hz0, hz1, hz2⟩ := info_parts info_int
  clear TR CZ
  go_enter Tryd.func21, Tryd.ntmps21
  go_wp2_with fail
  refine CK.out.mono ?_
  rintro e w1 ⟨rfl, hb⟩
  replace HL := Lib.hid (HL.out.later hb)
  replace HP := Lib.hid (HP.out.later hb)
  replace B1 := Lib.hid (w_below B1.out hb)
  replace k0 := cell_later hb k0
  replace k1 := cell_later hb k1
  clear hb CK
  go_wp2_with fail
  clear k0 k1
  go_loopw [6, 21] (fun v i wr => ∃ k : Nat, k ≤ l.length ∧ i = .int .i64 k ∧ (∃ q c, v = .slice q (selP (isTim l) k).length c) ∧ Hid (IntO w1 wr v (selP (isTim l) k))) (fun _ i _ => l.length - (intOf i).toNat)
  case atStart => exact ⟨0, by omega, rfl, ⟨none, 0, rfl⟩, Lib.hid (IntO.none (w_refl w1))⟩
  case round =>
    rename World => wr
    obtain ⟨k, hk, rfl, ⟨q, c, rfl⟩, ho⟩ := hrel
    have c1 := (HP.out.later ho.out.bel).cell (j := 1) rfl
    by_cases hlt : k < l.length
    · have hlt' : (k : Int) < l.length := by omega
      have hk0 : (0 : Int) ≤ k := by omega
      obtain ⟨b, off, hpp, _, hx⟩ := (HL.out.later ho.out.bel).sg (sg_some hlt)
      have n0 := hx.e0
      have CLk := Lib.hid (CL.out (l.getD k zS).kind)
      have HT : isTim l k = ((clsV (l.getD k zS).kind).1 == 1) := rfl
      have hle := sel_le (isTim l) k
      clear hx CL
      subst hpp
      generalize hcl : clsV (l.getD k zS).kind = cl at *
      obtain ⟨c9, d9⟩ := cl
      simp only at CLk HT
      clear hcl
      generalize l.getD k zS = s at *
      cases ht : isTim l k with
      | false =>
        rw [ht] at HT
        have hS := sel_no ht
        have q9 : (c9 == 1) = false := HT.symm
        clear HT ht
        go_wp2_with fail
        refine (CLk.out _).mono ?_
        rintro e w2 ⟨rfl, rfl⟩
        clear CLk n0
        go_wp2_with fail
        go_roundw
        case rel => exact ⟨k + 1, by omega, by go_num, ⟨q, c, by rw [hS]⟩, by rw [hS]; exact ho⟩
        case measure => simp [intOf]; omega
      | true =>
        rw [ht] at HT
        have hS := Lib.hid (sel_yes ht)
        have q9 : (c9 == 1) = true := HT.symm
        clear HT ht
        obtain ⟨S, hSS⟩ : ∃ S, selP (isTim l) k = S := ⟨_, rfl⟩
        rw [hSS] at ho hle hS ⊢
        clear hSS
        go_wp2_with fail
        refine (CLk.out _).mono ?_
        rintro e w2 ⟨rfl, rfl⟩
        clear CLk n0
        go_wp2_with (at_builtin; refine wpList_append_sl rfl _ _ 45 rfl w1.heap.size 3 i0 (.int .i64 0) 1 8 Tryd.underlying45 hi0 hz0 hz1 hz2 rfl (by decide) _ S.length (ints S) rfl (OwnL.later ho.out (w_alloc (w_refl wr) _)).row (some ⟨wr.heap.size, 0, none⟩) 1 1 (ints [(k : Int)]) rfl (one_sl wr (k : Int)) (by unfold maxLen; omega) (by omega) (by have := ho.out.bel.size; simp; omega) ?_)
        intro v' w3 hown hgrow
        have HN := Lib.hid (show IntO w1 w3 v' (S ++ [(k : Int)]) by
          have := OwnL.app ho.out (w_alloc (w_refl _) _) hown hgrow
          unfold IntO
          rw [ints_app, List.length_append]
          exact this)
        obtain ⟨q2, c2, hv⟩ := HN.out.sl
        obtain ⟨rfl, _⟩ := hv
        clear hown hgrow ho
        go_wp2_with fail
        go_roundw
        case rel => exact ⟨k + 1, by omega, by go_num, ⟨q2, c2, by rw [hS.out]⟩, by rw [hS.out]; exact HN⟩
        case measure => simp [intOf]; omega
    · obtain rfl : k = l.length := by omega
      have hfin := Lib.hid (show IntO w wr (.slice q (selP (isTim l) l.length).length c) R by rw [hR.out]; exact IntO.base ho.out B1.out)
      clear hR ho CL
      generalize (selP (isTim l) l.length).length = n9 at *
      go_wp2_with fail
      go_ret2
      exact ⟨_, rfl, hfin.out⟩


set_option maxRecDepth 100000 in
set_option maxHeartbeats 4000000 in
theorem rtim_any (nm : ByteArray) (hnm : nm.size ≤ maxLen) (l : List Sg) (p : Option Addr) (cap : Nat) (w : World) (h : SlP w 17 p l.length cap (flatG l)) :
    Calls Tryd.prog 22 #[ptv nm p l.length cap] w fun e w' => ∃ v, e = .returned (.tuple #[v, .int .i64 (chkV (nameV nm.data.toList) l).1]) ∧ IntO w w' v (timR (nameV nm.data.toList) l) := by
  have f1 := h.fit
  have m1 := h.max
  have HP := Lib.hid (pt_new w nm p l.length cap)
  have B1 := Lib.hid (w_alloc (w_refl w) (ptO nm p l.length cap))
  have CK := Lib.hid (show Calls Tryd.prog 20 #[ptv nm p l.length cap] (w.alloc (ptO nm p l.length cap)) _ from rchk_any nm hnm l p cap _ (h.later (w_alloc (w_refl w) _)))
  have HL := Lib.hid (h.later (w_alloc (w_refl w) (ptO nm p l.length cap)))
  have CL := Lib.hid (fun k W => rcls_any k W)
  have k0 := HP.out.cell (j := 0) rfl
  have k1 := HP.out.cell (j := 1) rfl
  have CZ := Lib.hid (fun h => chk_zero (b := nameV nm.data.toList) (l := l) h)
  have TR := Lib.hid (show timR (nameV nm.data.toList) l = if (chkV (nameV nm.data.toList) l).1 = 0 then selP (isTim l) l.length else [] from rfl)
  generalize timR (nameV nm.data.toList) l = R at *
  generalize chkV (nameV nm.data.toList) l = E at *
  obtain ⟨e1, e2⟩ := E
  simp only at CK CZ TR ⊢
  clear h
  by_cases he : e1 = 0
  case neg =>
    have hR := Lib.hid (show R = [] by rw [TR.out, if_neg he])
    have q1 : (e1 != 0) = true := by simp [he]
    clear TR CZ he CL HL
    go_enter Tryd.func22, Tryd.ntmps22
    go_wp2_with fail
    refine CK.out.mono ?_
    rintro e w1 ⟨rfl, hb⟩
    have hB := Lib.hid (w_below B1.out hb)
    clear hb CK
    go_wp2_with fail
    go_ret2
    exact ⟨_, rfl, by rw [hR.out]; exact IntO.none hB.out⟩
  subst he
  have hR := Lib.hid (show R = selP (isTim l) l.length by rw [TR.out, if_pos rfl])
  obtain ⟨_, hm, _⟩ := CZ.out rfl
  obtain ⟨i0, hi0, hz0, hz1, hz2⟩ := info_parts info_int
  clear TR CZ
  go_enter Tryd.func22, Tryd.ntmps22
  go_wp2_with fail
  refine CK.out.mono ?_
  rintro e w1 ⟨rfl, hb⟩
  replace HL := Lib.hid (HL.out.later hb)
  replace HP := Lib.hid (HP.out.later hb)
  replace B1 := Lib.hid (w_below B1.out hb)
  replace k0 := cell_later hb k0
  replace k1 := cell_later hb k1
  clear hb CK
  go_wp2_with fail
  clear k0 k1
  go_loopw [6, 7] (fun v i wr => ∃ k : Nat, k ≤ l.length ∧ i = .int .i64 k ∧ (∃ q c, v = .slice q (selP (isTim l) k).length c) ∧ Hid (IntO w1 wr v (selP (isTim l) k))) (fun _ i _ => l.length - (intOf i).toNat)
  case atStart => exact ⟨0, by omega, rfl, ⟨none, 0, rfl⟩, Lib.hid (IntO.none (w_refl w1))⟩
  case round =>
    rename World => wr
    obtain ⟨k, hk, rfl, ⟨q, c, rfl⟩, ho⟩ := hrel
    have c1 := (HP.out.later ho.out.bel).cell (j := 1) rfl
    by_cases hlt : k < l.length
    · have hlt' : (k : Int) < l.length := by omega
      have hk0 : (0 : Int) ≤ k := by omega
      obtain ⟨b, off, hpp, _, hx⟩ := (HL.out.later ho.out.bel).sg (sg_some hlt)
      have n0 := hx.e0
      have CLk := Lib.hid (CL.out (l.getD k zS).kind)
      have HT : isTim l k = ((clsV (l.getD k zS).kind).1 == 1) := rfl
      have hle := sel_le (isTim l) k
      clear hx CL
      subst hpp
      generalize hcl : clsV (l.getD k zS).kind = cl at *
      obtain ⟨c9, d9⟩ := cl
      simp only at CLk HT
      clear hcl
      generalize l.getD k zS = s at *
      cases ht : isTim l k with
      | false =>
        rw [ht] at HT
        have hS := sel_no ht
        have q9 : (c9 == 1) = false := HT.symm
        clear HT ht
        go_wp2_with fail
        refine (CLk.out _).mono ?_
        rintro e w2 ⟨rfl, rfl⟩
        clear CLk n0
        go_wp2_with fail
        go_roundw
        case rel => exact ⟨k + 1, by omega, by go_num, ⟨q, c, by rw [hS]⟩, by rw [hS]; exact ho⟩
        case measure => simp [intOf]; omega
      | true =>
        rw [ht] at HT
        have hS := Lib.hid (sel_yes ht)
        have q9 : (c9 == 1) = true := HT.symm
        clear HT ht
        obtain ⟨S, hSS⟩ : ∃ S, selP (isTim l) k = S := ⟨_, rfl⟩
        rw [hSS] at ho hle hS ⊢
        clear hSS
        go_wp2_with fail
        refine (CLk.out _).mono ?_
        rintro e w2 ⟨rfl, rfl⟩
        clear CLk n0
        go_wp2_with (at_builtin; refine wpList_append_sl rfl _ _ 45 rfl w1.heap.size 3 i0 (.int .i64 0) 1 8 Tryd.underlying45 hi0 hz0 hz1 hz2 rfl (by decide) _ S.length (ints S) rfl (OwnL.later ho.out (w_alloc (w_refl wr) _)).row (some ⟨wr.heap.size, 0, none⟩) 1 1 (ints [(k : Int)]) rfl (one_sl wr (k : Int)) (by unfold maxLen; omega) (by omega) (by have := ho.out.bel.size; simp; omega) ?_)
        intro v' w3 hown hgrow
        have HN := Lib.hid (show IntO w1 w3 v' (S ++ [(k : Int)]) by
          have := OwnL.app ho.out (w_alloc (w_refl _) _) hown hgrow
          unfold IntO
          rw [ints_app, List.length_append]
          exact this)
        obtain ⟨q2, c2, hv⟩ := HN.out.sl
        obtain ⟨rfl, _⟩ := hv
        clear hown hgrow ho
        go_wp2_with fail
        go_roundw
        case rel => exact ⟨k + 1, by omega, by go_num, ⟨q2, c2, by rw [hS.out]⟩, by rw [hS.out]; exact HN⟩
        case measure => simp [intOf]; omega
    · obtain rfl : k = l.length := by omega
      have hfin := Lib.hid (show IntO w wr (.slice q (selP (isTim l) l.length).length c) R by rw [hR.out]; exact IntO.base ho.out B1.out)
      clear hR ho CL
      generalize (selP (isTim l) l.length).length = n9 at *
      go_wp2_with fail
      go_ret2
      exact ⟨_, rfl, hfin.out⟩


end Go.Proofs.YtcomjcflllfobaaDoor

/- How many signs of each kind there are, of both sides. -/
namespace Go.Proofs.YtcomjcflllfobaaDoor
open Go.RowKit

theorem made12 : madeCells #[.int .i64 0] 12 = #[.int .i64 0, .int .i64 0, .int .i64 0, .int .i64 0, .int .i64 0, .int .i64 0, .int .i64 0, .int .i64 0, .int .i64 0, .int .i64 0, .int .i64 0, .int .i64 0] := by kernel_rfl
theorem cnt_start (l : List Sg) : (#[.int .i64 0, .int .i64 0, .int .i64 0, .int .i64 0, .int .i64 0, .int .i64 0, .int .i64 0, .int .i64 0, .int .i64 0, .int .i64 0, .int .i64 0, .int .i64 0] : Array Value) = (ints (cntL l 0)).toArray := by rw [cnt_zero]; rfl
theorem own_of_holds {W : World} {b base n : Nat} {zs : List Int} (h : HoldsB W b 3 (ints zs).toArray) (hb : base ≤ b) (hz : zs.length = n) (hn : n ≤ 1000) : W.ownsRow base 3 1 (.slice (some ⟨b, 0, none⟩) n n) n (ints zs) :=
  ⟨by simp [hz], .inr ⟨b, n, _, rfl, hb, h, Nat.le_refl _, by unfold maxLen; omega, by simp [hz], by show List.take (n * 1) (ints zs) = ints zs; rw [Nat.mul_one]; exact List.take_of_length_le (by simp [hz])⟩⟩
theorem cnt_holds {W : World} {b : Nat} {l : List Sg} {k j : Nat} {x : Int} (h : HoldsB W b 3 (ints (cntL l k)).toArray) (hs : (cntL l k).set j x = cntL l (k + 1)) : HoldsB (W.setCell ⟨b, j, none⟩ (.int .i64 x)) b 3 (ints (cntL l (k + 1))).toArray := by
  have := h.set j (.int .i64 x)
  rw [← hs]
  rw [show (ints ((cntL l k).set j x)).toArray = (ints (cntL l k)).toArray.setIfInBounds j (.int .i64 x) by simp [ints, List.map_set]]
  exact this
theorem cnt_cell {W : World} {b : Nat} {l : List Sg} {k j : Nat} (h : HoldsB W b 3 (ints (cntL l k)).toArray) (hj : j < 12) : W.cell? ⟨b, j, none⟩ = some (.int .i64 (cntK l k j)) :=
  h.cell (by rw [← Array.getElem?_toList]; show (ints (cntL l k))[j]? = _; rw [List.getElem?_map, cnt_at l k hj]; rfl)

set_option maxRecDepth 100000 in
set_option maxHeartbeats 4000000 in
theorem pcnt_any (nm : ByteArray) (hnm : nm.size ≤ maxLen) (l : List Sg) (p : Option Addr) (cap : Nat) (w : World) (h : SlP w 17 p l.length cap (flatG l)) (T : TabS w) :
    Calls Tryd.prog 26 #[ptv nm p l.length cap] w fun e w' => ∃ v, e = .returned (.tuple #[v, .int .i64 (chkV (nameV nm.data.toList) l).1]) ∧ IntO w w' v (cntR (nameV nm.data.toList) l) := by
  have f1 := h.fit
  have m1 := h.max
  have HP := Lib.hid (pt_new w nm p l.length cap)
  have B1 := Lib.hid (w_alloc (w_refl w) (ptO nm p l.length cap))
  have CK := Lib.hid (show Calls Tryd.prog 19 #[ptv nm p l.length cap] (w.alloc (ptO nm p l.length cap)) _ from pchk_any nm hnm l p cap _ (h.later (w_alloc (w_refl w) _)) (T.al _))
  have HL := Lib.hid (h.later (w_alloc (w_refl w) (ptO nm p l.length cap)))
  have k0 := HP.out.cell (j := 0) rfl
  have k1 := HP.out.cell (j := 1) rfl
  have CZ := Lib.hid (fun h => chk_zero (b := nameV nm.data.toList) (l := l) h)
  have TR := Lib.hid (show cntR (nameV nm.data.toList) l = if (chkV (nameV nm.data.toList) l).1 = 0 then cntL l l.length else [] from rfl)
  generalize cntR (nameV nm.data.toList) l = R at *
  generalize chkV (nameV nm.data.toList) l = E at *
  obtain ⟨e1, e2⟩ := E
  simp only at CK CZ TR ⊢
  clear h T
  by_cases he : e1 = 0
  case neg =>
    have hR := Lib.hid (show R = [] by rw [TR.out, if_neg he])
    have q1 : (e1 != 0) = true := by simp [he]
    clear TR CZ he HL
    go_enter Tryd.func26, Tryd.ntmps26
    go_wp2_with fail
    refine CK.out.mono ?_
    rintro e w1 ⟨rfl, hb⟩
    have hB := Lib.hid (w_below B1.out hb)
    clear hb CK
    go_wp2_with fail
    go_ret2
    exact ⟨_, rfl, by rw [hR.out]; exact IntO.none hB.out⟩
  subst he
  have hR := Lib.hid (show R = cntL l l.length by rw [TR.out, if_pos rfl])
  obtain ⟨_, hm, hz⟩ := CZ.out rfl
  have KK := Lib.hid (show ∀ k, k < l.length → ∃ j : Nat, j < 12 ∧ (l.getD k zS).kind = (j : Int) + 1 from fun k hk => by
    have := one_kind (sgn_zero (hz k hk)).1
    unfold kOk at this
    exact ⟨((l.getD k zS).kind - 1).toNat, by omega, by omega⟩)
  obtain ⟨i0, hi0, hz0, hz1, hz2⟩ := info_parts info_int
  have hmk : ∀ W, (Instr.makeSlice 45 (.int .i64 12) (.int .i64 12)).run Tryd.prog W = .ok (.slice (some ⟨W.heap.size, 0, none⟩) 12 12) (W.alloc (.cells #[.int .i64 0, .int .i64 0, .int .i64 0, .int .i64 0, .int .i64 0, .int .i64 0, .int .i64 0, .int .i64 0, .int .i64 0, .int .i64 0, .int .i64 0, .int .i64 0] 3)) := fun W => by
    rw [← made12]
    exact run_make_row 45 3 i0 _ Tryd.underlying45 hi0 hz0 hz1 rfl .i64 .i64 12 (by rw [hz2]; omega) (by omega) W
  clear TR CZ hz
  go_enter Tryd.func26, Tryd.ntmps26
  go_wp2_with fail
  refine CK.out.mono ?_
  rintro e w1 ⟨rfl, hb⟩
  replace HL := Lib.hid (HL.out.later hb)
  replace HP := Lib.hid (HP.out.later hb)
  replace B1 := Lib.hid (w_below B1.out hb)
  clear hb CK k0 k1
  have k1 := HP.out.cell (j := 1) rfl
  go_upto_region 5 with (fail)
  clear k1
  have H0 := Lib.hid (show HoldsB (w1.alloc (.cells #[.int .i64 0, .int .i64 0, .int .i64 0, .int .i64 0, .int .i64 0, .int .i64 0, .int .i64 0, .int .i64 0, .int .i64 0, .int .i64 0, .int .i64 0, .int .i64 0] 3)) w1.heap.size 3 (ints (cntL l 0)).toArray by rw [← cnt_start]; exact HoldsB.new _ _ _)
  have BY := Lib.hid (w_alloc (w_refl w1) (.cells #[.int .i64 0, .int .i64 0, .int .i64 0, .int .i64 0, .int .i64 0, .int .i64 0, .int .i64 0, .int .i64 0, .int .i64 0, .int .i64 0, .int .i64 0, .int .i64 0] 3))
  clear hmk
  generalize w1.alloc (.cells #[.int .i64 0, .int .i64 0, .int .i64 0, .int .i64 0, .int .i64 0, .int .i64 0, .int .i64 0, .int .i64 0, .int .i64 0, .int .i64 0, .int .i64 0, .int .i64 0] 3) = y at *
  have k1 := (HP.out.later BY.out).cell (j := 1) rfl
  go_wp2_with fail
  clear k1
  go_loopw [20] (fun i wr => ∃ k : Nat, k ≤ l.length ∧ i = .int .i64 k ∧ Hid (HoldsB wr w1.heap.size 3 (ints (cntL l k)).toArray) ∧ Hid (Below w1.heap.size w1 wr)) (fun i _ => l.length - (intOf i).toNat)
  case atStart => exact ⟨0, by omega, rfl, H0, BY⟩
  case round =>
    rename World => wr
    obtain ⟨k, hk, rfl, ho, hbw⟩ := hrel
    have c1 := (HP.out.later hbw.out).cell (j := 1) rfl
    clear H0 BY
    by_cases hlt : k < l.length
    · have hlt' : (k : Int) < l.length := by omega
      have hk0 : (0 : Int) ≤ k := by omega
      obtain ⟨b, off, hpp, _, hx⟩ := (HL.out.later hbw.out).sg (sg_some hlt)
      have n0 := hx.e0
      obtain ⟨j, hj, hkj⟩ := KK.out k hlt
      have hset := Lib.hid (cnt_set hlt hj hkj)
      have hbd := cntK_le l k j
      have d0 := cnt_cell ho.out hj
      have hfz := ho.out.frozen j
      have H2 := Lib.hid (cnt_holds ho.out hset.out)
      have B2 := Lib.hid (w_put (b := w1.heap.size) hbw.out (Nat.le_refl _) j (.int .i64 (cntK l k j + 1)))
      rw [hkj] at n0
      have x1 : IntKind.i64.wrap ((j : Int) + 1 - 1) = (j : Int) := by rw [IntWalk.i64_in _ (by omega)]; omega
      have x2 : IntKind.i64.wrap (cntK l k j + 1) = cntK l k j + 1 := IntWalk.i64_in _ (by omega)
      have hj0 : (0 : Int) ≤ j := by omega
      have hj1 : (j : Int) < 12 := by omega
      clear hx KK hkj
      subst hpp
      generalize cntK l k j = x at *
      clear ho hset
      go_wp2_with fail
      go_roundw
      case rel => exact ⟨k + 1, by omega, by go_num, H2, B2⟩
      case measure => simp [intOf]; omega
    · obtain rfl : k = l.length := by omega
      have hfin := Lib.hid (show IntO w wr (.slice (some ⟨w1.heap.size, 0, none⟩) 12 12) R by rw [hR.out]; refine IntO.base ⟨hbw.out, ?_⟩ B1.out; rw [cntL_len]; exact own_of_holds ho.out (Nat.le_refl _) (cntL_len _ _) (by omega))
      clear hR ho KK
      go_wp2_with fail
      go_ret2
      exact ⟨_, rfl, hfin.out⟩


set_option maxRecDepth 100000 in
set_option maxHeartbeats 4000000 in
theorem rcnt_any (nm : ByteArray) (hnm : nm.size ≤ maxLen) (l : List Sg) (p : Option Addr) (cap : Nat) (w : World) (h : SlP w 17 p l.length cap (flatG l)) :
    Calls Tryd.prog 27 #[ptv nm p l.length cap] w fun e w' => ∃ v, e = .returned (.tuple #[v, .int .i64 (chkV (nameV nm.data.toList) l).1]) ∧ IntO w w' v (cntR (nameV nm.data.toList) l) := by
  have f1 := h.fit
  have m1 := h.max
  have HP := Lib.hid (pt_new w nm p l.length cap)
  have B1 := Lib.hid (w_alloc (w_refl w) (ptO nm p l.length cap))
  have CK := Lib.hid (show Calls Tryd.prog 20 #[ptv nm p l.length cap] (w.alloc (ptO nm p l.length cap)) _ from rchk_any nm hnm l p cap _ (h.later (w_alloc (w_refl w) _)))
  have HL := Lib.hid (h.later (w_alloc (w_refl w) (ptO nm p l.length cap)))
  have k0 := HP.out.cell (j := 0) rfl
  have k1 := HP.out.cell (j := 1) rfl
  have CZ := Lib.hid (fun h => chk_zero (b := nameV nm.data.toList) (l := l) h)
  have TR := Lib.hid (show cntR (nameV nm.data.toList) l = if (chkV (nameV nm.data.toList) l).1 = 0 then cntL l l.length else [] from rfl)
  generalize cntR (nameV nm.data.toList) l = R at *
  generalize chkV (nameV nm.data.toList) l = E at *
  obtain ⟨e1, e2⟩ := E
  simp only at CK CZ TR ⊢
  clear h
  by_cases he : e1 = 0
  case neg =>
    have hR := Lib.hid (show R = [] by rw [TR.out, if_neg he])
    have q1 : (e1 != 0) = true := by simp [he]
    clear TR CZ he HL
    go_enter Tryd.func27, Tryd.ntmps27
    go_wp2_with fail
    refine CK.out.mono ?_
    rintro e w1 ⟨rfl, hb⟩
    have hB := Lib.hid (w_below B1.out hb)
    clear hb CK
    go_wp2_with fail
    go_ret2
    exact ⟨_, rfl, by rw [hR.out]; exact IntO.none hB.out⟩
  subst he
  have hR := Lib.hid (show R = cntL l l.length by rw [TR.out, if_pos rfl])
  obtain ⟨_, hm, hz⟩ := CZ.out rfl
  have KK := Lib.hid (show ∀ k, k < l.length → ∃ j : Nat, j < 12 ∧ (l.getD k zS).kind = (j : Int) + 1 from fun k hk => by
    have := one_kind (sgn_zero (hz k hk)).1
    unfold kOk at this
    exact ⟨((l.getD k zS).kind - 1).toNat, by omega, by omega⟩)
  obtain ⟨i0, hi0, hz0, hz1, hz2⟩ := info_parts info_int
  have hmk : ∀ W, (Instr.makeSlice 45 (.int .i64 12) (.int .i64 12)).run Tryd.prog W = .ok (.slice (some ⟨W.heap.size, 0, none⟩) 12 12) (W.alloc (.cells #[.int .i64 0, .int .i64 0, .int .i64 0, .int .i64 0, .int .i64 0, .int .i64 0, .int .i64 0, .int .i64 0, .int .i64 0, .int .i64 0, .int .i64 0, .int .i64 0] 3)) := fun W => by
    rw [← made12]
    exact run_make_row 45 3 i0 _ Tryd.underlying45 hi0 hz0 hz1 rfl .i64 .i64 12 (by rw [hz2]; omega) (by omega) W
  clear TR CZ hz
  go_enter Tryd.func27, Tryd.ntmps27
  go_wp2_with fail
  refine CK.out.mono ?_
  rintro e w1 ⟨rfl, hb⟩
  replace HL := Lib.hid (HL.out.later hb)
  replace HP := Lib.hid (HP.out.later hb)
  replace B1 := Lib.hid (w_below B1.out hb)
  clear hb CK k0 k1
  have k1 := HP.out.cell (j := 1) rfl
  go_upto_region 5 with (fail)
  clear k1
  have H0 := Lib.hid (show HoldsB (w1.alloc (.cells #[.int .i64 0, .int .i64 0, .int .i64 0, .int .i64 0, .int .i64 0, .int .i64 0, .int .i64 0, .int .i64 0, .int .i64 0, .int .i64 0, .int .i64 0, .int .i64 0] 3)) w1.heap.size 3 (ints (cntL l 0)).toArray by rw [← cnt_start]; exact HoldsB.new _ _ _)
  have BY := Lib.hid (w_alloc (w_refl w1) (.cells #[.int .i64 0, .int .i64 0, .int .i64 0, .int .i64 0, .int .i64 0, .int .i64 0, .int .i64 0, .int .i64 0, .int .i64 0, .int .i64 0, .int .i64 0, .int .i64 0] 3))
  clear hmk
  generalize w1.alloc (.cells #[.int .i64 0, .int .i64 0, .int .i64 0, .int .i64 0, .int .i64 0, .int .i64 0, .int .i64 0, .int .i64 0, .int .i64 0, .int .i64 0, .int .i64 0, .int .i64 0] 3) = y at *
  have k1 := (HP.out.later BY.out).cell (j := 1) rfl
  go_wp2_with fail
  clear k1
  go_loopw [7] (fun i wr => ∃ k : Nat, k ≤ l.length ∧ i = .int .i64 k ∧ Hid (HoldsB wr w1.heap.size 3 (ints (cntL l k)).toArray) ∧ Hid (Below w1.heap.size w1 wr)) (fun i _ => l.length - (intOf i).toNat)
  case atStart => exact ⟨0, by omega, rfl, H0, BY⟩
  case round =>
    rename World => wr
    obtain ⟨k, hk, rfl, ho, hbw⟩ := hrel
    have c1 := (HP.out.later hbw.out).cell (j := 1) rfl
    clear H0 BY
    by_cases hlt : k < l.length
    · have hlt' : (k : Int) < l.length := by omega
      have hk0 : (0 : Int) ≤ k := by omega
      obtain ⟨b, off, hpp, _, hx⟩ := (HL.out.later hbw.out).sg (sg_some hlt)
      have n0 := hx.e0
      obtain ⟨j, hj, hkj⟩ := KK.out k hlt
      have hset := Lib.hid (cnt_set hlt hj hkj)
      have hbd := cntK_le l k j
      have d0 := cnt_cell ho.out hj
      have hfz := ho.out.frozen j
      have H2 := Lib.hid (cnt_holds ho.out hset.out)
      have B2 := Lib.hid (w_put (b := w1.heap.size) hbw.out (Nat.le_refl _) j (.int .i64 (cntK l k j + 1)))
      rw [hkj] at n0
      have x1 : IntKind.i64.wrap ((j : Int) + 1 - 1) = (j : Int) := by rw [IntWalk.i64_in _ (by omega)]; omega
      have x2 : IntKind.i64.wrap (cntK l k j + 1) = cntK l k j + 1 := IntWalk.i64_in _ (by omega)
      have hj0 : (0 : Int) ≤ j := by omega
      have hj1 : (j : Int) < 12 := by omega
      clear hx KK hkj
      subst hpp
      generalize cntK l k j = x at *
      clear ho hset
      go_wp2_with fail
      go_roundw
      case rel => exact ⟨k + 1, by omega, by go_num, H2, B2⟩
      case measure => simp [intOf]; omega
    · obtain rfl : k = l.length := by omega
      have hfin := Lib.hid (show IntO w wr (.slice (some ⟨w1.heap.size, 0, none⟩) 12 12) R by rw [hR.out]; refine IntO.base ⟨hbw.out, ?_⟩ B1.out; rw [cntL_len]; exact own_of_holds ho.out (Nat.le_refl _) (cntL_len _ _) (by omega))
      clear hR ho KK
      go_wp2_with fail
      go_ret2
      exact ⟨_, rfl, hfin.out⟩


end Go.Proofs.YtcomjcflllfobaaDoor
