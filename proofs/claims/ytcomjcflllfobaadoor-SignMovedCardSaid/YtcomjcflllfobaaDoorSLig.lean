/- The ligatures of a valid part: the program's last signs are the reference's. -/
import Derived.Test.YtcomjcflllfobaaDoorSNum
import Derived.Deep.LoopGhost
import Derived.WalkMore
namespace Go.Proofs.YtcomjcflllfobaaDoor

/-- Before sign i a ligature is open. -/
def pst (l : List Sg) : Nat → Bool
  | 0 => false
  | i + 1 => kB l i && !(laB l i)
theorem fst_pst (l : List Sg) (i : Nat) : fstB l i = (kB l i && !(pst l i)) := by
  cases i with
  | zero => rw [fst_zero]; simp [pst]
  | succ j => rw [fst_succ]; simp [pst]
def isLst (l : List Sg) (i : Nat) : Bool := kB l i && laB l i
/-- The first Last sign from number i on. -/
def nxt (l : List Sg) : Nat → Nat → Nat
  | 0, i => i
  | n + 1, i => if laB l i = true then i else nxt l n (i + 1)
def nx (l : List Sg) (i : Nat) : Nat := nxt l (l.length - i) i
theorem nx_hit {l : List Sg} {i : Nat} (hi : i < l.length) (h : laB l i = true) : nx l i = i := by
  unfold nx
  obtain ⟨n, hn⟩ : ∃ n, l.length - i = n + 1 := ⟨l.length - i - 1, by omega⟩
  rw [hn]
  exact if_pos h
theorem nx_miss {l : List Sg} {i : Nat} (hi : i < l.length) (h : laB l i = false) : nx l i = nx l (i + 1) := by
  unfold nx
  obtain ⟨n, hn⟩ : ∃ n, l.length - i = n + 1 := ⟨l.length - i - 1, by omega⟩
  rw [hn, show l.length - (i + 1) = n by omega]
  exact if_neg (by rw [h]; decide)
theorem nxt_le (l : List Sg) : ∀ (n i : Nat), i ≤ nxt l n i
  | 0, i => Nat.le_refl _
  | n + 1, i => by
    unfold nxt
    split
    · exact Nat.le_refl _
    · have := nxt_le l n (i + 1); omega
theorem nx_le (l : List Sg) (i : Nat) : i ≤ nx l i := nxt_le l _ i
/-- What a valid part is. -/
structure Good (l : List Sg) : Prop where
  one : ∀ k, k < l.length → oneE (l.getD k zS) = 0
  jn : ∀ k, k < l.length → jnB l k = true
theorem good_of {b : Bool} {l : List Sg} (h : (chkV b l).1 = 0) : Good l :=
  ⟨fun k hk => (sgn_zero ((chk_zero h).2.2 k hk)).1, fun k hk => (sgn_zero ((chk_zero h).2.2 k hk)).2⟩
theorem la_kB {l : List Sg} (G : Good l) {k : Nat} (hk : k < l.length) (h : laB l k = true) : kB l k = true := by
  have := one_last (G.one k hk) h
  unfold kB; rw [this]; rfl
/-- An open ligature goes on. -/
theorem pst_tied {l : List Sg} (G : Good l) {k : Nat} (hk : k ≤ l.length) (h : pst l k = true) : k < l.length ∧ kB l k = true := by
  cases k with
  | zero => cases h
  | succ j =>
    simp only [pst, Bool.and_eq_true, Bool.not_eq_true'] at h
    have := G.jn j (by omega)
    rw [jn_mid h.1 h.2] at this
    simp only [Bool.and_eq_true, decide_eq_true_eq] at this
    exact this
theorem pst_end {l : List Sg} (G : Good l) : pst l l.length = false := by
  cases h : pst l l.length with
  | false => rfl
  | true => exact absurd (pst_tied G (Nat.le_refl _) h).1 (Nat.lt_irrefl _)
/-- The first sign of a ligature isn't Last. -/
theorem fst_mid {l : List Sg} (G : Good l) {k : Nat} (hk : k < l.length) (h : fstB l k = true) : kB l k = true ∧ laB l k = false := by
  have hkb : kB l k = true := by unfold fstB at h; simp only [Bool.and_eq_true] at h; exact h.1
  refine ⟨hkb, ?_⟩
  cases hl : laB l k with
  | false => rfl
  | true =>
    have := G.jn k hk
    rw [jn_last hkb hl, h] at this
    cases this
/-- An open ligature has an end. -/
theorem nx_end {l : List Sg} (G : Good l) : ∀ (n k : Nat), l.length - k = n → k ≤ l.length → pst l k = true → nx l k < l.length ∧ laB l (nx l k) = true ∧ ∀ j, k ≤ j → j ≤ nx l k → kB l j = true
  | 0, k, hn, hk, h => by have := (pst_tied G hk h).1; omega
  | n + 1, k, hn, hk, h => by
    obtain ⟨hlt, hkb⟩ := pst_tied G hk h
    cases hl : laB l k with
    | true =>
      rw [nx_hit hlt hl]
      exact ⟨hlt, hl, fun j h1 h2 => by rw [show j = k by omega]; exact hkb⟩
    | false =>
      have hp : pst l (k + 1) = true := by simp [pst, hkb, hl]
      obtain ⟨h1, h2, h3⟩ := nx_end G n (k + 1) (by omega) (by omega) hp
      rw [nx_miss hlt hl]
      refine ⟨h1, h2, fun j h4 h5 => ?_⟩
      by_cases e : j = k
      · rw [e]; exact hkb
      · exact h3 j (by omega) h5
def pend (l : List Sg) (k : Nat) : List Int := if pst l k = true then [(nx l k : Int)] else []
/-- The program's last signs, behind k signs. -/
def lasP (l : List Sg) (k : Nat) : List Int := selP (isLst l) k ++ pend l k
theorem las_zero (l : List Sg) : lasP l 0 = [] := rfl
theorem las_end {l : List Sg} (G : Good l) : lasP l l.length = selP (isLst l) l.length := by
  unfold lasP pend
  rw [pst_end G, if_neg (by decide), List.append_nil]
theorem las_skip {l : List Sg} (G : Good l) {k : Nat} (hk : k < l.length) (h : fstB l k = false) : lasP l (k + 1) = lasP l k := by
  rw [fst_pst] at h
  unfold lasP pend
  cases hkb : kB l k with
  | false =>
    have hp : pst l k = false := by
      cases hp : pst l k with
      | false => rfl
      | true => rw [(pst_tied G (by omega) hp).2] at hkb; cases hkb
    have hq : pst l (k + 1) = false := by simp [pst, hkb]
    rw [sel_no (by simp [isLst, hkb]), hp, hq]; rfl
  | true =>
    rw [hkb, Bool.true_and, Bool.not_eq_false'] at h
    cases hl : laB l k with
    | true =>
      have hq : pst l (k + 1) = false := by simp [pst, hl]
      rw [sel_yes (by simp [isLst, hkb, hl]), h, hq, nx_hit hk hl, if_neg (by decide), if_pos rfl, List.append_nil]
    | false =>
      have hq : pst l (k + 1) = true := by simp [pst, hkb, hl]
      rw [sel_no (by simp [isLst, hl]), h, hq, nx_miss hk hl]
theorem las_first {l : List Sg} (G : Good l) {k : Nat} (hk : k < l.length) (h : fstB l k = true) : lasP l (k + 1) = lasP l k ++ [(nx l (k + 1) : Int)] ∧ nx l (k + 1) < l.length ∧ laB l (nx l (k + 1)) = true := by
  obtain ⟨hkb, hl⟩ := fst_mid G hk h
  have hq : pst l (k + 1) = true := by simp [pst, hkb, hl]
  have hp : pst l k = false := by rw [fst_pst, hkb] at h; simpa using h
  obtain ⟨h1, h2, _⟩ := nx_end G _ (k + 1) rfl (by omega) hq
  refine ⟨?_, h1, h2⟩
  unfold lasP pend
  rw [sel_no (by simp [isLst, hl]), hp, hq, if_pos rfl, if_neg (by decide), List.append_nil]
theorem nx_before {l : List Sg} : ∀ (n i : Nat), l.length - i = n → ∀ j, i ≤ j → j < nx l i → j < l.length → laB l j = false
  | 0, i, hn, j, h1, h2, h3 => by omega
  | n + 1, i, hn, j, h1, h2, h3 => by
    cases hl : laB l i with
    | true => rw [nx_hit (by omega) hl] at h2; omega
    | false =>
      by_cases e : j = i
      · rw [e]; exact hl
      · rw [nx_miss (by omega) hl] at h2
        exact nx_before n (i + 1) (by omega) j (by omega) h2 h3
def firR (b : Bool) (l : List Sg) : List Int := if (chkV b l).1 = 0 then selP (fstB l) l.length else []
def lasR (b : Bool) (l : List Sg) : List Int := if (chkV b l).1 = 0 then selP (isLst l) l.length else []

end Go.Proofs.YtcomjcflllfobaaDoor

/- Two lists of numbers that the call makes side by side. -/
namespace Go.Proofs.YtcomjcflllfobaaDoor
open Go.RowKit

structure Two (w0 w : World) (v u : Value) (zs us : List Int) : Prop where
  a : IntO w0 w v zs
  b : IntO w0 w u us
  sep : ∀ b, v.ownBlock = some b → u.ownBlock ≠ some b
theorem Two.swap {w0 w : World} {v u : Value} {zs us : List Int} (h : Two w0 w v u zs us) : Two w0 w u v us zs := ⟨h.b, h.a, fun b h1 h2 => h.sep b h2 h1⟩
theorem Two.start (w : World) : Two w w (.slice none 0 0) (.slice none 0 0) [] [] := ⟨IntO.none (w_refl w), IntO.none (w_refl w), fun b h => by cases h⟩
theorem Two.app {w0 w w2 : World} {v u : Value} {zs us : List Int} {z : Int} {g cap : Nat} (h : Two w0 w v u zs us)
    (hown : w2.ownsRow w0.heap.size 3 1 (.slice (some ⟨g, 0, none⟩) (zs.length + 1) cap) (zs.length + 1) (ints zs ++ ints [z])) (hg : (w.alloc (.cells #[.int .i64 z] 3)).grownBy w2 v.ownBlock)
    (hat : v.ownBlock = some g ∨ g = (w.alloc (.cells #[.int .i64 z] 3)).heap.size) : Two w0 w2 (.slice (some ⟨g, 0, none⟩) (zs.length + 1) cap) u (zs ++ [z]) us := by
  have hb := OwnL.later h.b (w_alloc (w_refl w) (.cells #[.int .i64 z] 3))
  have ha := OwnL.later h.a (w_alloc (w_refl w) (.cells #[.int .i64 z] 3))
  refine ⟨?_, ?_, ?_⟩
  · have := OwnL.app h.a (w_alloc (w_refl _) _) hown hg
    unfold IntO
    rw [ints_app, List.length_append]
    exact this
  · refine ⟨ha.far (w_refl _) hg, hb.row.kept hg ?_⟩
    cases eq : u.ownBlock with
    | none => exact .inl rfl
    | some b => exact .inr fun e2 => h.sep b e2.symm eq
  · intro b hb2 hc
    have e : g = b := by simpa [Value.ownBlock] using hb2
    subst e
    rcases hat with x | x
    · exact h.sep g x hc
    · have := (hb.row.lt g hc).2
      omega
section
variable {ops : Array Oper} {rest : List Oper} {t : TypeId} {ps : String} {af : Array Edge} {a : Act} {Q : Exit → Act → World → Prop}
theorem wl_app {w0 w : World} {d : Tmp} {s x : Operand} {v u : Value} {zs us : List Int} (z : Int) (h : Two w0 w v u zs us) (hn : zs.length ≤ 100000) (hs : a.eval s = v) (hx : a.eval x = .slice (some ⟨w.heap.size, 0, none⟩) 1 1)
    (k : ∀ g cap w2, Two w0 w2 (.slice (some ⟨g, 0, none⟩) (zs.length + 1) cap) u (zs ++ [z]) us → wpList Tryd.prog ops Q rest (a.put (some d) (.slice (some ⟨g, 0, none⟩) (zs.length + 1) cap)) w2) :
    wpList Tryd.prog ops Q ({ dst := some d, op := .call { callee := .builtin .append, args := #[s, x], argTypes := #[45, 45] }, type := t, pos := ps, after := af, guard := none } :: rest) a (w.alloc (.cells #[.int .i64 z] 3)) := by
  obtain ⟨i0, hi0, hz0, hz1, hz2⟩ := info_parts info_int
  refine wpList_append_lies _ rfl s x 45 rfl w0.heap.size 3 i0 (.int .i64 0) 1 8 Tryd.underlying45 hi0 hz0 hz1 hz2 rfl (by decide) v zs.length (ints zs) hs (OwnL.later h.a (w_alloc (w_refl w) _)).row ⟨w.heap.size, 0, none⟩ 1 1 (ints [z]) hx rfl ?_ (ints_one _) (by decide) (by unfold maxLen; omega) (by omega) (by have := h.a.bel.size; simp; omega) _ rfl ?_
  · exact World.news_of_block (HoldsB.new w 3 #[.int .i64 z])
  · intro g cap w' h2 h3 h4 _
    exact k g cap w' (h.app h2 h3 h4)
end

end Go.Proofs.YtcomjcflllfobaaDoor

/- The ligatures of a part, the program's. -/
namespace Go.Proofs.YtcomjcflllfobaaDoor
open Go.RowKit

set_option maxRecDepth 100000 in
set_option maxHeartbeats 8000000 in
theorem plig_any (nm : ByteArray) (hnm : nm.size ≤ maxLen) (l : List Sg) (p : Option Addr) (cap : Nat) (w : World) (h : SlP w 17 p l.length cap (flatG l)) (T : TabS w) :
    Calls Tryd.prog 24 #[ptv nm p l.length cap] w fun e w' => ∃ v u, e = .returned (.tuple #[v, u, .int .i64 (chkV (nameV nm.data.toList) l).1]) ∧ IntO w w' v (firR (nameV nm.data.toList) l) ∧ IntO w w' u (lasR (nameV nm.data.toList) l) := by
  have f1 := h.fit
  have m1 := h.max
  have HP := Lib.hid (pt_new w nm p l.length cap)
  have B1 := Lib.hid (w_alloc (w_refl w) (ptO nm p l.length cap))
  have CK := Lib.hid (show Calls Tryd.prog 19 #[ptv nm p l.length cap] (w.alloc (ptO nm p l.length cap)) _ from pchk_any nm hnm l p cap _ (h.later (w_alloc (w_refl w) _)) (T.al _))
  have HL := Lib.hid (h.later (w_alloc (w_refl w) (ptO nm p l.length cap)))
  have k0 := HP.out.cell (j := 0) rfl
  have k1 := HP.out.cell (j := 1) rfl
  have CG := Lib.hid (fun h => good_of (b := nameV nm.data.toList) (l := l) h)
  have CZ := Lib.hid (fun h => (chk_zero (b := nameV nm.data.toList) (l := l) h).2.1)
  have TR := Lib.hid (show firR (nameV nm.data.toList) l = if (chkV (nameV nm.data.toList) l).1 = 0 then selP (fstB l) l.length else [] from rfl)
  have TS := Lib.hid (show lasR (nameV nm.data.toList) l = if (chkV (nameV nm.data.toList) l).1 = 0 then selP (isLst l) l.length else [] from rfl)
  generalize firR (nameV nm.data.toList) l = R at *
  generalize lasR (nameV nm.data.toList) l = R2 at *
  generalize chkV (nameV nm.data.toList) l = E at *
  obtain ⟨e1, e2⟩ := E
  simp only at CK CZ CG TR TS ⊢
  clear h T
  by_cases he : e1 = 0
  case neg =>
    have hR := Lib.hid (show R = [] by rw [TR.out, if_neg he])
    have hR2 := Lib.hid (show R2 = [] by rw [TS.out, if_neg he])
    have q1 : (e1 != 0) = true := by simp [he]
    clear TR TS CZ CG he HL
    go_enter Tryd.func24, Tryd.ntmps24
    go_wp2_with fail
    go_step3
    go_wp2_with fail
    refine CK.out.mono ?_
    rintro e w1 ⟨rfl, hb⟩
    have hB := Lib.hid (w_below B1.out hb)
    clear hb CK
    go_wp2_with fail
    try rw [Exit.noGoto_ret]
    refine bodyPost_ret (v := .tuple #[.slice none 0 0, .slice none 0 0, .int .i64 e1]) (by simp [results, Tryd.results24, go_sem]) rfl ?_
    exact ⟨_, _, rfl, by rw [hR.out]; exact IntO.none hB.out, by rw [hR2.out]; exact IntO.none hB.out⟩
  subst he
  have hR := Lib.hid (show R = selP (fstB l) l.length by rw [TR.out, if_pos rfl])
  have hR2 := Lib.hid (show R2 = selP (isLst l) l.length by rw [TS.out, if_pos rfl])
  have hm := CZ.out rfl
  have G := Lib.hid (CG.out rfl)
  obtain ⟨i0, hi0, hz0, hz1, hz2⟩ := info_parts info_int
  clear TR TS CZ CG
  go_enter Tryd.func24, Tryd.ntmps24
  go_wp2_with fail
  go_step3
  go_wp2_with fail
  refine CK.out.mono ?_
  rintro e w1 ⟨rfl, hb⟩
  replace HL := Lib.hid (HL.out.later hb)
  replace HP := Lib.hid (HP.out.later hb)
  replace B1 := Lib.hid (w_below B1.out hb)
  replace k0 := cell_later hb k0
  replace k1 := cell_later hb k1
  clear hb CK
  go_wp2_with fail
  go_step3
  go_wp2_with fail
  clear k0 k1
  have FI := Lib.hid (fun i hi W h => pfst_any l i hi p cap W h)
  have SL := Lib.hid (fun k => sel_le (fstB l) k)
  have L1 := Lib.hid (fun k hk h => las_first G.out (k := k) hk h)
  have L0 := Lib.hid (fun k hk h => las_skip G.out (k := k) hk h)
  have LE := Lib.hid (las_end G.out)
  have LL := Lib.hid (show ∀ k, (lasP l k).length ≤ k + 1 from fun k => by
    unfold lasP pend
    have := sel_le (isLst l) k
    rw [List.length_append]
    split <;> simp <;> omega)
  go_loopg [7, 8, 22] l.length (fun g v u i wx => ∃ k : Nat, k + g = l.length ∧ i = .int .i64 k ∧ (∃ q c, v = .slice q (selP (fstB l) k).length c) ∧ (∃ q c, u = .slice q (lasP l k).length c) ∧ Hid (Two w1 wx v u (selP (fstB l) k) (lasP l k)))
  case atStart => exact ⟨0, by omega, rfl, ⟨none, 0, rfl⟩, ⟨none, 0, rfl⟩, Lib.hid (Two.start w1)⟩
  case round =>
    obtain ⟨k, hkg, rfl, ⟨q1, a1, rfl⟩, ⟨q2, a2, rfl⟩, ho⟩ := hrel
    have c1 := (HP.out.later ho.out.a.bel).cell (j := 1) rfl
    cases gk with
    | succ g =>
      have hlt : k < l.length := by omega
      have hlt' : (k : Int) < l.length := by omega
      have hk0 : (0 : Int) ≤ k := by omega
      have F1 := Lib.hid (FI.out k hlt wr (HL.out.later ho.out.a.bel))
      cases hf : fstB l k with
      | false =>
        rw [hf] at F1
        have hS := sel_no hf
        have hT := L0.out k hlt hf
        clear FI L1 L0 LE SL LL hf
        go_wp2_with fail
        refine F1.out.mono ?_
        rintro e w2 ⟨rfl, rfl⟩
        clear F1
        go_wp2_with fail
        go_roundg g
        case measure => omega
        case rel => exact ⟨k + 1, by omega, by go_num, ⟨q1, a1, by rw [hS]⟩, ⟨q2, a2, by rw [hT]⟩, by rw [hS, hT]; exact ho⟩
      | true =>
        rw [hf] at F1
        have hS := Lib.hid (sel_yes hf)
        obtain ⟨hT0, hN1, hN2⟩ := L1.out k hlt hf
        have hT := Lib.hid hT0
        have hN0 := nx_le l (k + 1)
        have hNb := Lib.hid (fun j => nx_before (l := l) _ (k + 1) rfl j)
        have hle1 := SL.out k
        have hle2 := LL.out k
        clear FI L1 L0 LE SL LL hf hT0
        generalize nx l (k + 1) = N at *
        obtain ⟨S, hSS⟩ : ∃ S, selP (fstB l) k = S := ⟨_, rfl⟩
        obtain ⟨U, hUU⟩ : ∃ U, lasP l k = U := ⟨_, rfl⟩
        rw [hSS] at ho hle1 hS ⊢
        rw [hUU] at ho hle2 hT ⊢
        clear hSS hUU
        have x1 : IntKind.i64.wrap ((k : Int) + 1) = ((k + 1 : Nat) : Int) := by rw [IntWalk.i64_in _ (by omega)]; omega
        go_wp2_with fail
        refine F1.out.mono ?_
        rintro e w2 ⟨rfl, rfl⟩
        clear F1
        go_wp2_with fail
        go_loopg [7, 8, 10] (N - (k + 1)) (fun g2 s7 s8 s10 wx => ∃ j : Nat, k + 1 ≤ j ∧ j + g2 = N ∧ s7 = .slice q1 S.length a1 ∧ s8 = .slice q2 U.length a2 ∧ s10 = .int .i64 (j : Int) ∧ wr = wx)
        case atStart => exact ⟨k + 1, by omega, by omega, rfl, rfl, rfl, rfl⟩
        case round =>
          clear x1
          obtain ⟨j, hj1, hj2, rfl, rfl, rfl, rfl⟩ := hrel
          have hjl : (j : Int) < l.length := by omega
          have hj0 : (0 : Int) ≤ j := by omega
          obtain ⟨b, off, hpp, _, hx⟩ := (HL.out.later ho.out.a.bel).sg (sg_some (show j < l.length by omega))
          have n7 := hx.e7
          have lj : (l.getD j zS).last = laB l j := rfl
          rw [lj] at n7
          clear hx lj
          subst hpp
          by_cases e : j = N
          · rw [e, hN2] at n7
            clear hNb
            go_wp2_with (first | (refine wl_app (k : Int) ho.out (by omega) (by kernel_rfl) (by kernel_rfl) ?_) | fail)
            intro g1 d1 wA hA
            go_wp2_with (first | (refine wl_app (N : Int) hA.swap (by omega) (by kernel_rfl) (by kernel_rfl) ?_) | fail)
            intro g3 d3 wB hB
            have HN := Lib.hid hB.swap

            clear hA hB ho
            go_wp2_with fail
            go_roundg g
            case measure => omega
            case rel => exact ⟨k + 1, by omega, by go_num, ⟨_, d1, by rw [hS.out, List.length_append]; rfl⟩, ⟨_, d3, by rw [hT.out, List.length_append]; rfl⟩, by rw [hS.out, hT.out]; exact HN⟩
          · have hlj := hNb.out j hj1 (by omega) (by omega)
            rw [hlj] at n7
            clear hNb hlj
            go_wp2_with fail
            go_roundg (N - (j + 1))
            case measure => omega
            case rel => exact ⟨j + 1, by omega, by omega, rfl, rfl, by go_num, rfl⟩
    | zero =>
      obtain rfl : k = l.length := by omega
      have hfin1 := Lib.hid (show IntO w wr (.slice q1 (selP (fstB l) l.length).length a1) R by rw [hR.out]; exact IntO.base ho.out.a B1.out)
      have hfin2 := Lib.hid (show IntO w wr (.slice q2 (lasP l l.length).length a2) R2 by rw [hR2.out, ← LE.out]; exact IntO.base ho.out.b B1.out)
      clear hR hR2 ho FI L1 L0 LE SL LL
      generalize (selP (fstB l) l.length).length = n8 at *
      generalize (lasP l l.length).length = n9 at *
      go_wp2_with fail
      try rw [Exit.noGoto_ret]
      refine bodyPost_ret (v := .tuple #[.slice q1 n8 a1, .slice q2 n9 a2, .int .i64 0]) (by simp [results, Tryd.results24, go_sem]) rfl ?_
      exact ⟨_, _, rfl, hfin1.out, hfin2.out⟩

end Go.Proofs.YtcomjcflllfobaaDoor

/- The ligatures of a part, the reference's. -/
namespace Go.Proofs.YtcomjcflllfobaaDoor
open Go.RowKit

set_option maxRecDepth 100000 in
set_option maxHeartbeats 8000000 in
theorem rlig_any (nm : ByteArray) (hnm : nm.size ≤ maxLen) (l : List Sg) (p : Option Addr) (cap : Nat) (w : World) (h : SlP w 17 p l.length cap (flatG l)) :
    Calls Tryd.prog 25 #[ptv nm p l.length cap] w fun e w' => ∃ v u, e = .returned (.tuple #[v, u, .int .i64 (chkV (nameV nm.data.toList) l).1]) ∧ IntO w w' v (firR (nameV nm.data.toList) l) ∧ IntO w w' u (lasR (nameV nm.data.toList) l) := by
  have f1 := h.fit
  have m1 := h.max
  have HP := Lib.hid (pt_new w nm p l.length cap)
  have B1 := Lib.hid (w_alloc (w_refl w) (ptO nm p l.length cap))
  have CK := Lib.hid (show Calls Tryd.prog 20 #[ptv nm p l.length cap] (w.alloc (ptO nm p l.length cap)) _ from rchk_any nm hnm l p cap _ (h.later (w_alloc (w_refl w) _)))
  have HL := Lib.hid (h.later (w_alloc (w_refl w) (ptO nm p l.length cap)))
  have k0 := HP.out.cell (j := 0) rfl
  have k1 := HP.out.cell (j := 1) rfl
  have CG := Lib.hid (fun h => good_of (b := nameV nm.data.toList) (l := l) h)
  have CZ := Lib.hid (fun h => (chk_zero (b := nameV nm.data.toList) (l := l) h).2.1)
  have TR := Lib.hid (show firR (nameV nm.data.toList) l = if (chkV (nameV nm.data.toList) l).1 = 0 then selP (fstB l) l.length else [] from rfl)
  have TS := Lib.hid (show lasR (nameV nm.data.toList) l = if (chkV (nameV nm.data.toList) l).1 = 0 then selP (isLst l) l.length else [] from rfl)
  generalize firR (nameV nm.data.toList) l = R at *
  generalize lasR (nameV nm.data.toList) l = R2 at *
  generalize chkV (nameV nm.data.toList) l = E at *
  obtain ⟨e1, e2⟩ := E
  simp only at CK CZ CG TR TS ⊢
  clear h
  by_cases he : e1 = 0
  case neg =>
    have hR := Lib.hid (show R = [] by rw [TR.out, if_neg he])
    have hR2 := Lib.hid (show R2 = [] by rw [TS.out, if_neg he])
    have q1 : (e1 != 0) = true := by simp [he]
    clear TR TS CZ CG he HL
    go_enter Tryd.func25, Tryd.ntmps25
    go_wp2_with fail
    refine CK.out.mono ?_
    rintro e w1 ⟨rfl, hb⟩
    have hB := Lib.hid (w_below B1.out hb)
    clear hb CK
    go_wp2_with fail
    refine bodyPost_ret (v := .tuple #[.slice none 0 0, .slice none 0 0, .int .i64 e1]) (by simp [results, Tryd.results25, go_sem]) rfl ?_
    exact ⟨_, _, rfl, by rw [hR.out]; exact IntO.none hB.out, by rw [hR2.out]; exact IntO.none hB.out⟩
  subst he
  have hR := Lib.hid (show R = selP (fstB l) l.length by rw [TR.out, if_pos rfl])
  have hR2 := Lib.hid (show R2 = selP (isLst l) l.length by rw [TS.out, if_pos rfl])
  have hm := CZ.out rfl
  have G := Lib.hid (CG.out rfl)
  obtain ⟨i0, hi0, hz0, hz1, hz2⟩ := info_parts info_int
  clear TR TS CZ CG
  go_enter Tryd.func25, Tryd.ntmps25
  go_wp2_with fail
  refine CK.out.mono ?_
  rintro e w1 ⟨rfl, hb⟩
  replace HL := Lib.hid (HL.out.later hb)
  replace HP := Lib.hid (HP.out.later hb)
  replace B1 := Lib.hid (w_below B1.out hb)
  replace k0 := cell_later hb k0
  replace k1 := cell_later hb k1
  clear hb CK
  go_wp2_with fail
  clear k0 k1
  have TD := Lib.hid (fun i W h => rtied_any l i p cap W h)
  have SL := Lib.hid (fun k => sel_le (fstB l) k)
  have SM := Lib.hid (fun k => sel_le (isLst l) k)
  clear G
  go_loopw [7, 8, 9] (fun v u i wr => ∃ k : Nat, k ≤ l.length ∧ i = .int .i64 k ∧ (∃ q c, v = .slice q (selP (fstB l) k).length c) ∧ (∃ q c, u = .slice q (selP (isLst l) k).length c) ∧ Hid (Two w1 wr v u (selP (fstB l) k) (selP (isLst l) k))) (fun _ _ i _ => l.length - (intOf i).toNat)
  case atStart => exact ⟨0, by omega, rfl, ⟨none, 0, rfl⟩, ⟨none, 0, rfl⟩, Lib.hid (Two.start w1)⟩
  case round =>
    rename World => wr
    obtain ⟨k, hk, rfl, ⟨q1, a1, rfl⟩, ⟨q2, a2, rfl⟩, ho⟩ := hrel
    have c1 := (HP.out.later ho.out.a.bel).cell (j := 1) rfl
    by_cases hlt : k < l.length
    · have hlt' : (k : Int) < l.length := by omega
      have hk0 : (0 : Int) ≤ k := by omega
      have T0 := Lib.hid (TD.out k wr (HL.out.later ho.out.a.bel))
      rw [show tdB l (k : Int) = kB l k by unfold tdB; rw [decide_eq_true (by omega), Bool.true_and, Int.toNat_natCast]] at T0
      have hle1 := SL.out k
      have hle2 := SM.out k
      clear SL SM hR hR2
      cases hk4 : kB l k with
      | false =>
        rw [hk4] at T0
        have hS := sel_no (show fstB l k = false by rw [fst_pst, hk4]; rfl)
        have hT := sel_no (show isLst l k = false by unfold isLst; rw [hk4]; rfl)
        clear TD hk4
        go_wp2_with fail
        refine T0.out.mono ?_
        rintro e w2 ⟨rfl, rfl⟩
        clear T0
        go_wp2_with fail
        go_roundw
        case rel => exact ⟨k + 1, by omega, by go_num, ⟨q1, a1, by rw [hS]⟩, ⟨q2, a2, by rw [hT]⟩, by rw [hS, hT]; exact ho⟩
        case measure => simp [intOf]; omega
      | true =>
        rw [hk4] at T0
        obtain ⟨b, off, hpp, _, hx⟩ := (HL.out.later ho.out.a.bel).sg (sg_some hlt)
        have n7 := hx.e7
        have lk : (l.getD k zS).last = laB l k := rfl
        clear hx
        subst hpp
        obtain ⟨J, hJ⟩ : ∃ J : Int, (k : Int) - 1 = J := ⟨_, rfl⟩
        have xp : IntKind.i64.wrap ((k : Int) - 1) = J := by rw [IntWalk.i64_in _ (by omega)]; exact hJ
        have TP := Lib.hid (TD.out J wr (HL.out.later ho.out.a.bel))
        by_cases hz : k = 0
        · have hps : pst l k = false := by rw [hz]; rfl
          rw [show tdB l J = false by rw [← hJ, hz]; exact td_first l] at TP
          clear hJ hz TD
          have hS := Lib.hid (sel_yes (show fstB l k = true by rw [fst_pst, hk4, hps]; rfl))
          cases hl : laB l k with
          | true =>
            have hT := Lib.hid (sel_yes (show isLst l k = true by unfold isLst; rw [hk4, hl]; rfl))
            rw [lk, hl] at n7
            have hlk := hl
            clear hl hps hk4
            obtain ⟨S, hSS⟩ : ∃ S, selP (fstB l) k = S := ⟨_, rfl⟩
            obtain ⟨U, hUU⟩ : ∃ U, selP (isLst l) k = U := ⟨_, rfl⟩
            rw [hSS] at ho hle1 hS ⊢
            rw [hUU] at ho hle2 hT ⊢
            clear hSS hUU
            go_wp2_with fail
            refine T0.out.mono ?_
            rintro e w2 ⟨rfl, rfl⟩
            clear T0
            go_wp2_with fail
            refine TP.out.mono ?_
            rintro e w2 ⟨rfl, rfl⟩
            clear TP
            go_wp2_with (at_builtin; refine wl_app (k : Int) ho.out (by omega) (by kernel_rfl) (by kernel_rfl) ?_)
            intro g1 d1 wA hA
            have HA := Lib.hid hA
            clear hA
            have c2 := (HP.out.later HA.out.a.bel).cell (j := 1) rfl
            obtain ⟨_, _, e9, _, hx2⟩ := (HL.out.later HA.out.a.bel).sg (sg_some hlt)
            injection e9 with e9
            injection e9 with e9 e10 _
            subst e9 e10
            have z7 := hx2.e7
            rw [lk] at z7
            have hz7 : laB l k = true := hlk
            rw [hz7] at z7
            clear hx2 n7 hz7 hlk ho c1
            go_wp2_with (at_builtin; refine wl_app (k : Int) (HA.out).swap (by omega) (by kernel_rfl) (by kernel_rfl) ?_)
            intro g3 d3 wB hB
            have HN := Lib.hid hB.swap
            clear hB
            go_wp2_with fail
            go_roundw
            case rel => exact ⟨k + 1, by omega, by go_num, ⟨_, d1, by rw [hS.out, List.length_append]; rfl⟩, ⟨_, d3, by rw [hT.out, List.length_append]; rfl⟩, by rw [hS.out, hT.out]; exact HN⟩
            case measure => simp [intOf]; omega
          | false =>
            have hT := Lib.hid (sel_no (show isLst l k = false by unfold isLst; rw [hk4, hl]; rfl))
            rw [lk, hl] at n7
            have hlk := hl
            clear hl hps hk4
            obtain ⟨S, hSS⟩ : ∃ S, selP (fstB l) k = S := ⟨_, rfl⟩
            obtain ⟨U, hUU⟩ : ∃ U, selP (isLst l) k = U := ⟨_, rfl⟩
            rw [hSS] at ho hle1 hS ⊢
            rw [hUU] at ho hle2 hT ⊢
            clear hSS hUU
            go_wp2_with fail
            refine T0.out.mono ?_
            rintro e w2 ⟨rfl, rfl⟩
            clear T0
            go_wp2_with fail
            refine TP.out.mono ?_
            rintro e w2 ⟨rfl, rfl⟩
            clear TP
            go_wp2_with (at_builtin; refine wl_app (k : Int) ho.out (by omega) (by kernel_rfl) (by kernel_rfl) ?_)
            intro g1 d1 wA hA
            have HA := Lib.hid hA
            clear hA
            have c2 := (HP.out.later HA.out.a.bel).cell (j := 1) rfl
            obtain ⟨_, _, e9, _, hx2⟩ := (HL.out.later HA.out.a.bel).sg (sg_some hlt)
            injection e9 with e9
            injection e9 with e9 e10 _
            subst e9 e10
            have z7 := hx2.e7
            rw [lk] at z7
            have hz7 : laB l k = false := hlk
            rw [hz7] at z7
            clear hx2 n7 hz7 hlk ho c1
            go_wp2_with fail
            go_roundw
            case rel => exact ⟨k + 1, by omega, by go_num, ⟨_, d1, by rw [hS.out, List.length_append]; rfl⟩, ⟨q2, a2, by rw [hT.out]⟩, by rw [hS.out, hT.out]; exact HA⟩
            case measure => simp [intOf]; omega
        · obtain ⟨m, hm2⟩ : ∃ m, k = m + 1 := ⟨k - 1, by omega⟩
          have hps0 : pst l k = (kB l m && !(laB l m)) := by rw [hm2]; rfl
          rw [show tdB l J = kB l m by rw [← hJ, hm2]; exact td_prev (by omega)] at TP
          have hJ0 : 0 ≤ J := by omega
          have hJ1 : J < l.length := by omega
          obtain ⟨o', ho'⟩ : ∃ o, off + m * 17 = o := ⟨_, rfl⟩
          have hoff : off + J.toNat * 17 = o' := by rw [← ho', show J.toNat = m by omega]
          obtain ⟨_, _, e9, _, hx3⟩ := (HL.out.later ho.out.a.bel).sg (sg_some (show m < l.length by omega))
          injection e9 with e9
          injection e9 with e9 e10 _
          subst e9 e10
          have j7 := hx3.e7
          rw [ho', show (l.getD m zS).last = laB l m from rfl] at j7
          clear hx3 hJ hz ho' TD hm2
          cases hp : kB l m with
          | false =>
            rw [hp] at TP hps0
            have hps : pst l k = false := hps0
            clear hps0 hp
            have hS := Lib.hid (sel_yes (show fstB l k = true by rw [fst_pst, hk4, hps]; rfl))
            cases hl : laB l k with
            | true =>
              have hT := Lib.hid (sel_yes (show isLst l k = true by unfold isLst; rw [hk4, hl]; rfl))
              rw [lk, hl] at n7
              have hlk := hl
              clear hl hps hk4
              obtain ⟨S, hSS⟩ : ∃ S, selP (fstB l) k = S := ⟨_, rfl⟩
              obtain ⟨U, hUU⟩ : ∃ U, selP (isLst l) k = U := ⟨_, rfl⟩
              rw [hSS] at ho hle1 hS ⊢
              rw [hUU] at ho hle2 hT ⊢
              clear hSS hUU
              go_wp2_with fail
              refine T0.out.mono ?_
              rintro e w2 ⟨rfl, rfl⟩
              clear T0
              go_wp2_with fail
              refine TP.out.mono ?_
              rintro e w2 ⟨rfl, rfl⟩
              clear TP
              go_wp2_with (at_builtin; refine wl_app (k : Int) ho.out (by omega) (by kernel_rfl) (by kernel_rfl) ?_)
              intro g1 d1 wA hA
              have HA := Lib.hid hA
              clear hA
              have c2 := (HP.out.later HA.out.a.bel).cell (j := 1) rfl
              obtain ⟨_, _, e9, _, hx2⟩ := (HL.out.later HA.out.a.bel).sg (sg_some hlt)
              injection e9 with e9
              injection e9 with e9 e10 _
              subst e9 e10
              have z7 := hx2.e7
              rw [lk] at z7
              have hz7 : laB l k = true := hlk
              rw [hz7] at z7
              clear hx2 n7 hz7 hlk ho c1 j7
              go_wp2_with (at_builtin; refine wl_app (k : Int) (HA.out).swap (by omega) (by kernel_rfl) (by kernel_rfl) ?_)
              intro g3 d3 wB hB
              have HN := Lib.hid hB.swap
              clear hB
              go_wp2_with fail
              go_roundw
              case rel => exact ⟨k + 1, by omega, by go_num, ⟨_, d1, by rw [hS.out, List.length_append]; rfl⟩, ⟨_, d3, by rw [hT.out, List.length_append]; rfl⟩, by rw [hS.out, hT.out]; exact HN⟩
              case measure => simp [intOf]; omega
            | false =>
              have hT := Lib.hid (sel_no (show isLst l k = false by unfold isLst; rw [hk4, hl]; rfl))
              rw [lk, hl] at n7
              have hlk := hl
              clear hl hps hk4
              obtain ⟨S, hSS⟩ : ∃ S, selP (fstB l) k = S := ⟨_, rfl⟩
              obtain ⟨U, hUU⟩ : ∃ U, selP (isLst l) k = U := ⟨_, rfl⟩
              rw [hSS] at ho hle1 hS ⊢
              rw [hUU] at ho hle2 hT ⊢
              clear hSS hUU
              go_wp2_with fail
              refine T0.out.mono ?_
              rintro e w2 ⟨rfl, rfl⟩
              clear T0
              go_wp2_with fail
              refine TP.out.mono ?_
              rintro e w2 ⟨rfl, rfl⟩
              clear TP
              go_wp2_with (at_builtin; refine wl_app (k : Int) ho.out (by omega) (by kernel_rfl) (by kernel_rfl) ?_)
              intro g1 d1 wA hA
              have HA := Lib.hid hA
              clear hA
              have c2 := (HP.out.later HA.out.a.bel).cell (j := 1) rfl
              obtain ⟨_, _, e9, _, hx2⟩ := (HL.out.later HA.out.a.bel).sg (sg_some hlt)
              injection e9 with e9
              injection e9 with e9 e10 _
              subst e9 e10
              have z7 := hx2.e7
              rw [lk] at z7
              have hz7 : laB l k = false := hlk
              rw [hz7] at z7
              clear hx2 n7 hz7 hlk ho c1 j7
              go_wp2_with fail
              go_roundw
              case rel => exact ⟨k + 1, by omega, by go_num, ⟨_, d1, by rw [hS.out, List.length_append]; rfl⟩, ⟨q2, a2, by rw [hT.out]⟩, by rw [hS.out, hT.out]; exact HA⟩
              case measure => simp [intOf]; omega
          | true =>
            rw [hp] at TP hps0
            cases hlj : laB l m with
            | true =>
              rw [hlj] at j7 hps0
              have hps : pst l k = false := hps0
              clear hps0 hp hlj
              have hS := Lib.hid (sel_yes (show fstB l k = true by rw [fst_pst, hk4, hps]; rfl))
              cases hl : laB l k with
              | true =>
                have hT := Lib.hid (sel_yes (show isLst l k = true by unfold isLst; rw [hk4, hl]; rfl))
                rw [lk, hl] at n7
                have hlk := hl
                clear hl hps hk4
                obtain ⟨S, hSS⟩ : ∃ S, selP (fstB l) k = S := ⟨_, rfl⟩
                obtain ⟨U, hUU⟩ : ∃ U, selP (isLst l) k = U := ⟨_, rfl⟩
                rw [hSS] at ho hle1 hS ⊢
                rw [hUU] at ho hle2 hT ⊢
                clear hSS hUU
                go_wp2_with fail
                refine T0.out.mono ?_
                rintro e w2 ⟨rfl, rfl⟩
                clear T0
                go_wp2_with fail
                refine TP.out.mono ?_
                rintro e w2 ⟨rfl, rfl⟩
                clear TP
                go_wp2_with (at_builtin; refine wl_app (k : Int) ho.out (by omega) (by kernel_rfl) (by kernel_rfl) ?_)
                intro g1 d1 wA hA
                have HA := Lib.hid hA
                clear hA
                have c2 := (HP.out.later HA.out.a.bel).cell (j := 1) rfl
                obtain ⟨_, _, e9, _, hx2⟩ := (HL.out.later HA.out.a.bel).sg (sg_some hlt)
                injection e9 with e9
                injection e9 with e9 e10 _
                subst e9 e10
                have z7 := hx2.e7
                rw [lk] at z7
                have hz7 : laB l k = true := hlk
                rw [hz7] at z7
                clear hx2 n7 hz7 hlk ho c1 j7
                go_wp2_with (at_builtin; refine wl_app (k : Int) (HA.out).swap (by omega) (by kernel_rfl) (by kernel_rfl) ?_)
                intro g3 d3 wB hB
                have HN := Lib.hid hB.swap
                clear hB
                go_wp2_with fail
                go_roundw
                case rel => exact ⟨k + 1, by omega, by go_num, ⟨_, d1, by rw [hS.out, List.length_append]; rfl⟩, ⟨_, d3, by rw [hT.out, List.length_append]; rfl⟩, by rw [hS.out, hT.out]; exact HN⟩
                case measure => simp [intOf]; omega
              | false =>
                have hT := Lib.hid (sel_no (show isLst l k = false by unfold isLst; rw [hk4, hl]; rfl))
                rw [lk, hl] at n7
                have hlk := hl
                clear hl hps hk4
                obtain ⟨S, hSS⟩ : ∃ S, selP (fstB l) k = S := ⟨_, rfl⟩
                obtain ⟨U, hUU⟩ : ∃ U, selP (isLst l) k = U := ⟨_, rfl⟩
                rw [hSS] at ho hle1 hS ⊢
                rw [hUU] at ho hle2 hT ⊢
                clear hSS hUU
                go_wp2_with fail
                refine T0.out.mono ?_
                rintro e w2 ⟨rfl, rfl⟩
                clear T0
                go_wp2_with fail
                refine TP.out.mono ?_
                rintro e w2 ⟨rfl, rfl⟩
                clear TP
                go_wp2_with (at_builtin; refine wl_app (k : Int) ho.out (by omega) (by kernel_rfl) (by kernel_rfl) ?_)
                intro g1 d1 wA hA
                have HA := Lib.hid hA
                clear hA
                have c2 := (HP.out.later HA.out.a.bel).cell (j := 1) rfl
                obtain ⟨_, _, e9, _, hx2⟩ := (HL.out.later HA.out.a.bel).sg (sg_some hlt)
                injection e9 with e9
                injection e9 with e9 e10 _
                subst e9 e10
                have z7 := hx2.e7
                rw [lk] at z7
                have hz7 : laB l k = false := hlk
                rw [hz7] at z7
                clear hx2 n7 hz7 hlk ho c1 j7
                go_wp2_with fail
                go_roundw
                case rel => exact ⟨k + 1, by omega, by go_num, ⟨_, d1, by rw [hS.out, List.length_append]; rfl⟩, ⟨q2, a2, by rw [hT.out]⟩, by rw [hS.out, hT.out]; exact HA⟩
                case measure => simp [intOf]; omega
            | false =>
              rw [hlj] at j7 hps0
              have hps : pst l k = true := hps0
              clear hps0 hp hlj
              have hS := Lib.hid (sel_no (show fstB l k = false by rw [fst_pst, hk4, hps]; rfl))
              cases hl : laB l k with
              | true =>
                have hT := Lib.hid (sel_yes (show isLst l k = true by unfold isLst; rw [hk4, hl]; rfl))
                rw [lk, hl] at n7
                have hlk := hl
                clear hl hps hk4
                obtain ⟨S, hSS⟩ : ∃ S, selP (fstB l) k = S := ⟨_, rfl⟩
                obtain ⟨U, hUU⟩ : ∃ U, selP (isLst l) k = U := ⟨_, rfl⟩
                rw [hSS] at ho hle1 hS ⊢
                rw [hUU] at ho hle2 hT ⊢
                clear hSS hUU
                go_wp2_with fail
                refine T0.out.mono ?_
                rintro e w2 ⟨rfl, rfl⟩
                clear T0
                go_wp2_with fail
                refine TP.out.mono ?_
                rintro e w2 ⟨rfl, rfl⟩
                clear TP
                clear hlk
                go_wp2_with (at_builtin; refine wl_app (k : Int) (ho.out).swap (by omega) (by kernel_rfl) (by kernel_rfl) ?_)
                intro g3 d3 wB hB
                have HN := Lib.hid hB.swap
                clear hB
                go_wp2_with fail
                go_roundw
                case rel => exact ⟨k + 1, by omega, by go_num, ⟨q1, a1, by rw [hS.out]⟩, ⟨_, d3, by rw [hT.out, List.length_append]; rfl⟩, by rw [hS.out, hT.out]; exact HN⟩
                case measure => simp [intOf]; omega
              | false =>
                have hT := Lib.hid (sel_no (show isLst l k = false by unfold isLst; rw [hk4, hl]; rfl))
                rw [lk, hl] at n7
                have hlk := hl
                clear hl hps hk4
                obtain ⟨S, hSS⟩ : ∃ S, selP (fstB l) k = S := ⟨_, rfl⟩
                obtain ⟨U, hUU⟩ : ∃ U, selP (isLst l) k = U := ⟨_, rfl⟩
                rw [hSS] at ho hle1 hS ⊢
                rw [hUU] at ho hle2 hT ⊢
                clear hSS hUU
                go_wp2_with fail
                refine T0.out.mono ?_
                rintro e w2 ⟨rfl, rfl⟩
                clear T0
                go_wp2_with fail
                refine TP.out.mono ?_
                rintro e w2 ⟨rfl, rfl⟩
                clear TP
                clear hlk
                go_wp2_with fail
                go_roundw
                case rel => exact ⟨k + 1, by omega, by go_num, ⟨q1, a1, by rw [hS.out]⟩, ⟨q2, a2, by rw [hT.out]⟩, by rw [hS.out, hT.out]; exact ho⟩
                case measure => simp [intOf]; omega
    · obtain rfl : k = l.length := by omega
      have hfin1 := Lib.hid (show IntO w wr (.slice q1 (selP (fstB l) l.length).length a1) R by rw [hR.out]; exact IntO.base ho.out.a B1.out)
      have hfin2 := Lib.hid (show IntO w wr (.slice q2 (selP (isLst l) l.length).length a2) R2 by rw [hR2.out]; exact IntO.base ho.out.b B1.out)
      clear hR hR2 ho TD SL SM
      generalize (selP (fstB l) l.length).length = n8 at *
      generalize (selP (isLst l) l.length).length = n9 at *
      go_wp2_with fail
      refine bodyPost_ret (v := .tuple #[.slice q1 n8 a1, .slice q2 n9 a2, .int .i64 0]) (by simp [results, Tryd.results25, go_sem]) rfl ?_
      exact ⟨_, _, rfl, hfin1.out, hfin2.out⟩

end Go.Proofs.YtcomjcflllfobaaDoor
