/- Valid lists of signs as the runs of a small machine: inside a ligature or not. -/
import Derived.Test.YtcomjcflllfobaaDoorSLig
import Derived.Test.YtcomjcflllfobaaDoorSKnown
import Derived.Test.YtcomjcflllfobaaDoorLgLate
namespace Go.Proofs.YtcomjcflllfobaaDoor
open Go.RowKit

def stR : Bool → List Sg → Option Bool
  | b, [] => some b
  | b, s :: r => if oneE s ≠ 0 then none else if (s.kind == 4) = true then (if s.last = true then (if b = true then stR false r else none) else stR true r) else (if b = true then none else stR false r)
theorem st_nil (b : Bool) : stR b [] = some b := rfl
theorem st_cons (b : Bool) (s : Sg) (r : List Sg) : stR b (s :: r) = if oneE s ≠ 0 then none else if (s.kind == 4) = true then (if s.last = true then (if b = true then stR false r else none) else stR true r) else (if b = true then none else stR false r) := rfl
theorem st_app : ∀ (x y : List Sg) (b : Bool), stR b (x ++ y) = (stR b x).bind fun c => stR c y
  | [], y, b => rfl
  | s :: x, y, b => by
    rw [List.cons_append, st_cons, st_cons]
    have h1 := st_app x y true
    have h2 := st_app x y false
    repeat' split
    all_goals first
      | rfl
      | assumption
/-- What a step asks, and where it leads. -/
theorem st_step {b c : Bool} {s : Sg} {r : List Sg} (h : stR b (s :: r) = some c) :
    oneE s = 0 ∧ ((s.kind == 4) = false ∧ b = false ∧ stR false r = some c ∨ (s.kind == 4) = true ∧ s.last = true ∧ b = true ∧ stR false r = some c ∨ (s.kind == 4) = true ∧ s.last = false ∧ stR true r = some c) := by
  rw [st_cons] at h
  by_cases h0 : oneE s = 0
  · rw [if_neg (by rw [h0]; decide)] at h
    refine ⟨h0, ?_⟩
    cases hk : (s.kind == 4) <;> cases hl : s.last <;> cases b <;> simp [hk, hl] at h ⊢ <;> exact h
  · rw [if_pos h0] at h; cases h
/-- One sign more that is no sign of a ligature. -/
theorem st_free {s : Sg} (h : oneE s = 0) (k : (s.kind == 4) = false) : stR false [s] = some false := by
  rw [st_cons, if_neg (by rw [h]; decide), if_neg (by rw [k]; decide), if_neg (by decide)]; rfl
/-- Where a run ends. -/
theorem st_end : ∀ (x : List Sg) (s : Sg) (b d : Bool), stR b (x ++ [s]) = some d → d = ((s.kind == 4) && !s.last)
  | [], s, b, d, h => by
    obtain ⟨_, ⟨h1, _, h2⟩ | ⟨h1, h3, _, h2⟩ | ⟨h1, h3, h2⟩⟩ := st_step (r := []) h
    · rw [h1]; rw [st_nil] at h2; injection h2 with h2; exact h2.symm
    · rw [h1, h3]; rw [st_nil] at h2; injection h2 with h2; exact h2.symm
    · rw [h1, h3]; rw [st_nil] at h2; injection h2 with h2; exact h2.symm
  | t :: x, s, b, d, h => by
    rw [List.cons_append] at h
    obtain ⟨_, ⟨_, _, h2⟩ | ⟨_, _, _, h2⟩ | ⟨_, _, h2⟩⟩ := st_step h
    · exact st_end x s _ d h2
    · exact st_end x s _ d h2
    · exact st_end x s _ d h2
theorem getD_mid (x y : List Sg) {i : Nat} (h : i < x.length) : (x ++ y).getD i zS = x[i] := by
  rw [List.getD_eq_getElem?_getD, List.getElem?_append_left h, List.getElem?_eq_getElem h]; rfl
/-- A run that closes makes no errors, whatever comes behind. -/
theorem st_good (x y : List Sg) : ∀ (n i : Nat), i + n = x.length → stR (pst (x ++ y) i) (x.drop i) = some false → ∀ k, i ≤ k → k < x.length → sgnE (x ++ y) k = 0
  | 0, i, e, _, k, h1, h2 => by omega
  | n + 1, i, e, h, k, h1, h2 => by
    have hi : i < x.length := by omega
    rw [List.drop_eq_getElem_cons hi] at h
    obtain ⟨h0, hc⟩ := st_step h
    have hg := getD_mid x y hi
    have hk : kB (x ++ y) i = (x[i].kind == 4) := by unfold kB; rw [hg]
    have hl : laB (x ++ y) i = x[i].last := by unfold laB; rw [hg]
    have hp : pst (x ++ y) (i + 1) = ((x[i].kind == 4) && !x[i].last) := by show (kB _ i && !(laB _ i)) = _; rw [hk, hl]
    have h9 : oneE ((x ++ y).getD i zS) = 0 := by rw [hg]; exact h0
    have key : sgnE (x ++ y) i = 0 ∧ stR (pst (x ++ y) (i + 1)) (x.drop (i + 1)) = some false := by
      rcases hc with ⟨a, _, c⟩ | ⟨a, d, b, c⟩ | ⟨a, d, c⟩
      · exact ⟨sgn_ok h9 (jn_free (hk.trans a)), by rw [hp, a]; exact c⟩
      · refine ⟨sgn_ok h9 ?_, by rw [hp, a, d]; exact c⟩
        rw [jn_last (hk.trans a) (hl.trans d), fst_pst, b]; simp
      · refine ⟨sgn_ok h9 ?_, by rw [hp, a, d]; exact c⟩
        rw [jn_mid (hk.trans a) (hl.trans d)]
        by_cases hj : i + 1 < x.length
        · rw [List.drop_eq_getElem_cons hj] at c
          obtain ⟨_, ⟨_, b, _⟩ | ⟨a2, _⟩ | ⟨a2, _⟩⟩ := st_step c
          · cases b
          all_goals
            have h3 : i + 1 < (x ++ y).length := by rw [List.length_append]; omega
            have h4 : kB (x ++ y) (i + 1) = true := by unfold kB; rw [getD_mid x y hj]; exact a2
            rw [h4, decide_eq_true h3]; rfl
        · rw [List.drop_eq_nil_of_le (by omega), st_nil] at c
          cases c
    by_cases hik : k = i
    · subst hik; exact key.1
    · exact st_good x y n (i + 1) (by omega) key.2 k (by omega) h2
theorem st_ok {l : List Sg} (h : stR false l = some false) (hn : l.length ≤ 400) : chkV true l = (0, 0) :=
  chk_ok (by omega) fun k hk => by
    have := st_good l [] l.length 0 (by omega) (by simpa [pst] using h) k (by omega) hk
    rwa [List.append_nil] at this
/-- A wrong sign behind a run that closes is the first error. -/
theorem st_first {x y : List Sg} {s : Sg} (h : stR false x = some false) (hs : oneE s ≠ 0) (hn : (x ++ s :: y).length ≤ 400) : chkV true (x ++ s :: y) = (oneE s, x.length) := by
  have hx : (x ++ s :: y).getD x.length zS = s := by rw [List.getD_eq_getElem?_getD, List.getElem?_append_right (Nat.le_refl _)]; simp
  have hv : sgnE (x ++ s :: y) x.length = oneE s := by rw [sgn_one (by rw [hx]; exact hs), hx]
  rw [chk_hit (by omega) (j := x.length) (by rw [List.length_append, List.length_cons]; omega) (by rw [hv]; exact hs) (fun k hk => st_good x _ x.length 0 (by omega) (by simpa [pst] using h) k (by omega) hk), hv]
/-- A prefix of a run. -/
theorem st_take {l : List Sg} {c : Bool} (h : stR false l = some c) {i : Nat} (hi : i ≤ l.length) : stR false (l.take i) = some (pst l i) ∧ stR (pst l i) (l.drop i) = some c := by
  have e := st_app (l.take i) (l.drop i) false
  rw [List.take_append_drop, h] at e
  cases hd : stR false (l.take i) with
  | none => rw [hd] at e; cases e
  | some d =>
    rw [hd] at e
    have hp : d = pst l i := by
      cases i with
      | zero => rw [List.take_zero, st_nil] at hd; injection hd with hd; exact hd.symm
      | succ j =>
        have hj : j < l.length := by omega
        have ht : l.take (j + 1) = l.take j ++ [l[j]] := by rw [List.take_add_one, List.getElem?_eq_getElem hj]; rfl
        rw [ht] at hd
        have := st_end _ _ _ _ hd
        have hg : l.getD j zS = l[j] := by rw [List.getD_eq_getElem?_getD, List.getElem?_eq_getElem hj]; rfl
        rw [this]
        show _ = (kB l j && !(laB l j))
        unfold kB laB
        rw [hg]
    subst hp
    exact ⟨rfl, e.symm⟩
/-- A sign put in where no ligature is open. -/
theorem st_put {l : List Sg} (h : stR false l = some false) {i : Nat} (hi : i ≤ l.length) (hp : pst l i = false) {s : Sg} (h0 : oneE s = 0) (hk : (s.kind == 4) = false) : stR false (l.take i ++ s :: l.drop i) = some false := by
  obtain ⟨h1, h2⟩ := st_take h hi
  rw [hp] at h1 h2
  rw [st_app, h1]
  show stR false ([s] ++ l.drop i) = _
  rw [st_app, st_free h0 hk]
  exact h2
/-- A sign taken out that is no sign of a ligature. -/
theorem st_out {l : List Sg} (h : stR false l = some false) {i : Nat} (hi : i < l.length) (hk : (l[i].kind == 4) = false) : stR false (l.take i ++ l.drop (i + 1)) = some false := by
  obtain ⟨h1, h2⟩ := st_take h (Nat.le_of_lt hi)
  rw [List.drop_eq_getElem_cons hi] at h2
  obtain ⟨_, ⟨_, b, c⟩ | ⟨a, _⟩ | ⟨a, _⟩⟩ := st_step h2
  · rw [st_app, h1, b]; exact c
  · rw [hk] at a; cases a
  · rw [hk] at a; cases a

end Go.Proofs.YtcomjcflllfobaaDoor

/- The maker of parts in memory, and how it puts a sign. -/
namespace Go.Proofs.YtcomjcflllfobaaDoor
open Go.RowKit

/-- A maker in block b: its name, its signs so far, its mensuration, its place, whether a repeat is open, whether a dot may follow. -/
structure MkX (w0 y : World) (b : Nat) (nm : ByteArray) (l : List Sg) (q : Option Addr) (c : Nat) (m : Q4) (pl : Int) (op dt : Bool) : Prop where
  h : HoldsB y b 76 #[.string nm, .slice q l.length c, .int .i64 m.1, .int .i64 m.2.1, .int .i64 m.2.2.1, .int .i64 m.2.2.2, .int .i64 pl, .bool op, .bool dt]
  row : y.ownsRow (b + 1) 27 17 (.slice q l.length c) l.length (flatG l)
  bel : Below w0.heap.size w0 y
  le : w0.heap.size ≤ b
theorem MkX.later {w0 y z : World} {b : Nat} {nm : ByteArray} {l : List Sg} {q : Option Addr} {c : Nat} {m : Q4} {pl : Int} {op dt : Bool} (h : MkX w0 y b nm l q c m pl op dt) (k : Below y.heap.size y z) : MkX w0 z b nm l q c m pl op dt :=
  ⟨h.h.later k, own_keep h.row k (Nat.le_refl _), w_below h.bel k, h.le⟩

theorem own_other {w : World} {base : Nat} {e : TypeId} {k : Nat} {v : Value} {n : Nat} {cs : List Value} (h : w.ownsRow base e k v n cs) {c : Nat} (hc : c < base) (j : Nat) (u : Value) : (w.setCell ⟨c, j, none⟩ u).ownsRow base e k v n cs := by
  obtain ⟨h1, h2⟩ := h
  refine ⟨h1, ?_⟩
  rcases h2 with h2 | ⟨g, cap, cur, hv, hb, hg, rest⟩
  · exact .inl h2
  · have hne : g ≠ c := by omega
    exact .inr ⟨g, cap, cur, hv, hb, (Below.heap_setCell _ _ _ _ hne).trans hg, rest⟩

set_option maxRecDepth 100000 in
set_option maxHeartbeats 8000000 in
theorem put_any (w0 : World) (b : Nat) (nm : ByteArray) (l : List Sg) (q : Option Addr) (c : Nat) (m : Q4) (pl : Int) (op dt : Bool) (s : Sg) (d : Bool) (hl : l.length ≤ 100) (w : World) (h : MkX w0 w b nm l q c m pl op dt) :
    Calls Tryd.prog 59 #[.pointer (some ⟨b, 0, none⟩), sgv s, .bool d] w fun e w' => e = .returned (.tuple #[]) ∧ ∃ q' c', MkX w0 w' b nm (l ++ [s]) q' c' m pl op d := by
  obtain ⟨i0, hi0, hz0, hz1, hz2⟩ := info_parts info_sign
  have FX := Lib.hid (h.later (w_alloc (w_refl w) (sgO s)))
  have HS := Lib.hid (sg_new w s)
  clear h
  go_enter Tryd.func59, Tryd.ntmps59
  go_upto_region 1 with (first | (refine wl_box s (by kernel_rfl) ?_) | fail)
  obtain ⟨b2, hb2⟩ : ∃ b2, w.heap.size = b2 := ⟨_, rfl⟩
  rw [hb2] at HS ⊢
  generalize w.alloc (sgO s) = y0 at *
  clear hb2
  refine wp_region_late (S := fun W => W.cell? ⟨b, 1, none⟩ = some (.slice q l.length c) ∧ SgAt W b2 0 s) ([8, 12]) (by kernel_rfl) ?_
  replace FX := Lib.hid (FX.out.later (w_refl y0).drew)
  replace HS := Lib.hid (HS.out.later (w_refl y0).drew)
  generalize World.drew y0 = y at *
  have SX : Hid (y.cell? ⟨b, 1, none⟩ = some (.slice q l.length c) ∧ SgAt y b2 0 s) := Lib.hid ⟨FX.out.h.cell (j := 1) rfl, HS.out.sg⟩
  refine wpL_take (i := 0) (v := .pointer (some ⟨b, 0, none⟩)) rfl (by kernel_rfl) (by kernel_rfl) (by kernel_rfl) (by kernel_rfl) (fun _ _ _ h => h) (Or.inl ⟨by kernel_rfl, fun _ => by go_simp⟩) (.inl SX.out) ?_
  refine wpL_take (i := 1) (v := .pointer (some ⟨b, 0, none⟩)) rfl (by kernel_rfl) (by kernel_rfl) (by kernel_rfl) (by kernel_rfl) (fun _ _ _ h => h) (Or.inl ⟨by kernel_rfl, fun _ => by go_simp⟩) (.inl SX.out) ?_
  refine wpL_take (i := 2) (v := .pointer (some ⟨b, 0, none⟩)) rfl (by kernel_rfl) (by kernel_rfl) (by kernel_rfl) (by kernel_rfl) (fun _ _ _ h => h) (Or.inl ⟨by kernel_rfl, fun _ => by go_simp⟩) (.inl SX.out) ?_
  refine wpL_take (i := 3) (v := .pointer (some ⟨b, 0, none⟩)) rfl (by kernel_rfl) (by kernel_rfl) (by kernel_rfl) (by kernel_rfl) (fun _ _ _ h => h) (Or.inl ⟨by kernel_rfl, fun _ => by go_simp⟩) (.inl SX.out) ?_
  refine wpL_take (i := 4) (v := .pointer (some ⟨b, 1, none⟩)) rfl (by kernel_rfl) (by kernel_rfl) (by kernel_rfl) (by kernel_rfl) (fun _ _ _ h => h) (Or.inl ⟨by kernel_rfl, fun _ => by go_simp⟩) (.inl SX.out) ?_
  refine wpL_loadT (i := 5) (v := .slice q l.length c) rfl (by kernel_rfl) (by kernel_rfl) (by kernel_rfl) (by kernel_rfl) (by kernel_rfl) (by kernel_rfl) (fun _ _ _ h => h) (Or.inl ⟨by kernel_rfl, fun W hW => by (obtain ⟨c1, c2⟩ := hW; go_simp)⟩) SX.out (by kernel_rfl) ?_
  refine wpL_loadT (i := 6) (v := sgv s) rfl (by kernel_rfl) (by kernel_rfl) (by kernel_rfl) (by kernel_rfl) (by kernel_rfl) (by kernel_rfl) (fun _ _ _ h => h) (sg_yields (.tmp 4) b2 0 s (by kernel_rfl) rfl (by kernel_rfl) (fun _ h => h.2)) SX.out (by kernel_rfl) ?_
  refine wpL_ready (rs := [7]) (by kernel_rfl) (by simp) ?_
  refine AllL.cons rfl (fun K hK => ?_) AllL.nil
  refine step_lit rfl (.tmp 12) rfl s (by kernel_rfl) ?_
  refine hK _ _ (.inl ⟨(FX.out.h.al (sgO s)).cell (j := 1) rfl, (HS.out.al (sgO s)).sg⟩) ?_
  clear hK K
  refine wpL_ready (rs := [8]) (by kernel_rfl) (by simp) ?_
  refine AllL.cons rfl (fun K hK => ?_) AllL.nil
  refine step_append_lies _ rfl (.tmp 11) (.tmp 13) 38 rfl (b + 1) 27 i0 (sgv zS) 17 128 Tryd.underlying38 hi0 hz0 hz1 hz2 rfl (by decide) (.slice q l.length c) l.length (flatG l) (by kernel_rfl) (FX.out.later (w_alloc (w_refl y) (sgO s))).row ⟨y.heap.size, 0, none⟩ 1 1 (flatG [s]) (by kernel_rfl) rfl (fun j u hj => World.news_of_block (sg_new y s) j u (by simpa [flatG, sgL] using hj)) (flatG_one [s]) (by decide) (by unfold maxLen; omega) (by omega) (by have := FX.out.h.lt; simp; omega) _ rfl ?_
  intro g cap y2 hown hgrow _ hlt
  have HB := Lib.hid ((FX.out.h.al (sgO s)).kept hgrow (fun e => by have := (FX.out.row.lt b e.symm).1; omega))
  refine hK _ _ (.inr (by kernel_rfl)) ?_
  clear hK K
  refine wpL_take (i := 9) (v := .pointer (some ⟨b, 0, none⟩)) rfl (by kernel_rfl) (by kernel_rfl) (by kernel_rfl) (by kernel_rfl) (fun _ _ _ h => h) (Or.inl ⟨by kernel_rfl, fun _ => by go_simp⟩) (.inr (by kernel_rfl)) ?_
  refine wpL_take (i := 10) (v := .pointer (some ⟨b, 0, none⟩)) rfl (by kernel_rfl) (by kernel_rfl) (by kernel_rfl) (by kernel_rfl) (fun _ _ _ h => h) (Or.inl ⟨by kernel_rfl, fun _ => by go_simp⟩) (.inr (by kernel_rfl)) ?_
  refine wpL_take (i := 11) (v := .pointer (some ⟨b, 1, none⟩)) rfl (by kernel_rfl) (by kernel_rfl) (by kernel_rfl) (by kernel_rfl) (fun _ _ _ h => h) (Or.inl ⟨by kernel_rfl, fun _ => by go_simp⟩) (.inr (by kernel_rfl)) ?_
  refine wpL_ready (rs := [12]) (by kernel_rfl) (by simp) ?_
  refine AllL.cons rfl (fun K hK => ?_) AllL.nil
  have c1 := HB.out.cell (j := 1) rfl
  have f1 := HB.out.frozen 1
  rw [if_pos (by kernel_rfl)]
  go_simp
  refine hK _ _ (.inr (by kernel_rfl)) ?_
  clear hK K
  refine wpL_done (by kernel_rfl) ?_ _
  have B2 := Lib.hid ((w_alloc FX.out.bel (sgO s)).grown hgrow (w_alloc FX.out.bel (sgO s)).size (fun j e => by have := (FX.out.row.lt j e).1; have := FX.out.le; omega))
  have HC := Lib.hid (show HoldsB (y2.setCell ⟨b, 1, none⟩ (.slice (some ⟨g, 0, none⟩) (l.length + 1) cap)) b 76 #[.string nm, .slice (some ⟨g, 0, none⟩) (l.length + 1) cap, .int .i64 m.1, .int .i64 m.2.1, .int .i64 m.2.2.1, .int .i64 m.2.2.2, .int .i64 pl, .bool op, .bool dt] from HB.out.set 1 _)
  have RO := Lib.hid (own_other hown (Nat.lt_succ_self b) 1 (.slice (some ⟨g, 0, none⟩) (l.length + 1) cap))
  have le := FX.out.le
  replace B2 := Lib.hid (w_set (p := ⟨b, 1, none⟩) B2.out le (.slice (some ⟨g, 0, none⟩) (l.length + 1) cap))
  clear hown hgrow hlt HB FX HS c1 f1 SX
  generalize y2.setCell ⟨b, 1, none⟩ (.slice (some ⟨g, 0, none⟩) (l.length + 1) cap) = y3 at *
  have c8 := HC.out.cell (j := 8) rfl
  have f8 := HC.out.frozen 8
  go_wp2_with fail
  refine bodyPost_end (results_none (by kernel_rfl) _ _ _) rfl ⟨rfl, some ⟨g, 0, none⟩, cap, ?_, ?_, w_set (p := ⟨b, 8, none⟩) B2.out le _, le⟩
  · rw [List.length_append]
    exact HC.out.set 8 _
  · rw [List.length_append, flatG_app]
    exact own_other RO.out (Nat.lt_succ_self b) 8 _

end Go.Proofs.YtcomjcflllfobaaDoor

/- The maker's step. -/
namespace Go.Proofs.YtcomjcflllfobaaDoor
open Go.RowKit

theorem MkX.place {w0 y : World} {b : Nat} {nm : ByteArray} {l : List Sg} {q : Option Addr} {c : Nat} {m : Q4} {pl : Int} {op dt : Bool} (h : MkX w0 y b nm l q c m pl op dt) (r : Int) : MkX w0 (y.setCell ⟨b, 6, none⟩ (.int .i64 r)) b nm l q c m r op dt :=
  ⟨h.h.set 6 _, own_other h.row (Nat.lt_succ_self b) 6 _, w_set (p := ⟨b, 6, none⟩) h.bel h.le _, h.le⟩
set_option maxRecDepth 100000 in
set_option maxHeartbeats 8000000 in
theorem step_any (w0 : World) (b : Nat) (nm : ByteArray) (l : List Sg) (q : Option Addr) (c : Nat) (m : Q4) (pl : Int) (op dt : Bool) (hp : -4 ≤ pl ∧ pl ≤ 12) (n : Int) (hn : -9223372036854775808 ≤ n ∧ n ≤ 9223372036854775807) (w : World) (h : MkX w0 w b nm l q c m pl op dt) :
    Calls Tryd.prog 82 #[.pointer (some ⟨b, 0, none⟩), .int .i64 n] w fun e w' => ∃ r, (-4 ≤ r ∧ r ≤ 12) ∧ e = .returned (.int .i64 r) ∧ MkX w0 w' b nm l q c m r op dt ∧ ∀ k, k ≠ b → k < w.heap.size → w'.heap[k]? = w.heap[k]? := by
  have FX := Lib.hid h
  have MD := Lib.hid (fun W => mod_any n 5 W hn.1 hn.2 (by decide) (by decide))
  have k0 : 0 ≤ n % 5 := Int.emod_nonneg _ (by decide)
  have k4 : n % 5 < 5 := Int.emod_lt_of_pos _ (by decide)
  clear h
  generalize n % 5 = k at *
  have KM := Lib.hid (show ∀ g : Grown w, Calls Tryd.prog 38 #[.int .i64 n, .int .i64 5] g.W fun e w' => e = .returned (.int .i64 k) ∧ Grew w w' from fun g => (MD.out g.W).mono fun e w' ⟨h1, h2⟩ => ⟨h1, g, h2.symm⟩)
  have t6 : ∀ g : Grown w, g.W.cell? ⟨b, 6, none⟩ = some (.int .i64 pl) := fun g => (FX.out.later g.b).h.cell (j := 6) rfl
  clear MD
  go_enter Tryd.func82, Tryd.ntmps82
  go_wp2_with fail
  refine wp_region_last_lit (by simp) (by kernel_rfl) (by kernel_rfl) (by kernel_rfl) (by kernel_rfl) (by kernel_rfl) (by kernel_rfl) ?_
  simp only [List.dropLast_cons_cons, List.dropLast_singleton, List.getLast_cons_cons, List.getLast_singleton]
  repeat (go_big_quiet_step (exact KM.out _))
  refine wpQuiet_nil ?_
  intro g
  have FG := Lib.hid (FX.out.later g.b)
  have KB := Lib.hid (fun k (hk : k < w.heap.size) => g.b.block k hk)
  clear KM t6 FX
  generalize g.W = W at *
  have c6 := FG.out.h.cell (j := 6) rfl
  have f6 := FG.out.h.frozen 6
  have FZ := Lib.hid (FG.out.place (pl + k - 2))
  have d6 := FZ.out.h.cell (j := 6) rfl
  have h6 := FZ.out.h.frozen 6
  by_cases h1 : pl + k - 2 < -4
  · go_wp2_with fail
    go_ret
    exact ⟨4, by omega, rfl, FZ.out.place 4, fun k hk hl => ((Below.heap_setCell _ _ _ _ hk).trans (Below.heap_setCell _ _ _ _ hk)).trans (KB.out k hl)⟩
  · by_cases h2 : pl + k - 2 > 12
    · go_wp2_with fail
      go_ret
      exact ⟨4, by omega, rfl, FZ.out.place 4, fun k hk hl => ((Below.heap_setCell _ _ _ _ hk).trans (Below.heap_setCell _ _ _ _ hk)).trans (KB.out k hl)⟩
    · go_wp2_with fail
      go_ret
      exact ⟨_, by omega, rfl, FZ.out, fun k hk hl => (Below.heap_setCell _ _ _ _ hk).trans (KB.out k hl)⟩

end Go.Proofs.YtcomjcflllfobaaDoor

/- The kit's Parts and Above: some number, some answer; nothing is changed. -/
namespace Go.Proofs.YtcomjcflllfobaaDoor
open Go.RowKit

set_option maxHeartbeats 4000000 in
theorem kparts_any (q : Q4) (v : Int) (w : World) : Calls Tryd.prog 81 #[mv q, .int .i64 v] w fun e w' => (∃ r, e = .returned (.int .i64 r)) ∧ Below w.heap.size w w' := by
  have K := Lib.hid (Cell4.made w q 23)
  have B := Lib.hid (w_alloc (w_refl w) (mO q))
  obtain ⟨a, b, c, d⟩ := q
  obtain ⟨_, c0, c1, c2, c3, _, _, _, _⟩ := K.out
  clear K
  by_cases h1 : v = 1
  · subst h1
    go_enter Tryd.func81, Tryd.ntmps81
    go_wp2_with fail
    go_ret
    exact ⟨⟨_, rfl⟩, B.out⟩
  by_cases h2 : v = 2
  · subst h2
    go_enter Tryd.func81, Tryd.ntmps81
    go_wp2_with fail
    go_ret
    exact ⟨⟨_, rfl⟩, B.out⟩
  by_cases h3 : v = 3
  · subst h3
    go_enter Tryd.func81, Tryd.ntmps81
    go_wp2_with fail
    go_ret
    exact ⟨⟨_, rfl⟩, B.out⟩
  by_cases h4 : v = 4
  · subst h4
    go_enter Tryd.func81, Tryd.ntmps81
    go_wp2_with fail
    go_ret
    exact ⟨⟨_, rfl⟩, B.out⟩
  · go_enter Tryd.func81, Tryd.ntmps81
    go_wp2_with fail
    go_ret
    exact ⟨⟨_, rfl⟩, B.out⟩

set_option maxHeartbeats 4000000 in
theorem above_any (q : Q4) (v : Int) (hv : 0 ≤ v ∧ v ≤ 100) (w : World) : Calls Tryd.prog 60 #[mv q, .int .i64 v] w fun e w' => (∃ r, e = .returned (.bool r)) ∧ Below w.heap.size w w' := by
  have K := Lib.hid (Cell4.made w q 23)
  have B := Lib.hid (w_alloc (w_refl w) (mO q))
  have PA := Lib.hid (fun v W => kparts_any q v W)
  obtain ⟨a, b, c, d⟩ := q
  go_enter Tryd.func60, Tryd.ntmps60
  go_upto_region 1 with (fail)
  obtain ⟨b1, hb1⟩ : ∃ b1, w.heap.size = b1 := ⟨_, rfl⟩
  rw [hb1] at K ⊢
  generalize w.alloc (mO (a, b, c, d)) = y at *
  go_wp2_with fail
  go_loopw [5] (fun i wr => ∃ k : Int, -1 ≤ k ∧ k ≤ 100 ∧ i = .int .i64 k ∧ Hid (Cell4 wr b1 (a, b, c, d)) ∧ Hid (Below w.heap.size w wr)) (fun i _ => (intOf i).toNat)
  case atStart => exact ⟨v - 1, by omega, by omega, by go_num, K, B⟩
  case round =>
    rename World => wr
    obtain ⟨k, hk0, hk1, rfl, HK, HB⟩ := hrel
    clear K B
    by_cases hlt : 1 ≤ k
    · obtain ⟨_, c0, c1, c2, c3, _, _, _, _⟩ := HK.out
      go_wp2_with fail
      refine (PA.out _ _).mono ?_
      rintro e w2 ⟨⟨r, rfl⟩, hb⟩
      replace HK := Lib.hid (HK.out.later hb)
      replace HB := Lib.hid (w_below HB.out hb)
      clear c0 c1 c2 c3 hb PA
      by_cases h3 : r = 3
      · subst h3
        go_wp2_with fail
        go_ret
        exact ⟨⟨_, rfl⟩, HB.out⟩
      · go_wp2_with fail
        go_roundw
        case rel => exact ⟨k - 1, by omega, by omega, by go_num, HK, HB⟩
        case measure => simp [intOf]; omega
    · go_wp2_with fail
      go_ret
      exact ⟨.inl rfl, by rw [← hb1]; exact HB.out⟩

end Go.Proofs.YtcomjcflllfobaaDoor

/- The signs that the kit's maker puts, and that they are valid; the kit's Mens. -/
namespace Go.Proofs.YtcomjcflllfobaaDoor
open Go.RowKit

def nP (v p a : Int) (c : Bool) : Sg := ⟨1, v, p, a, c, 0, false, false, 0, 0, 0, 0, false, 0, 0, 0, 0⟩
def tP (p : Int) (c l : Bool) : Sg := ⟨4, 0, p, 0, c, 0, false, l, 0, 0, 0, 0, false, 0, 0, 0, 0⟩
def mP (q : Q4) (k : Bool) : Sg := ⟨5, 0, 0, 0, false, 0, false, false, q.1, q.2.1, q.2.2.1, q.2.2.2, k, 0, 0, 0, 0⟩
def pP (n d : Int) : Sg := ⟨6, 0, 0, 0, false, 0, false, false, 0, 0, 0, 0, false, n, d, 0, 0⟩
def cP (a b : Int) : Sg := ⟨7, 0, 0, 0, false, 0, false, false, 0, 0, 0, 0, false, 0, 0, a, b⟩
def kP (n : Int) : Sg := ⟨8, 0, 0, 0, false, 0, false, false, 0, 0, 0, 0, false, n, 0, 0, 0⟩
def bP (k : Int) : Sg := ⟨k, 0, 0, 0, false, 0, false, false, 0, 0, 0, 0, false, 0, 0, 0, 0⟩
def xP (n : Int) : Sg := ⟨10, 0, 0, 0, false, 0, false, false, 0, 0, 0, 0, false, n, 0, 0, 0⟩

theorem one_of {s : Sg} (k : kOk s.kind) (u : s = useS s) (m : s.kind = 5 → okM (mq s)) (r : rngB s = true) (o : (s.obl && s.last) = false) : oneE s = 0 := by
  unfold oneE
  rw [if_neg (fun h => h k), if_neg (by rw [(sgE_iff _ _).2 u]; decide), if_neg (fun h => h.2 (m h.1)), if_neg (by rw [r]; decide), if_neg (by rw [o]; decide)]
theorem one_nP {v p a : Int} (c : Bool) (hv : 1 ≤ v ∧ v ≤ 8) (hp : -4 ≤ p ∧ p ≤ 12) (ha : -1 ≤ a ∧ a ≤ 2) : oneE (nP v p a c) = 0 :=
  one_of (show kOk 1 by decide) (by cases c <;> rfl) (fun h => by cases h) (by
    show (inB v 1 8 && (inB p (-4) 12 && inB a (-1) 2)) = true
    rw [inB_iff.2 hv, inB_iff.2 hp, inB_iff.2 ha]; rfl) rfl
theorem one_rS {v : Int} (hv : 1 ≤ v ∧ v ≤ 8) : oneE (rS v) = 0 :=
  one_of (show kOk 2 by decide) rfl (fun h => by cases h) (by show inB v 1 8 = true; exact inB_iff.2 hv) rfl
theorem one_tP {p : Int} (c l : Bool) (hp : -4 ≤ p ∧ p ≤ 12) : oneE (tP p c l) = 0 :=
  one_of (show kOk 4 by decide) (by cases c <;> cases l <;> rfl) (fun h => by cases h) (by
    show ((inB p (-4) 12 && inB 0 (-1) 2) && inB 0 0 3) = true
    rw [inB_iff.2 hp]; rfl) rfl
theorem one_mP {q : Q4} (k : Bool) (h : okM q) : oneE (mP q k) = 0 :=
  one_of (show kOk 5 by decide) (by cases k <;> rfl) (fun _ => h) rfl rfl
theorem one_pP {n d : Int} (hn : 1 ≤ n ∧ n ≤ 100) (hd : 1 ≤ d ∧ d ≤ 100) : oneE (pP n d) = 0 :=
  one_of (show kOk 6 by decide) rfl (fun h => by cases h) (by
    show (inB n 1 100 && inB d 1 100) = true
    rw [inB_iff.2 hn, inB_iff.2 hd]; rfl) rfl
theorem one_cP {a b : Int} (ha : stepOk a) (hb : 1 ≤ b ∧ b ≤ 5) : oneE (cP a b) = 0 :=
  one_of (show kOk 7 by decide) rfl (fun h => by cases h) (by
    show (chkC (a, b) == 0) = true
    rw [chkC_ok ⟨ha, hb⟩]; rfl) rfl
theorem one_kP {n : Int} (hn : 0 ≤ n ∧ n ≤ 2) : oneE (kP n) = 0 :=
  one_of (show kOk 8 by decide) rfl (fun h => by cases h) (by show inB n 0 2 = true; exact inB_iff.2 hn) rfl
theorem one_xP {n : Int} (hn : 2 ≤ n ∧ n ≤ 4) : oneE (xP n) = 0 :=
  one_of (show kOk 10 by decide) rfl (fun h => by cases h) (by show inB n 2 4 = true; exact inB_iff.2 hn) rfl
theorem one_bare : oneE (bP 9) = 0 ∧ oneE (bP 11) = 0 ∧ oneE (bP 12) = 0 ∧ oneE dS = 0 := by decide +kernel

/-- A sign that is built yields itself in every world. -/
theorem sgb_yields {ops : Array Oper} {S : World → Prop} {op : Oper} {a : Act} (parts : Array (Nat × Operand)) (ho : op.op = .build 27 parts) (s : Sg) (hw : Region.wanted op (yielded ops a.tmps) = true)
    (hb : Tryd.prog.built 27 (parts.map fun (i, x) => (i, a.eval x)).toList = some (sgA s)) : YieldsIf Tryd.prog ops S op (sgv s) a :=
  .inl ⟨hw, fun w _ => by
    unfold execOp sgv
    simp only [ho, Sem.run_bind, run_build w 27 _ (sgA s) hb, Result.andThen_ok]
    rfl⟩
theorem tq {n : Int} (h : 0 ≤ n) (h1 : n ≤ 1048576) (k : Int) (hk : 1 ≤ k) : IntKind.i64.wrap (n.tdiv k) = n / k := by
  rw [Int.tdiv_eq_ediv_of_nonneg h]
  have h2 : 0 ≤ n / k := Int.ediv_nonneg h (by omega)
  have h3 : n / k ≤ n := Int.ediv_le_self _ h
  exact IntWalk.i64_in _ (by omega)
theorem tr {n : Int} (h : 0 ≤ n) (k : Int) : n.tmod k = n % k := Int.tmod_eq_emod_of_nonneg h
theorem ofN_ok {n : Int} (h : 0 ≤ n ∧ n ≤ 15) : okM (ofN n) := by
  unfold okM ofN two
  simp only
  omega
set_option maxHeartbeats 4000000 in
theorem kmens_any (n : Int) (hn : -9223372036854775808 ≤ n ∧ n ≤ 9223372036854775807) (w : World) : Calls Tryd.prog 80 #[.int .i64 n] w fun e w' => (∃ q, okM q ∧ e = .returned (mv q)) ∧ Below w.heap.size w w' := by
  have M := Lib.hid (fun W => mod_any n 16 W hn.1 hn.2 (by decide) (by decide))
  obtain ⟨k, hk⟩ : ∃ k, n % 16 = k := ⟨_, rfl⟩
  rw [hk] at M
  have h1 : 0 ≤ k ∧ k ≤ 15 := by omega
  have hq := Lib.hid (ofN_ok h1)
  obtain ⟨h1, h2⟩ := h1
  have z1 : 0 ≤ k / 4 ∧ k / 4 ≤ 3 := by omega
  have z2 : 0 ≤ k / 2 ∧ k / 2 ≤ 7 := by omega
  have z3 : 0 ≤ k / 8 ∧ k / 8 ≤ 1 := by omega
  clear hk hn
  go_enter Tryd.func80, Tryd.ntmps80
  go_wp2_with fail
  refine (M.out _).mono ?_
  rintro e w1 ⟨rfl, rfl⟩
  clear M
  go_wp2_with fail
  refine bodyPost_ret (v := mv (ofN k)) (by simp [results, Tryd.results80, go_sem, ofN]) rfl ⟨⟨_, hq.out, rfl⟩, ?_⟩
  exact w_alloc (w_refl w) _
theorem ats_any (p : Option Addr) (cap : Nat) (zs : List Int) (i : Nat) (w : World) (h : SlP w 1 p zs.length cap (ints zs)) (hi : i ≤ 1000000) :
    Calls Tryd.prog 56 #[.slice p zs.length cap, .int .i64 i] w fun e w' => e = .returned (.int .i64 (zs.getD i 0)) ∧ w' = w := by
  have f1 := h.fit
  have f2 := h.max
  by_cases hlt : i < zs.length
  · obtain ⟨b, off, rfl, -, hc⟩ := h.at_ (by omega)
    have c0 : w.cell? ⟨b, off + i, none⟩ = some (.int .i64 (zs.getD i 0)) := hc i _ (by simp [List.getElem?_map, List.getElem?_eq_getElem hlt, List.getD])
    have hlt' : (i : Int) < zs.length := by omega
    have hi0 : (0 : Int) ≤ i := by omega
    obtain ⟨z, hz⟩ : ∃ z, zs.getD i 0 = z := ⟨_, rfl⟩
    rw [hz] at c0 ⊢
    clear h hz hc
    go_enter Tryd.func56, Tryd.ntmps56
    go_wp2_with fail
    go_ret
    exact ⟨rfl, rfl⟩
  · have e : zs.getD i 0 = 0 := by rw [List.getD, List.getElem?_eq_none (by omega)]; rfl
    have hlt' : ¬ (i : Int) < zs.length := by omega
    have hi0 : ¬ (i : Int) < 0 := by omega
    rw [e]
    clear h e hlt
    go_enter Tryd.func56, Tryd.ntmps56
    go_wp2_with fail
    go_ret
    exact ⟨rfl, rfl⟩
theorem getD_bdsL {zs : List Int} (h : ∀ z ∈ zs, -9223372036854775808 ≤ z ∧ z ≤ 9223372036854775807) (i : Nat) : -9223372036854775808 ≤ zs.getD i 0 ∧ zs.getD i 0 ≤ 9223372036854775807 := by
  by_cases hi : i < zs.length
  · have e : zs.getD i 0 = zs[i] := by simp [List.getD, List.getElem?_eq_getElem hi]
    rw [e]; exact h _ (List.getElem_mem hi)
  · have e : zs.getD i 0 = 0 := by rw [List.getD, List.getElem?_eq_none (by omega)]; rfl
    rw [e]; omega

/-! ### The maker with a list that closes -/
structure FrX (w0 y : World) (b : Nat) (nm : ByteArray) (l : List Sg) (q : Option Addr) (c : Nat) (m : Q4) (pl : Int) (op dt : Bool) : Prop where
  x : MkX w0 y b nm l q c m pl op dt
  m : okM m
  p : -4 ≤ pl ∧ pl ≤ 12
  s : stR false l = some false
theorem FrX.later {w0 y z : World} {b : Nat} {nm : ByteArray} {l : List Sg} {q : Option Addr} {c : Nat} {m : Q4} {pl : Int} {op dt : Bool} (h : FrX w0 y b nm l q c m pl op dt) (k : Below y.heap.size y z) : FrX w0 z b nm l q c m pl op dt :=
  ⟨h.x.later k, h.m, h.p, h.s⟩
/-- Some maker: at least lo, at most hi signs. -/
def FrY (w0 y : World) (b : Nat) (nm : ByteArray) (lo hi : Nat) : Prop := ∃ l q c m pl op dt, FrX w0 y b nm l q c m pl op dt ∧ lo ≤ l.length ∧ l.length ≤ hi
theorem FrX.any {w0 y : World} {b : Nat} {nm : ByteArray} {l : List Sg} {q : Option Addr} {c : Nat} {m : Q4} {pl : Int} {op dt : Bool} (h : FrX w0 y b nm l q c m pl op dt) {lo hi : Nat} (h1 : lo ≤ l.length) (h2 : l.length ≤ hi) : FrY w0 y b nm lo hi :=
  ⟨l, q, c, m, pl, op, dt, h, h1, h2⟩
theorem FrX.cells {w0 y : World} {b : Nat} {nm : ByteArray} {l : List Sg} {q : Option Addr} {c : Nat} {m : Q4} {pl : Int} {op dt : Bool} (h : FrX w0 y b nm l q c m pl op dt) :
    y.cell? ⟨b, 0, none⟩ = some (.string nm) ∧ y.cell? ⟨b, 1, none⟩ = some (.slice q l.length c) ∧ y.cell? ⟨b, 2, none⟩ = some (.int .i64 m.1) ∧ y.cell? ⟨b, 3, none⟩ = some (.int .i64 m.2.1) ∧ y.cell? ⟨b, 4, none⟩ = some (.int .i64 m.2.2.1) ∧ y.cell? ⟨b, 5, none⟩ = some (.int .i64 m.2.2.2) ∧
    y.cell? ⟨b, 6, none⟩ = some (.int .i64 pl) ∧ y.cell? ⟨b, 7, none⟩ = some (.bool op) ∧ y.cell? ⟨b, 8, none⟩ = some (.bool dt) :=
  ⟨h.x.h.cell (j := 0) rfl, h.x.h.cell (j := 1) rfl, h.x.h.cell (j := 2) rfl, h.x.h.cell (j := 3) rfl, h.x.h.cell (j := 4) rfl, h.x.h.cell (j := 5) rfl, h.x.h.cell (j := 6) rfl, h.x.h.cell (j := 7) rfl, h.x.h.cell (j := 8) rfl⟩
theorem fput_any (w0 : World) (b : Nat) (nm : ByteArray) (l : List Sg) (q : Option Addr) (c : Nat) (m : Q4) (pl : Int) (op dt : Bool) (s : Sg) (h0 : oneE s = 0) (hk : (s.kind == 4) = false) (d : Bool) (hl : l.length ≤ 100) (w : World) (h : FrX w0 w b nm l q c m pl op dt) :
    Calls Tryd.prog 59 #[.pointer (some ⟨b, 0, none⟩), sgv s, .bool d] w fun e w' => e = .returned (.tuple #[]) ∧ ∃ q' c', FrX w0 w' b nm (l ++ [s]) q' c' m pl op d :=
  (put_any w0 b nm l q c m pl op dt s d hl w h.x).mono fun e w' ⟨h1, q', c', h2⟩ => ⟨h1, q', c', h2, h.m, h.p, by rw [st_app, h.s]; exact st_free h0 hk⟩
theorem fstep_any (w0 : World) (b : Nat) (nm : ByteArray) (l : List Sg) (q : Option Addr) (c : Nat) (m : Q4) (pl : Int) (op dt : Bool) (n : Int) (hn : -9223372036854775808 ≤ n ∧ n ≤ 9223372036854775807) (w : World) (h : FrX w0 w b nm l q c m pl op dt) :
    Calls Tryd.prog 82 #[.pointer (some ⟨b, 0, none⟩), .int .i64 n] w fun e w' => ∃ r, (-4 ≤ r ∧ r ≤ 12) ∧ e = .returned (.int .i64 r) ∧ FrX w0 w' b nm l q c m r op dt ∧ ∀ k, k ≠ b → k < w.heap.size → w'.heap[k]? = w.heap[k]? :=
  (step_any w0 b nm l q c m pl op dt h.p n hn w h.x).mono fun _ _ ⟨r, h1, h2, h3, h4⟩ => ⟨r, h1, h2, ⟨h3, h.m, h1, h.s⟩, h4⟩
theorem FrX.mens {w0 y : World} {b : Nat} {nm : ByteArray} {l : List Sg} {q : Option Addr} {c : Nat} {m : Q4} {pl : Int} {op dt : Bool} (h : FrX w0 y b nm l q c m pl op dt) {g : Q4} (k : okM g) :
    FrX w0 ((((y.setCell ⟨b, 2, none⟩ (.int .i64 g.1)).setCell ⟨b, 3, none⟩ (.int .i64 g.2.1)).setCell ⟨b, 4, none⟩ (.int .i64 g.2.2.1)).setCell ⟨b, 5, none⟩ (.int .i64 g.2.2.2)) b nm l q c g pl op dt :=
  ⟨⟨(((h.x.h.set 2 _).set 3 _).set 4 _).set 5 _, own_other (own_other (own_other (own_other h.x.row (Nat.lt_succ_self b) 2 _) (Nat.lt_succ_self b) 3 _) (Nat.lt_succ_self b) 4 _) (Nat.lt_succ_self b) 5 _,
    w_set (p := ⟨b, 5, none⟩) (w_set (p := ⟨b, 4, none⟩) (w_set (p := ⟨b, 3, none⟩) (w_set (p := ⟨b, 2, none⟩) h.x.bel h.x.le _) h.x.le _) h.x.le _) h.x.le _, h.x.le⟩, k, h.p, h.s⟩
theorem FrX.opn {w0 y : World} {b : Nat} {nm : ByteArray} {l : List Sg} {q : Option Addr} {c : Nat} {m : Q4} {pl : Int} {op dt : Bool} (h : FrX w0 y b nm l q c m pl op dt) (g : Bool) : FrX w0 (y.setCell ⟨b, 7, none⟩ (.bool g)) b nm l q c m pl g dt :=
  ⟨⟨h.x.h.set 7 _, own_other h.x.row (Nat.lt_succ_self b) 7 _, w_set (p := ⟨b, 7, none⟩) h.x.bel h.x.le _, h.x.le⟩, h.m, h.p, h.s⟩
theorem FrX.plc {w0 y : World} {b : Nat} {nm : ByteArray} {l : List Sg} {q : Option Addr} {c : Nat} {m : Q4} {pl : Int} {op dt : Bool} (h : FrX w0 y b nm l q c m pl op dt) {r : Int} (hr : -4 ≤ r ∧ r ≤ 12) : FrX w0 (y.setCell ⟨b, 6, none⟩ (.int .i64 r)) b nm l q c m r op dt :=
  ⟨h.x.place r, h.m, hr, h.s⟩

end Go.Proofs.YtcomjcflllfobaaDoor
