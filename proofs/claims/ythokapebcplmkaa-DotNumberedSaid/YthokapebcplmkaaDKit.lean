/- What the statements about dots do by themselves: copies and equality of lists, small signs and mensurations. -/
import Derived.Test.YthokapebcplmkaaDPost
import Derived.Test.YthokapebcplmkaaLgKit
import Derived.Test.YthokapebcplmkaaPcs
import Derived.Test.YthokapebcplmkaaQGrow
namespace Go.Proofs.Ythokapebcplmkaa
open Go.RowKit

abbrev bools (zs : List Bool) : List Value := zs.map Value.bool
theorem bools_len (zs : List Bool) : (bools zs).length = zs.length * 1 := by simp
theorem bools_one (zs : List Bool) : ∀ u ∈ bools zs, u.oneCell' = true := by
  intro u hu
  rw [List.mem_map] at hu
  obtain ⟨z, _, rfl⟩ := hu
  rfl
def BoolV (w : World) (v : Value) (zs : List Bool) : Prop := ∃ p cap, v = .slice p zs.length cap ∧ SlP w 1 p zs.length cap (bools zs)
theorem BoolV.later {w w1 : World} {v : Value} {zs : List Bool} (h : BoolV w v zs) (b : Below w.heap.size w w1) : BoolV w1 v zs := by
  obtain ⟨p, cap, e, k⟩ := h; exact ⟨p, cap, e, k.later b⟩
theorem BoolV.none (w : World) : BoolV w (.slice none 0 0) [] := ⟨_, 0, rfl, ⟨rfl, by simp, by omega, fun _ => rfl, by simp, fun h => by simp at h⟩⟩
theorem BoolV.of_own {w : World} {base : Nat} {e : TypeId} {v : Value} {zs : List Bool} (h : w.ownsRow base e 1 v zs.length (bools zs)) : BoolV w v zs := SlP.of_own h (bools_len _) (bools_one _)
theorem info_bool : (Try.prog.info? 4).map (fun i => (i.zero, i.size, i.bytes)) = some (some (.bool false), 1, 1) := by kernel_rfl

section
variable {ops : Array Oper} {rest : List Oper} {x y : Operand} {t : TypeId} {ps : String} {af : Array Edge} {a : Act} {Q : Exit → Act → World → Prop}
/-- A sign that is built. -/
theorem wl_buildS {w : World} {d : Tmp} (parts : Array (Nat × Operand)) (s : Sg) (hb : Try.prog.built 51 (parts.map fun (i, x) => (i, a.eval x)).toList = some (sgA s)) (h : wpList Try.prog ops Q rest (a.put (some d) (sgv s)) w) :
    wpList Try.prog ops Q ({ dst := some d, op := .build 51 parts, type := t, pos := ps, after := af, guard := none } :: rest) a w := by
  refine wpList_build rfl 51 parts rfl (by rw [hb]; rfl) ?_
  rw [hb]
  exact h
theorem wl_store0 {W : World} (B : Nat) (c : Array Value) (s : Sg) (hB : B = W.heap.size) (hx : a.eval x = .pointer (some ⟨B, 0, none⟩)) (hy : a.eval y = sgv s) (hc : c.size = 17)
    (h : wpList Try.prog ops Q rest a (W.alloc (sgO s))) :
    wpList Try.prog ops Q ({ dst := none, op := .store 51 x y, type := t, pos := ps, after := af, guard := none } :: rest) a (W.alloc (.cells c 51)) :=
  wl_store B c s hB hx hy hc h
end

def nS (v : Int) : Sg := ⟨1, v, 0, 0, false, 0, false, false, 0, 0, 0, 0, false, 0, 0, 0, 0⟩
def rS (v : Int) : Sg := ⟨2, v, 0, 0, false, 0, false, false, 0, 0, 0, 0, false, 0, 0, 0, 0⟩
def pS : Sg := ⟨3, 0, 0, 0, false, 0, false, false, 0, 0, 0, 0, false, 0, 0, 0, 0⟩
set_option maxRecDepth 100000 in
theorem lnote_any (v : Int) (w : World) : Calls Try.prog 29 #[.int .i64 v] w fun e w' => e = .returned (sgv (nS v)) ∧ Below w.heap.size w w' := by
  go_enter Try.func29, Try.ntmps29
  go_wp2_with (first | (refine wl_buildS _ (nS v) (by kernel_rfl) ?_) | (refine wl_store0 w.heap.size _ (nS v) rfl (by kernel_rfl) (by kernel_rfl) rfl ?_) | fail)
  refine bodyPost_ret (res_sg rfl (by kernel_rfl) (sg_new w (nS v)).sg) rfl ⟨rfl, w_alloc (w_refl w) _⟩
set_option maxRecDepth 100000 in
theorem lrest_any (v : Int) (w : World) : Calls Try.prog 34 #[.int .i64 v] w fun e w' => e = .returned (sgv (rS v)) ∧ Below w.heap.size w w' := by
  go_enter Try.func34, Try.ntmps34
  go_wp2_with (first | (refine wl_buildS _ (rS v) (by kernel_rfl) ?_) | (refine wl_store0 w.heap.size _ (rS v) rfl (by kernel_rfl) (by kernel_rfl) rfl ?_) | fail)
  refine bodyPost_ret (res_sg rfl (by kernel_rfl) (sg_new w (rS v)).sg) rfl ⟨rfl, w_alloc (w_refl w) _⟩
set_option maxRecDepth 100000 in
theorem lpoint_any (w : World) : Calls Try.prog 33 #[] w fun e w' => e = .returned (sgv pS) ∧ Below w.heap.size w w' := by
  go_enter Try.func33, Try.ntmps33
  go_wp2_with (first | (refine wl_buildS _ pS (by kernel_rfl) ?_) | (refine wl_store0 w.heap.size _ pS rfl (by kernel_rfl) (by kernel_rfl) rfl ?_) | fail)
  refine bodyPost_ret (res_sg rfl (by kernel_rfl) (sg_new w pS).sg) rfl ⟨rfl, w_alloc (w_refl w) _⟩
theorem circle_any (w : World) : Calls Try.prog 31 #[] w fun e w' => e = .returned (mv (2, 2, 3, 2)) ∧ Below w.heap.size w w' := by
  go_enter Try.func31, Try.ntmps31
  go_wp2_with fail
  refine bodyPost_ret (v := mv (2, 2, 3, 2)) (by simp [results, Try.results31, go_sem]) rfl ⟨rfl, ?_⟩
  exact w_alloc (w_refl w) _
theorem half_any (w : World) : Calls Try.prog 36 #[] w fun e w' => e = .returned (mv (2, 2, 2, 2)) ∧ Below w.heap.size w w' := by
  go_enter Try.func36, Try.ntmps36
  go_wp2_with fail
  refine bodyPost_ret (v := mv (2, 2, 2, 2)) (by simp [results, Try.results36, go_sem]) rfl ⟨rfl, ?_⟩
  exact w_alloc (w_refl w) _
theorem prol_any (w : World) : Calls Try.prog 35 #[] w fun e w' => e = .returned (mv (2, 2, 2, 3)) ∧ Below w.heap.size w w' := by
  go_enter Try.func35, Try.ntmps35
  go_wp2_with fail
  refine bodyPost_ret (v := mv (2, 2, 2, 3)) (by simp [results, Try.results35, go_sem]) rfl ⟨rfl, ?_⟩
  exact w_alloc (w_refl w) _
theorem modus_any (w : World) : Calls Try.prog 37 #[] w fun e w' => e = .returned (mv (2, 3, 3, 2)) ∧ Below w.heap.size w w' := by
  go_enter Try.func37, Try.ntmps37
  go_wp2_with fail
  refine bodyPost_ret (v := mv (2, 3, 3, 2)) (by simp [results, Try.results37, go_sem]) rfl ⟨rfl, ?_⟩
  exact w_alloc (w_refl w) _

theorem run_any (v : Value) (w : World) : Calls Try.prog 32 #[v] w fun e w' => e = .returned v ∧ w = w' := by
  go_enter Try.func32, Try.ntmps32
  go_wp2_with fail
  go_ret
  exact ⟨rfl, rfl⟩

set_option maxHeartbeats 4000000 in
theorem kmens_any (n : Int) (hn : -9223372036854775808 ≤ n ∧ n ≤ 9223372036854775807) (w : World) : Calls Try.prog 38 #[.int .i64 n] w fun e w' => e = .returned (mv (ofN (n % 16))) ∧ Below w.heap.size w w' := by
  have M := Lib.hid (fun W => mod_any n 16 W hn.1 hn.2 (by decide) (by decide))
  obtain ⟨k, hk⟩ : ∃ k, n % 16 = k := ⟨_, rfl⟩
  rw [hk] at M ⊢
  have h1 : 0 ≤ k ∧ k ≤ 15 := by omega
  obtain ⟨h1, h2⟩ := h1
  have z1 : 0 ≤ k / 4 ∧ k / 4 ≤ 3 := by omega
  have z2 : 0 ≤ k / 2 ∧ k / 2 ≤ 7 := by omega
  have z3 : 0 ≤ k / 8 ∧ k / 8 ≤ 1 := by omega
  clear hk hn
  go_enter Try.func38, Try.ntmps38
  go_wp2_with fail
  refine (M.out _).mono ?_
  rintro e w1 ⟨rfl, rfl⟩
  clear M
  go_wp2_with fail
  refine bodyPost_ret (v := mv (ofN k)) (by simp [results, Try.results38, go_sem, ofN]) rfl ⟨rfl, ?_⟩
  exact w_alloc (w_refl w) _

set_option maxRecDepth 100000 in
set_option maxHeartbeats 2000000 in
theorem lsame_any (p q : Option Addr) (cp cq : Nat) (l : List Sg) (w : World) (hp : SlP w 17 p l.length cp (flatG l)) (hq : SlP w 17 q l.length cq (flatG l)) :
    Calls Try.prog 22 #[.slice p l.length cp, .slice q l.length cq] w fun e w' => e = .returned (.bool true) ∧ Below w.heap.size w w' := by
  have f1 := hp.fit
  have f2 := hq.fit
  have m1 := hp.max
  have m2 := hq.max
  have HP := Lib.hid hp
  have HQ := Lib.hid hq
  clear hp hq
  go_enter Try.func22, Try.ntmps22
  go_wp2_with fail
  go_loopw [5] (fun i wr => ∃ k : Nat, k ≤ l.length ∧ i = .int .i64 k ∧ Hid (Below w.heap.size w wr)) (fun i _ => l.length - (intOf i).toNat)
  case atStart => exact ⟨0, by omega, rfl, Lib.hid (w_refl w)⟩
  case round =>
    obtain ⟨k, hk, rfl, hb⟩ := hrel
    rename World => wr
    by_cases hlt : k < l.length
    · have hlt' : (k : Int) < l.length := by omega
      obtain ⟨s, hs⟩ : ∃ s, l[k]? = some s := ⟨l[k], List.getElem?_eq_getElem hlt⟩
      obtain ⟨b, off, rfl, _, hc⟩ := (HP.out.later hb.out).sg hs
      obtain ⟨b', off', rfl, _, hd⟩ := (HQ.out.later hb.out).sg hs
      have c0 := Lib.hid hc
      have d0 := Lib.hid hd
      have hneq := fun W => sg_neq s s W
      rw [(sgE_iff s s).2 rfl] at hneq
      have hgrd := fun x y W => sg_guard BinOp.neq x y s s W
      have hk0 : (0 : Int) ≤ k := by omega
      clear hs hc hd
      go_wp2_with fail
      go_cut [25] (fun s25 wx => s25 = .bool false ∧ Hid (Below w.heap.size w wx))
      case first =>
        refine wp_region_held (S := (fun W => SgAt W b (off + k * 17) s ∧ SgAt W b' (off' + k * 17) s)) (by kernel_rfl) ?_
        change wpAnyH _ _ _ _ _ _ _ _ (World.drew _)
        have FZ := Lib.hid (show Below w.heap.size w (World.drew wr) ∧ SgAt (World.drew wr) b (off + k * 17) s ∧ SgAt (World.drew wr) b' (off' + k * 17) s from ⟨hb.out.drew, c0.out.later (w_refl _).drew, d0.out.later (w_refl _).drew⟩)
        generalize World.drew wr = z at *
        refine wpAnyH_take (i := 0) (v := .slice (some ⟨b, off, none⟩) l.length cp) rfl (by kernel_rfl) (by kernel_rfl) (by kernel_rfl) (fun _ _ _ h => h) (Or.inl ⟨by kernel_rfl, fun _ _ => by go_simp⟩) FZ.out.2 ?_
        refine wpAnyH_take (i := 1) (v := .int .i64 (k : Int)) rfl (by kernel_rfl) (by kernel_rfl) (by kernel_rfl) (fun _ _ _ h => h) (Or.inl ⟨by kernel_rfl, fun _ _ => by go_simp⟩) FZ.out.2 ?_
        refine wpAnyH_take (i := 2) (v := .pointer (some ⟨b, off + k * 17, none⟩)) rfl (by kernel_rfl) (by kernel_rfl) (by kernel_rfl) (fun _ _ _ h => h) (Or.inl ⟨by kernel_rfl, fun _ _ => by go_simp⟩) FZ.out.2 ?_
        refine wpAnyH_take (i := 3) (v := sgv s) rfl (by kernel_rfl) (by kernel_rfl) (by kernel_rfl) (fun _ _ _ h => h) (sg_yields (.tmp 19) b (off + k * 17) s (by kernel_rfl) rfl (by kernel_rfl) (fun _ h => h.1)) FZ.out.2 ?_
        refine wpAnyH_take (i := 4) (v := .slice (some ⟨b', off', none⟩) l.length cq) rfl (by kernel_rfl) (by kernel_rfl) (by kernel_rfl) (fun _ _ _ h => h) (Or.inl ⟨by kernel_rfl, fun _ _ => by go_simp⟩) FZ.out.2 ?_
        refine wpAnyH_take (i := 5) (v := .int .i64 (k : Int)) rfl (by kernel_rfl) (by kernel_rfl) (by kernel_rfl) (fun _ _ _ h => h) (Or.inl ⟨by kernel_rfl, fun _ _ => by go_simp⟩) FZ.out.2 ?_
        refine wpAnyH_take (i := 6) (v := .pointer (some ⟨b', off' + k * 17, none⟩)) rfl (by kernel_rfl) (by kernel_rfl) (by kernel_rfl) (fun _ _ _ h => h) (Or.inl ⟨by kernel_rfl, fun _ _ => by go_simp⟩) FZ.out.2 ?_
        refine wpAnyH_take (i := 7) (v := sgv s) rfl (by kernel_rfl) (by kernel_rfl) (by kernel_rfl) (fun _ _ _ h => h) (sg_yields (.tmp 23) b' (off' + k * 17) s (by kernel_rfl) rfl (by kernel_rfl) (fun _ h => h.2)) FZ.out.2 ?_
        refine wpAnyH_take (i := 8) (v := .bool false) rfl (by kernel_rfl) (by kernel_rfl) (by kernel_rfl) (fun _ _ _ h => h) (Or.inl ⟨by kernel_rfl, fun _ _ => by go_simp⟩) FZ.out.2 ?_
        refine wpAnyH_done (by kernel_rfl) ?_ _
        clear hneq hgrd c0 d0
        have hB := Lib.hid FZ.out.1
        clear FZ
        go_wp2_with fail
        refine met_re (b := { tmps := #[.slice (some ⟨b, off, none⟩) l.length cp, .slice (some ⟨b', off', none⟩) l.length cq, undef, undef, u4, .int .i64 (k : Int), .slice (some ⟨b, off, none⟩) l.length cp, .int .i64 (l.length : Int), .slice (some ⟨b', off', none⟩) l.length cq, .int .i64 (l.length : Int), .bool false, .int .i64 (k : Int), .slice (some ⟨b, off, none⟩) l.length cp, .int .i64 (l.length : Int), .bool true, u15, u16, .slice (some ⟨b, off, none⟩) l.length cp, .int .i64 (k : Int), .pointer (some ⟨b, off + k * 17, none⟩), sgv s, .slice (some ⟨b', off', none⟩) l.length cq, .int .i64 (k : Int), .pointer (some ⟨b', off' + k * 17, none⟩), sgv s, .bool false], defers := [] }) (by kernel_rfl) ?_
        go_meet
        exact ⟨rfl, hB⟩
      case rest =>
        obtain ⟨rfl, hB⟩ := hcut
        clear hneq hgrd c0 d0
        go_wp2_with fail
        go_roundw
        case rel => exact ⟨k + 1, by omega, by go_num, hB⟩
        case measure => simp [intOf]; omega
    · obtain rfl : k = l.length := by omega
      go_wp2_with fail
      go_ret
      exact ⟨rfl, hb.out⟩

set_option maxRecDepth 100000 in
set_option maxHeartbeats 2000000 in
theorem lown_any (p : Option Addr) (cap : Nat) (l : List Sg) (hl : l.length ≤ 1000) (w : World) (h : SlP w 17 p l.length cap (flatG l)) :
    Calls Try.prog 11 #[.slice p l.length cap] w fun e w' => ∃ v, e = .returned v ∧ OwnL w w' 51 17 v l.length (flatG l) := by
  obtain ⟨i0, hi0, hz0, hz1, hz2⟩ := info_parts info_sign
  have f1 := h.fit
  have f2 := h.max
  have HS := Lib.hid h
  clear h
  go_enter Try.func11, Try.ntmps11
  go_wp2_with (at_builtin; refine wpList_append_sl rfl _ _ 24 rfl w.heap.size 51 i0 (sgv zS) 17 128 Try.underlying24 hi0 hz0 hz1 hz2 rfl (by decide) _ 0 (flatG []) rfl (World.ownsRow_lit w #[] 0 (Nat.le_refl _) (by unfold maxLen; omega) rfl) p l.length cap (flatG l) rfl (HS.out.later (w_alloc (w_refl w) _)) (by unfold maxLen; omega) (by omega) (by simp) ?_)
  intro v' w1 hown hgrow
  have HN := Lib.hid (show OwnL w w1 51 17 v' l.length (flatG l) by
    have HA : OwnL w (w.alloc (.cells #[] 51)) 51 17 (.slice (some ⟨w.heap.size, 0, none⟩) 0 0) 0 (flatG []) := ⟨w_alloc (w_refl w) _, World.ownsRow_lit w #[] 0 (Nat.le_refl _) (by unfold maxLen; omega) rfl⟩
    have := HA.app (w_refl _) hown hgrow
    first | exact this | (rw [Nat.zero_add] at this; exact this))
  clear hown hgrow
  go_wp2_with fail
  go_ret
  exact ⟨_, rfl, HN.out⟩

theorem sameb_any (p q : Option Addr) (cp cq : Nat) (l : List Bool) (w : World) (hp : SlP w 1 p l.length cp (bools l)) (hq : SlP w 1 q l.length cq (bools l)) :
    Calls Try.prog 28 #[.slice p l.length cp, .slice q l.length cq] w fun e w' => e = .returned (.bool true) ∧ Below w.heap.size w w' := by
  have f1 := hp.fit
  have f2 := hq.fit
  have m1 := hp.max
  have m2 := hq.max
  have HP := Lib.hid hp
  have HQ := Lib.hid hq
  clear hp hq
  go_enter Try.func28, Try.ntmps28
  go_wp2_with fail
  go_loopw [5] (fun i wr => ∃ k : Nat, k ≤ l.length ∧ i = .int .i64 k ∧ Hid (Below w.heap.size w wr)) (fun i _ => l.length - (intOf i).toNat)
  case atStart => exact ⟨0, by omega, rfl, Lib.hid (w_refl w)⟩
  case round =>
    obtain ⟨k, hk, rfl, hb⟩ := hrel
    by_cases hlt : k < l.length
    · have hlt' : (k : Int) < l.length := by omega
      obtain ⟨s, hs⟩ : ∃ s, (bools l)[k]? = some (.bool s) := ⟨l[k], by rw [List.getElem?_map, List.getElem?_eq_getElem hlt]; rfl⟩
      obtain ⟨b, off, rfl, _, hc⟩ := (HP.out.later hb.out).at_ (by omega)
      obtain ⟨b', off', rfl, _, hd⟩ := (HQ.out.later hb.out).at_ (by omega)
      have c0 := hc _ _ hs
      have d0 := hd _ _ hs
      have hb9 := Lib.hid hb.out.drew
      clear hs hc hd
      go_wp2_with fail
      go_region
      all_goals
        go_wp2_with fail
        go_roundw
        case rel => exact ⟨k + 1, by omega, by go_num, hb9⟩
        case measure => simp [intOf]; omega
    · obtain rfl : k = l.length := by omega
      go_wp2_with fail
      go_ret
      exact ⟨rfl, hb.out⟩

set_option maxRecDepth 100000 in
set_option maxHeartbeats 2000000 in
theorem samel_any (L : List (List Int)) (p q : Option Addr) (cp cq : Nat) (vs us : List Value) (w : World) (hp : LstI w p cp vs L) (hq : LstI w q cq us L) :
    Calls Try.prog 14 #[.slice p L.length cp, .slice q L.length cq] w fun e w' => e = .returned (.bool true) ∧ Below w.heap.size w w' := by
  have f1 := hp.sl.fit
  have f2 := hq.sl.fit
  have m1 := hp.sl.max
  have m2 := hq.sl.max
  have HP := Lib.hid hp
  have HQ := Lib.hid hq
  have SI := Lib.hid (fun zs p q cp cq W hp hq => samei_any p q cp cq zs W hp hq)
  clear hp hq
  go_enter Try.func14, Try.ntmps14
  go_wp2_with fail
  go_loopw [5] (fun i wr => ∃ k : Nat, k ≤ L.length ∧ i = .int .i64 k ∧ Hid (Below w.heap.size w wr)) (fun i _ => L.length - (intOf i).toNat)
  case atStart => exact ⟨0, by omega, rfl, Lib.hid (w_refl w)⟩
  case round =>
    rename World => wr
    obtain ⟨k, hk, rfl, hb⟩ := hrel
    by_cases hlt : k < L.length
    · have hlt' : (k : Int) < L.length := by omega
      have hk0 : (0 : Int) ≤ k := by omega
      have hLr := HP.out.later hb.out
      have hMr := HQ.out.later hb.out
      obtain ⟨b, off, rfl, _, _⟩ := hLr.sl.at_ (by omega)
      obtain ⟨b', off', rfl, _, _⟩ := hMr.sl.at_ (by omega)
      obtain ⟨u, hu, pu, cu, rfl, hus⟩ := hLr.at_ k _ (List.getElem?_eq_getElem hlt)
      obtain ⟨u', hu', pu', cu', rfl, hus'⟩ := hMr.at_ k _ (List.getElem?_eq_getElem hlt)
      have c0 := cell_at hLr.sl hu
      have d0 := cell_at hMr.sl hu'
      have KS := Lib.hid (show ∀ n : Grown wr, Calls Try.prog 17 #[.slice pu L[k].length cu, .slice pu' L[k].length cu'] n.W fun e w' => e = .returned (.bool true) ∧ Grew wr w' from fun n => (SI.out _ _ _ _ _ n.W (hus.later n.b) (hus'.later n.b)).mono fun e w' ⟨h1, h2⟩ => ⟨h1, n.on h2, rfl⟩)
      have t0 : ∀ n : Grown wr, n.W.cell? ⟨b, off + k, none⟩ = some (.slice pu L[k].length cu) := fun n => cell_later n.b c0
      have t1 : ∀ n : Grown wr, n.W.cell? ⟨b', off' + k, none⟩ = some (.slice pu' L[k].length cu') := fun n => cell_later n.b d0
      clear hLr hMr hu hu' hus hus' c0 d0 SI
      generalize L[k].length = lk at *
      go_wp2_with fail
      refine wp_region_grown (by kernel_rfl) (by kernel_rfl) ?_
      repeat (go_big_quiet_step (exact KS.out _))
      refine wpQuiet_nil ?_
      intro n
      have hB := Lib.hid (w_below hb.out n.b)
      clear KS t0 t1
      go_wp2_with fail
      exact ⟨⟨k + 1, by omega, by go_num, hB⟩, by simp [intOf]; omega⟩
    · obtain rfl : k = L.length := by omega
      go_wp2_with fail
      go_ret
      exact ⟨rfl, hb.out⟩

end Go.Proofs.Ythokapebcplmkaa
