/- Lists that are written out, and what the statements say of the meanings of a run. -/
import Derived.Test.YthokapebcplmkaaDMnC
import Derived.Test.YthokapebcplmkaaDKit
namespace Go.Proofs.Ythokapebcplmkaa
open Go.RowKit

/-! ### Lists of signs that are written out -/
def litO (l : List Sg) : Obj := .cells (flatG l).toArray 51
theorem lit_sl (w : World) (l : List Sg) (hn : l.length ≤ 1000) : SlP (w.alloc (litO l)) 17 (some ⟨w.heap.size, 0, none⟩) l.length l.length (flatG l) :=
  ⟨flatG_len l, Nat.le_refl _, by omega, fun e => (by cases e), flatG_one l, fun _ => ⟨w.heap.size, 0, rfl, by simp, fun j u hj => by
    rw [Nat.zero_add]
    exact (HoldsB.new w 51 (flatG l).toArray).cell (by rw [← Array.getElem?_toList]; exact hj)⟩⟩
set_option maxHeartbeats 4000000 in
theorem run_lit2 (s t : Sg) (w : World) : (Instr.buildSlice 24 2 #[(0, sgv s), (1, sgv t)]).run Try.prog w = .ok (.slice (some ⟨w.heap.size, 0, none⟩) 2 2) (w.alloc (litO [s, t])) := by
  unfold litO flatG flatG flatG sgL sgv sgA
  simp [Instr.buildSlice, newRow, go_sem]
set_option maxHeartbeats 4000000 in
theorem run_lit3 (s t u : Sg) (w : World) : (Instr.buildSlice 24 3 #[(0, sgv s), (1, sgv t), (2, sgv u)]).run Try.prog w = .ok (.slice (some ⟨w.heap.size, 0, none⟩) 3 3) (w.alloc (litO [s, t, u])) := by
  unfold litO flatG flatG flatG flatG sgL sgv sgA
  simp [Instr.buildSlice, newRow, go_sem]
set_option maxHeartbeats 16000000 in
set_option maxRecDepth 100000 in
theorem run_lit5 (a b c d e : Sg) (w : World) : (Instr.buildSlice 24 5 #[(0, sgv a), (1, sgv b), (2, sgv c), (3, sgv d), (4, sgv e)]).run Try.prog w = .ok (.slice (some ⟨w.heap.size, 0, none⟩) 5 5) (w.alloc (litO [a, b, c, d, e])) := by
  unfold litO flatG flatG flatG flatG flatG flatG sgL sgv sgA
  simp [Instr.buildSlice, newRow, go_sem]
section
variable {ops : Array Oper} {rest : List Oper} {dd : Option Tmp} {t : TypeId} {ps : String} {af : Array Edge} {a : Act} {Q : Exit → Act → World → Prop}
theorem wl_lit {w : World} {g : Option (Nat × Bool)} (n : Nat) (parts : Array (Nat × Operand)) (l : List Sg) (vs : Array (Nat × Value)) (hv : (parts.map fun (i, x) => (i, a.eval x)) = vs) (hr : (Instr.buildSlice 24 n vs).run Try.prog w = .ok (.slice (some ⟨w.heap.size, 0, none⟩) n n) (w.alloc (litO l)))
    (hw : Region.wanted { dst := dd, op := .buildSlice 24 n parts, type := t, pos := ps, after := af, guard := g } (yielded ops a.tmps) = true)
    (h : wpList Try.prog ops Q rest (a.put dd (.slice (some ⟨w.heap.size, 0, none⟩) n n)) (w.alloc (litO l))) :
    wpList Try.prog ops Q ({ dst := dd, op := .buildSlice 24 n parts, type := t, pos := ps, after := af, guard := g } :: rest) a w := by
  unfold wpList
  rw [if_pos hw]
  refine .inl ?_
  unfold Oper.wp execOp
  simp only [Sem.run_bind, Sem.run_pure]
  rw [hv, hr]
  exact h
end


/-- A list of ints that is written out. -/
theorem lit_in (w : World) (zs : List Int) (h : zs.length ≤ 1000) : SlP (w.alloc (.cells (ints zs).toArray 3)) 1 (some ⟨w.heap.size, 0, none⟩) zs.length zs.length (ints zs) := by
  obtain ⟨p, cap, e, k⟩ := IntV.of_own (zs := zs) (lit_own w zs w.heap.size (Nat.le_refl _) (by unfold maxLen; omega))
  injection e with e1 e2 e3
  subst e1 e3
  exact k
/-- A list of lists that is written out. -/
theorem lit_ll (w : World) (us : List Value) (L : List (List Int)) (hn : L.length ≤ 1000) (hl : us.length = L.length) (hu : ∀ (k : Nat) (x : List Int), L[k]? = some x → ∃ u, us[k]? = some u ∧ IntV w u x) :
    LstI (w.alloc (.cells us.toArray 32)) (some ⟨w.heap.size, 0, none⟩) L.length us L := by
  refine ⟨⟨by omega, Nat.le_refl _, by omega, fun e => (by cases e), fun u hm => ?_, fun _ => ⟨w.heap.size, 0, rfl, by simp, fun j u hj => ?_⟩⟩, hl, fun k x hx => ?_⟩
  · obtain ⟨k, hk, e⟩ := List.getElem_of_mem hm
    obtain ⟨u', e', p, c, rfl, _⟩ := hu k L[k] (List.getElem?_eq_getElem (by omega))
    rw [List.getElem?_eq_getElem hk, e] at e'
    obtain rfl := Option.some.inj e'
    rfl
  · rw [Nat.zero_add]
    exact (HoldsB.new w 32 us.toArray).cell (by simpa using hj)
  · obtain ⟨u, e, k⟩ := hu k x hx
    exact ⟨u, e, k.later (w_alloc (w_refl w) _)⟩

set_option maxHeartbeats 1000000 in
theorem lmeans_any (q : Q4) (l : List Sg) (hl : l.length ≤ 1000) (L : List (List Int)) (R : List Int) (hc : chkD q l = 0) (hM : mnD q l = L) (hR : ruD q l = R) (p pl pr : Option Addr) (cap cl cr : Nat) (us : List Value) (w : World)
    (h : SlP w 17 p l.length cap (flatG l)) (h2 : LstI w pl cl us L) (h3 : SlP w 1 pr R.length cr (ints R)) :
    Calls Try.prog 30 #[mv q, .slice p l.length cap, .slice pl L.length cl, .slice pr R.length cr] w fun e w' => e = .returned (.bool true) ∧ Below w.heap.size w w' := by
  have K0 := Lib.hid (Cell4.made w q 23)
  have B0 := Lib.hid (w_alloc (w_refl w) (mO q))
  have HP := Lib.hid h
  have HL := Lib.hid h2
  have HR := Lib.hid h3
  have MN := Lib.hid (fun W hh => pmns_any q l hl p cap W hh)
  have RU := Lib.hid (fun W hh => prul_any q l hl p cap W hh)
  have SL := Lib.hid (fun p q cp cq vs us W hp hq => samel_any L p q cp cq vs us W hp hq)
  have SI := Lib.hid (fun p q cp cq W hp hq => samei_any p q cp cq R W hp hq)
  unfold MnPost at MN
  unfold RuPost at RU
  rw [hc, hM] at MN
  rw [hc, hR] at RU
  clear h h2 h3 hc hM hR
  obtain ⟨q1, q2, q3, q4⟩ := q
  go_enter Try.func30, Try.ntmps30
  obtain ⟨_, k0, k1, k2, k3, _⟩ := K0.out
  simp only at k0 k1 k2 k3
  go_wp2_with fail
  refine (MN.out _ (HP.out.later B0.out)).mono ?_
  rintro e w1 ⟨v, rfl, ⟨pa, ca, vs, rfl, hA⟩, hb⟩
  have B1 := Lib.hid (w_below B0.out hb)
  have KM1 := Lib.hid (K0.out.later hb)
  have HA := Lib.hid hA
  clear hb k0 k1 k2 k3 K0 B0 MN hA
  obtain ⟨_, k0, k1, k2, k3, _⟩ := KM1.out
  simp only at k0 k1 k2 k3
  go_wp2_with fail
  refine (RU.out _ (HP.out.later B1.out)).mono ?_
  rintro e w2 ⟨v, rfl, ⟨pb, cb, rfl, hB⟩, hb⟩
  have B2 := Lib.hid (w_below B1.out hb)
  have HA2 := Lib.hid (HA.out.later hb)
  have HB := Lib.hid hB
  clear hb k0 k1 k2 k3 KM1 B1 RU hB HA
  go_wp2_with fail
  refine (SL.out _ _ _ _ _ _ _ HA2.out (HL.out.later B2.out)).mono ?_
  rintro e w3 ⟨rfl, hb⟩
  have B3 := Lib.hid (w_below B2.out hb)
  have HB3 := Lib.hid (HB.out.later hb)
  clear hb SL HA2 B2 HB
  go_wp2_with fail
  refine (SI.out _ _ _ _ _ HB3.out (HR.out.later B3.out)).mono ?_
  rintro e w4 ⟨rfl, hb⟩
  have B4 := Lib.hid (w_below B3.out hb)
  clear hb SI HB3 B3
  go_wp2_with fail
  go_ret
  exact ⟨rfl, B4.out⟩

/-- With one list of one or two, and one number: as the examples lay them. -/
theorem lmeans_at1 (q : Q4) (l : List Sg) (hl : l.length ≤ 1000) (x : Int) (r : Int) (hc : chkD q l = 0) (hM : mnD q l = [[x]]) (hR : ruD q l = [r]) (p : Option Addr) (cap : Nat) (w : World) (h : SlP w 17 p l.length cap (flatG l)) :
    Calls Try.prog 30 #[mv q, .slice p l.length cap, .slice (some ⟨w.heap.size + 1, 0, none⟩) 1 1, .slice (some ⟨w.heap.size + 1 + 1, 0, none⟩) 1 1]
      (((w.alloc (.cells #[.int .i64 x] 3)).alloc (.cells #[.slice (some ⟨w.heap.size, 0, none⟩) 1 1] 32)).alloc (.cells #[.int .i64 r] 3)) fun e w' => e = .returned (.bool true) ∧ Below w.heap.size w w' := by
  have h1 := lit_in w [x] (by simp)
  have h2 := lit_ll (w.alloc (.cells (ints [x]).toArray 3)) [.slice (some ⟨w.heap.size, 0, none⟩) 1 1] [[x]] (by simp) rfl (fun k y hy => by
    match k, hy with
    | 0, hy => simp at hy; subst hy; exact ⟨_, rfl, _, _, rfl, h1⟩
    | k + 1, hy => simp at hy)
  have h3 := lit_in ((w.alloc (.cells (ints [x]).toArray 3)).alloc (.cells [.slice (some ⟨w.heap.size, 0, none⟩) 1 1].toArray 32)) [r] (by simp)
  have hb : Below w.heap.size w (((w.alloc (.cells #[.int .i64 x] 3)).alloc (.cells #[.slice (some ⟨w.heap.size, 0, none⟩) 1 1] 32)).alloc (.cells #[.int .i64 r] 3)) := w_alloc (w_alloc (w_alloc (w_refl w) _) _) _
  rw [World.size_alloc] at h2
  rw [World.size_alloc, World.size_alloc] at h3
  exact (lmeans_any q l hl [[x]] [r] hc hM hR p _ _ cap 1 1 _ _ (h.later hb) (h2.later (w_alloc (w_refl _) _)) h3).mono fun e w' ⟨e1, b1⟩ => ⟨e1, w_below hb b1⟩
theorem lmeans_at2 (q : Q4) (l : List Sg) (hl : l.length ≤ 1000) (x y : Int) (r : Int) (hc : chkD q l = 0) (hM : mnD q l = [[x, y]]) (hR : ruD q l = [r]) (p : Option Addr) (cap : Nat) (w : World) (h : SlP w 17 p l.length cap (flatG l)) :
    Calls Try.prog 30 #[mv q, .slice p l.length cap, .slice (some ⟨w.heap.size + 1, 0, none⟩) 1 1, .slice (some ⟨w.heap.size + 1 + 1, 0, none⟩) 1 1]
      (((w.alloc (.cells #[.int .i64 x, .int .i64 y] 3)).alloc (.cells #[.slice (some ⟨w.heap.size, 0, none⟩) 2 2] 32)).alloc (.cells #[.int .i64 r] 3)) fun e w' => e = .returned (.bool true) ∧ Below w.heap.size w w' := by
  have h1 := lit_in w [x, y] (by simp)
  have h2 := lit_ll (w.alloc (.cells (ints [x, y]).toArray 3)) [.slice (some ⟨w.heap.size, 0, none⟩) 2 2] [[x, y]] (by simp) rfl (fun k z hy => by
    match k, hy with
    | 0, hy => simp at hy; subst hy; exact ⟨_, rfl, _, _, rfl, h1⟩
    | k + 1, hy => simp at hy)
  have h3 := lit_in ((w.alloc (.cells (ints [x, y]).toArray 3)).alloc (.cells [.slice (some ⟨w.heap.size, 0, none⟩) 2 2].toArray 32)) [r] (by simp)
  have hb : Below w.heap.size w (((w.alloc (.cells #[.int .i64 x, .int .i64 y] 3)).alloc (.cells #[.slice (some ⟨w.heap.size, 0, none⟩) 2 2] 32)).alloc (.cells #[.int .i64 r] 3)) := w_alloc (w_alloc (w_alloc (w_refl w) _) _) _
  rw [World.size_alloc] at h2
  rw [World.size_alloc, World.size_alloc] at h3
  exact (lmeans_any q l hl [[x, y]] [r] hc hM hR p _ _ cap 1 1 _ _ (h.later hb) (h2.later (w_alloc (w_refl _) _)) h3).mono fun e w' ⟨e1, b1⟩ => ⟨e1, w_below hb b1⟩
/-- With two lists: as awake lays them. -/
theorem lmeans_aw (q : Q4) (l : List Sg) (hl : l.length ≤ 1000) (x y z r s : Int) (hc : chkD q l = 0) (hM : mnD q l = [[x, y], [z]]) (hR : ruD q l = [r, s]) (p : Option Addr) (cap : Nat) (w : World) (h : SlP w 17 p l.length cap (flatG l)) :
    Calls Try.prog 30 #[mv q, .slice p l.length cap, .slice (some ⟨w.heap.size + 1 + 1, 0, none⟩) 2 2, .slice (some ⟨w.heap.size + 1 + 1 + 1, 0, none⟩) 2 2]
      ((((w.alloc (.cells #[.int .i64 x, .int .i64 y] 3)).alloc (.cells #[.int .i64 z] 3)).alloc (.cells #[.slice (some ⟨w.heap.size, 0, none⟩) 2 2, .slice (some ⟨w.heap.size + 1, 0, none⟩) 1 1] 32)).alloc (.cells #[.int .i64 r, .int .i64 s] 3)) fun e w' => e = .returned (.bool true) ∧ Below w.heap.size w w' := by
  have h1 := (lit_in w [x, y] (by simp)).later (w_alloc (w_refl _) (.cells (ints [z]).toArray 3))
  have h1b := lit_in (w.alloc (.cells (ints [x, y]).toArray 3)) [z] (by simp)
  rw [World.size_alloc] at h1b
  have h2 := lit_ll ((w.alloc (.cells (ints [x, y]).toArray 3)).alloc (.cells (ints [z]).toArray 3)) [.slice (some ⟨w.heap.size, 0, none⟩) 2 2, .slice (some ⟨w.heap.size + 1, 0, none⟩) 1 1] [[x, y], [z]] (by simp) rfl (fun k u hy => by
    match k, hy with
    | 0, hy => simp at hy; subst hy; exact ⟨_, rfl, _, _, rfl, h1⟩
    | 1, hy => simp at hy; subst hy; exact ⟨_, rfl, _, _, rfl, h1b⟩
    | k + 2, hy => simp at hy)
  have h3 := lit_in (((w.alloc (.cells (ints [x, y]).toArray 3)).alloc (.cells (ints [z]).toArray 3)).alloc (.cells [.slice (some ⟨w.heap.size, 0, none⟩) 2 2, .slice (some ⟨w.heap.size + 1, 0, none⟩) 1 1].toArray 32)) [r, s] (by simp)
  have hb : Below w.heap.size w ((((w.alloc (.cells #[.int .i64 x, .int .i64 y] 3)).alloc (.cells #[.int .i64 z] 3)).alloc (.cells #[.slice (some ⟨w.heap.size, 0, none⟩) 2 2, .slice (some ⟨w.heap.size + 1, 0, none⟩) 1 1] 32)).alloc (.cells #[.int .i64 r, .int .i64 s] 3)) := w_alloc (w_alloc (w_alloc (w_alloc (w_refl w) _) _) _) _
  rw [World.size_alloc, World.size_alloc] at h2
  rw [World.size_alloc, World.size_alloc, World.size_alloc] at h3
  exact (lmeans_any q l hl [[x, y], [z]] [r, s] hc hM hR p _ _ cap 2 2 _ _ (h.later hb) (h2.later (w_alloc (w_refl _) _)) h3).mono fun e w' ⟨e1, b1⟩ => ⟨e1, w_below hb b1⟩

end Go.Proofs.Ythokapebcplmkaa
