/- A strings.Builder at the head of a writer: what its methods do. What the methods of a writer write: numbers and marks. Signs and their texts are inverse to each other, as plain mathematics. -/
import Derived.Test.YtdmedealdhadcaaGreatDoorG05
import Derived.Shelf.Strings.BuilderF
import Derived.Lib.LaidTab
import Derived.Deep.RegionHeld3
import Derived.Test.YtdmedealdhadcaaGreatDoorG04

namespace Go.Proofs.YtdmedealdhadcaaGreatDoor
open Go.RowKit
def wrA (p v : Value) (s : Sg) : Array Value := #[p, v, .int .i64 s.kind, .int .i64 s.val, .int .i64 s.place, .int .i64 s.acc, .bool s.col, .int .i64 s.stem, .bool s.obl, .bool s.last, .int .i64 s.m0, .int .i64 s.m1, .int .i64 s.m2, .int .i64 s.m3, .bool s.stk, .int .i64 s.n, .int .i64 s.d, .int .i64 s.c0, .int .i64 s.c1]
/-- The writer in block b has written l; its buffer is the call's own. -/
structure WrP (p : Value) (B b : Nat) (l : List UInt8) (s : Sg) (w : World) : Prop where
  base : B ≤ b
  at_ : ∃ v, HoldsB w b 74 (wrA p v s) ∧ w.ownsRowF B 5 1 v l.length (Lib.byteCells l) ∧ v.ownBlock ≠ some b
def WrX (B b : Nat) (l : List UInt8) (s : Sg) (w : World) : Prop := WrP (.pointer none) B b l s w ∨ WrP (.pointer (some ⟨b, 0, none⟩)) B b l s w
theorem WrP.p {p : Value} {B b : Nat} {l : List UInt8} {s : Sg} {w : World} (h : WrP p B b l s w) : w.cell? ⟨b, 0, none⟩ = some p := by
  obtain ⟨v, hb, _⟩ := h.at_
  exact hb.cell rfl
theorem WrP.shape {p : Value} {B b : Nat} {l : List UInt8} {s : Sg} {w : World} (h : WrP p B b l s w) : w.shape? b = some (74, 19) := by
  obtain ⟨v, hb, _⟩ := h.at_
  simp [World.shape?, show w.heap[b]? = _ from hb, wrA]
theorem WrP.fz {p : Value} {B b : Nat} {l : List UInt8} {s : Sg} {w : World} (h : WrP p B b l s w) : w.frozen? ⟨b, 0, none⟩ = false := by
  obtain ⟨v, hb, _⟩ := h.at_
  exact hb.frozen 0
theorem WrP.used {p : Value} {B b : Nat} {l : List UInt8} {s : Sg} {w : World} (h : WrP p B b l s w) (q : Value) : WrP q B b l s (w.setCell ⟨b, 0, none⟩ q) := by
  obtain ⟨v, hb, hown, hne⟩ := h.at_
  refine ⟨h.base, v, hb.set 0 q, ?_, hne⟩
  exact hown.kept (row := some b) ⟨rfl, rfl, rfl, by simp [World.setCell], fun k _ hk => Below.heap_setCell _ _ _ _ (fun e => hk (by simp [e]))⟩ (Or.inr hne)
set_option maxRecDepth 100000 in
set_option maxHeartbeats 2000000 in
theorem wcheck_fresh (b : Nat) (w : World) (h0 : w.cell? ⟨b, 0, none⟩ = some (.pointer none)) (hsh : w.shape? b = some (74, 19)) (hfz : w.frozen? ⟨b, 0, none⟩ = false) :
    Calls Tryz.prog 149 #[.pointer (some ⟨b, 0, none⟩)] w fun e w' => e = .returned (.tuple #[]) ∧ w' = w.setCell ⟨b, 0, none⟩ (.pointer (some ⟨b, 0, none⟩)) := by
  obtain ⟨j, hj, hjs⟩ := Option.map_eq_some_iff.1 (show (Tryz.prog.info? 72).map (·.size) = some 2 by kernel_rfl)
  go_enter Tryz.func149, Tryz.ntmps149
  go_wp2
  rw [Lib.run_to_unsafe w ⟨b, 0, none⟩ Tryz.underlying69 Tryz.underlying191 hj (by rw [hjs]; decide) hsh (show 0 < 19 by decide)]
  simp only [Result.andThen]
  rw [Oper.upon_value]
  go_wp2
  rw [run_callFunc_extern Tryz.func176 (by kernel_rfl) (by kernel_rfl) (by kernel_rfl) (e := Extern.AbiNoEscape.same) (by kernel_rfl)]
  rw [Lib.run_noEscape]
  simp only [Result.andThen]
  rw [Oper.upon_value]
  go_wp2
  rw [Lib.run_from_unsafe w ⟨b, 0, none⟩ Tryz.underlying191 Tryz.underlying69 hj hsh (show liesAt Tryz.prog Tryz.prog.depth 74 (19 / Tryz.prog.cellsOf 74) 0 72 1 = true by kernel_rfl)]
  simp only [Result.andThen]
  rw [Oper.upon_value]
  go_wp2
  go_end0
  exact ⟨rfl, rfl⟩
set_option maxRecDepth 100000 in
set_option maxHeartbeats 2000000 in
theorem wcheck_used (b : Nat) (w : World) (h0 : w.cell? ⟨b, 0, none⟩ = some (.pointer (some ⟨b, 0, none⟩))) :
    Calls Tryz.prog 149 #[.pointer (some ⟨b, 0, none⟩)] w fun e w' => e = .returned (.tuple #[]) ∧ w' = w := by
  obtain ⟨j, hj, _⟩ := Option.map_eq_some_iff.1 (show (Tryz.prog.info? 72).map (·.size) = some 2 by kernel_rfl)
  go_enter Tryz.func149, Tryz.ntmps149
  go_wp2
  rw [Lib.run_neq_ptr_same w _ Tryz.underlying69 hj]
  go_wp2
  go_end0
  exact ⟨rfl, rfl⟩
/-- Blocks that hold no bytes, b aside, are as they were. -/
def Kb (b : Nat) (W V : World) : Prop := ∀ (g : Nat) (t : TypeId) (cs : Array Value), g ≠ b → t ≠ 5 → HoldsB W g t cs → HoldsB V g t cs
theorem wcheck_any (B b : Nat) (l : List UInt8) (s : Sg) (w : World) (h : WrX B b l s w) :
    Calls Tryz.prog 149 #[.pointer (some ⟨b, 0, none⟩)] w fun e w' => e = .returned (.tuple #[]) ∧ WrP (.pointer (some ⟨b, 0, none⟩)) B b l s w' ∧ Below B w w' ∧ Kb b w w' := by
  rcases h with h | h
  · refine (wcheck_fresh b w h.p h.shape h.fz).mono ?_
    rintro e w' ⟨rfl, rfl⟩
    exact ⟨rfl, h.used _, (Below.refl B w).setCell (p := ⟨b, 0, none⟩) h.base _, fun g t cs hg _ hh => hh.other hg 0 _⟩
  · refine (wcheck_used b w h.p).mono ?_
    rintro e w' ⟨rfl, rfl⟩
    exact ⟨rfl, h, Below.refl B _, fun g t cs _ _ hh => hh⟩
theorem own_slice {w : World} {B n : Nat} {e : TypeId} {xs : List Value} {v : Value} (h : w.ownsRowF B e 1 v n xs) : ∃ q c, v = .slice q n c := by
  rcases h.2 with ⟨rfl, rfl⟩ | ⟨g', cap, cur, fz, rfl, _⟩
  · exact ⟨none, 0, rfl⟩
  · exact ⟨_, _, rfl⟩
set_option maxRecDepth 100000 in
set_option maxHeartbeats 4000000 in
theorem wstr_keep (B b : Nat) (l : List UInt8) (s : Sg) (t : ByteArray) (w : World) (h : WrX B b l s w) (hlen : l.length + t.size ≤ 140737488355328) (hBw : B ≤ w.heap.size) :
    Calls Tryz.prog 95 #[.pointer (some ⟨b, 0, none⟩), .string t] w fun e w' => e = .returned (.tuple #[.int .i64 t.size, .nilIface]) ∧ WrX B b (l ++ t.data.toList) s w' ∧ Below B w w' ∧ Kb b w w' := by
  obtain ⟨i0, hi, hz0, hz1, hz2⟩ := info_parts (show (Tryz.prog.info? 5).map (fun i => (i.zero, i.size, i.bytes)) = some (some (.int .u8 0), 1, 1) by kernel_rfl)
  have C := Lib.hid (wcheck_any B b l s w h)
  clear h
  go_enter Tryz.func95, Tryz.ntmps95
  go_wp2_with fail
  refine C.out.mono ?_
  rintro e w1 ⟨rfl, h1, hb1, hk1⟩
  have HK1 := Lib.hid hk1
  clear C hk1
  have hBb := h1.base
  obtain ⟨v, hbk, hown, hne⟩ := h1.at_
  have c0 : w1.cell? ⟨b, 0, none⟩ = some (.pointer (some ⟨b, 0, none⟩)) := hbk.cell rfl
  have c1 : w1.cell? ⟨b, 1, none⟩ = some v := hbk.cell rfl
  have HB := Lib.hid hbk
  have HO := Lib.hid hown
  have HN := Lib.hid hne
  have HL := Lib.hid hb1
  have hs1 : B ≤ w1.heap.size := Nat.le_trans hBw hb1.size
  have HS1 := Lib.hid hs1
  clear h1 hbk hown hne hb1 hs1
  go_wp2_with (at_builtin; refine Lib.wpList_append_own_stringF _ rfl _ _ 70 9 rfl B 5 i0 Tryz.underlying70 Tryz.underlying9 hi hz0 hz1 hz2 v l.length (Lib.byteCells l) rfl HO.out t rfl ?c3 ?c4 ?c5 ?_)
  case c3 => unfold maxLen; omega
  case c4 => omega
  case c5 => exact HS1.out
  intro v' w2 hown' hgrow _
  have hbl : b < w1.heap.size := HB.out.lt
  obtain ⟨q, c, rfl⟩ := own_slice hown'
  have hb2 := Lib.hid (show HoldsB w2 b 74 (wrA (.pointer (some ⟨b, 0, none⟩)) v s) from HB.out.kept hgrow (fun e => HN.out e.symm))
  have hne2 := Lib.hid (Lib.ownBlock_neF hown' hb2.out (show 74 ≠ 5 by decide))
  have HL2 := Lib.hid (HL.out.grown hgrow HS1.out (fun g hg => by
    rcases HO.out.2 with ⟨rfl, _⟩ | ⟨g', cap, cur, fz, rfl, hbg, _⟩
    · cases hg
    · injection hg with hg; subst hg; exact hbg))
  have HO2 := Lib.hid (show w2.ownsRowF B 5 1 (.slice q (l.length + t.size) c) (l ++ t.data.toList).length (Lib.byteCells (l ++ t.data.toList)) by
    have e1 : (l ++ t.data.toList).length = l.length + t.size := by rw [List.length_append]; simp
    rw [e1, Lib.byteCells_append]
    exact hown')
  have HS2 := Lib.hid (Nat.le_trans HS1.out hgrow.size)
  have HK2 := Lib.hid (show Kb b w w2 from fun g t0 cs hg ht hh => by
    have h1 := HK1.out g t0 cs hg ht hh
    refine h1.kept hgrow (fun e => ?_)
    exact Lib.ownBlock_neF HO.out h1 ht e.symm)
  clear hown' hgrow hbl HB HO HN HL HS1 c0 c1
  go_wp2_with (first | (refine wl_cell 70 b 1 74 _ (.slice q (l.length + t.size) c) (by kernel_rfl) (by kernel_rfl) hb2.out (show 1 < 19 by decide) (by kernel_rfl) rfl rfl ?_) | fail)
  intro W3 h2 h3
  have H2 := Lib.hid (show WrX B b (l ++ t.data.toList) s W3 from .inr ⟨hBb, _, h2, HO2.out.kept h3 (Or.inr hne2.out), hne2.out⟩)
  have H3 := Lib.hid (h3.bel HL2.out hBb HS2.out)
  have H4 := Lib.hid (show Kb b w W3 from fun g t0 cs hg ht hh => (HK2.out g t0 cs hg ht hh).mv h3 hg)
  clear h2 h3 hb2 HL2 HO2
  go_wp2_with fail
  go_ret2
  exact ⟨rfl, H2.out, H3.out, H4.out⟩
theorem wstr_any (B b : Nat) (l : List UInt8) (s : Sg) (t : ByteArray) (w : World) (h : WrX B b l s w) (hlen : l.length + t.size ≤ 140737488355328) (hBw : B ≤ w.heap.size) :
    Calls Tryz.prog 95 #[.pointer (some ⟨b, 0, none⟩), .string t] w fun e w' => e = .returned (.tuple #[.int .i64 t.size, .nilIface]) ∧ WrX B b (l ++ t.data.toList) s w' ∧ Below B w w' :=
  (wstr_keep B b l s t w h hlen hBw).mono fun _ _ ⟨a, b, c, _⟩ => ⟨a, b, c⟩
end Go.Proofs.YtdmedealdhadcaaGreatDoor

namespace Go.Proofs.YtdmedealdhadcaaGreatDoor
open Go.RowKit
/-- The library's table of powers is as its text lays it. -/
def ITab (w : World) : Prop := Lib.TabIs Tryz.prog w "internal/strconv.uint64pow10" .u64 Lib.pow10Tab
theorem gITab : Tryz.prog.globalNamed "internal/strconv.uint64pow10" = some 5 := by kernel_rfl
theorem ITab.later {w w' : World} (h : ITab w) (hb : Below w.heap.size w w') : ITab w' := by
  have h0 : 5 < w.heap.size := by
    unfold ITab Lib.TabIs World.var? at h
    simp only [gITab, Option.bind_some] at h
    by_cases hz : 5 < w.heap.size
    · exact hz
    · have : w.heap[5]? = none := Array.getElem?_eq_none (by omega)
      rw [this] at h; simp at h
  exact var?_below hb gITab h0 h
/-- The table stands, and nothing below B is changed since. -/
def IT (B : Nat) (W : World) : Prop := ∃ w0, ITab w0 ∧ w0.heap.size ≤ B ∧ Below w0.heap.size w0 W ∧ B ≤ W.heap.size
theorem IT.tab {B : Nat} {W : World} (h : IT B W) : ITab W := by
  obtain ⟨w0, h1, _, h3, _⟩ := h
  exact h1.later h3
theorem IT.later {B : Nat} {W V : World} (h : IT B W) (k : Below B W V) : IT B V := by
  obtain ⟨w0, h1, h2, h3, h4⟩ := h
  exact ⟨w0, h1, h2, h3.trans (k.mono h2), Nat.le_trans h4 k.size⟩
theorem IT.sz {B : Nat} {W : World} (h : IT B W) : B ≤ W.heap.size := by
  obtain ⟨w0, _, _, _, h4⟩ := h
  exact h4
theorem below_gr (w : World) (k : Nat) (os : Array Obj) : Below w.heap.size w (Go.Sort.grow (w.drewN k) os) :=
  ⟨rfl, rfl, rfl, by show w.heap.size ≤ (w.heap ++ os).size; rw [Array.size_append]; omega, fun i hi => by
    show (w.heap ++ os)[i]? = _
    rw [Array.getElem?_append_left hi]⟩
theorem itoa_all (n : Int) (w : World) (h0 : -1000 ≤ n) (h1 : n ≤ 1000) (ht : ITab w) :
    Calls Tryz.prog 172 #[.int .i64 n] w fun e w' => e = .returned (.string (bytes (Lib.itoa n))) ∧ Below w.heap.size w w' := by
  refine (Tryz.strconv_Itoa n (by omega) (by omega) w ht).mono ?_
  rintro e w' ⟨rfl, k, os, rfl⟩
  exact ⟨rfl, below_gr w k os⟩
/-- What a writer is, and the table. -/
structure WrT (B b : Nat) (l : List UInt8) (s : Sg) (W : World) : Prop where
  wr : WrX B b l s W
  it : IT B W
theorem WrT.base {B b : Nat} {l : List UInt8} {s : Sg} {W : World} (h : WrT B b l s W) : B ≤ b := by
  rcases h.wr with x | x <;> exact x.base
theorem WrP.mv {p : Value} {B b : Nat} {l : List UInt8} {s : Sg} {W V : World} (h : WrP p B b l s W) (k : Below W.heap.size W V) : WrP p B b l s V := by
  obtain ⟨v, h1, h2, h3⟩ := h.at_
  refine ⟨h.base, v, h1.later k, h2.kept (row := none) ⟨k.os, k.tape, k.output, k.size, fun i hi _ => k.block i hi⟩ (by cases hv : v.ownBlock <;> simp), h3⟩
theorem WrT.later {B b : Nat} {l : List UInt8} {s : Sg} {W V : World} (h : WrT B b l s W) (k : Below W.heap.size W V) : WrT B b l s V :=
  ⟨h.wr.elim (fun x => .inl (x.mv k)) (fun x => .inr (x.mv k)), h.it.later (k.mono h.it.sz)⟩
/-- A field of the sign. -/
theorem WrT.cell {B b : Nat} {l : List UInt8} {s : Sg} {W : World} (h : WrT B b l s W) {j : Nat} {u : Value} (e : ∀ p v, (wrA p v s)[j]? = some u) : W.cell? ⟨b, j, none⟩ = some u := by
  rcases h.wr with x | x <;> (obtain ⟨v, h1, _⟩ := x.at_; exact h1.cell (e _ v))
theorem wt_any (B b : Nat) (l : List UInt8) (s : Sg) (t : ByteArray) (w : World) (h : WrT B b l s w) (hl : l.length ≤ 1000) (ht : t.size ≤ 1000) :
    Calls Tryz.prog 95 #[.pointer (some ⟨b, 0, none⟩), .string t] w fun e w' => e = .returned (.tuple #[.int .i64 t.size, .nilIface]) ∧ WrT B b (l ++ t.data.toList) s w' ∧ Below B w w' :=
  (wstr_any B b l s t w h.wr (by omega) h.it.sz).mono fun e w' ⟨h1, h2, h3⟩ => ⟨h1, ⟨h2, h.it.later h3⟩, h3⟩
/-- A method of a writer writes a text. -/
def Wm (N : Nat) (f : FuncId) (T : Sg → List UInt8) (ok : Sg → Prop) : Prop := ∀ (B b : Nat) (l : List UInt8) (s : Sg) (W : World), l.length ≤ N → ok s → WrT B b l s W →
  Calls Tryz.prog f #[.pointer (some ⟨b, 0, none⟩)] W fun e W' => e = .returned (.tuple #[]) ∧ WrT B b (l ++ T s) s W' ∧ Below B W W'
set_option maxRecDepth 100000 in
set_option maxHeartbeats 4000000 in
theorem wnum_any (n : Int) (h0 : -4 ≤ n) (h1 : n ≤ 100) (B b : Nat) (l : List UInt8) (s : Sg) (W : World) (hl : l.length ≤ 900) (h : WrT B b l s W) (hz : (Lib.itoa n).length ≤ 10) :
    Calls Tryz.prog 135 #[.pointer (some ⟨b, 0, none⟩), .int .i64 n] W fun e W' => e = .returned (.tuple #[]) ∧ WrT B b (l ++ Lib.itoa n) s W' ∧ Below B W W' := by
  have IA := Lib.hid (fun V (hV : ITab V) => itoa_all n V (by omega) (by omega) hV)
  have FX := Lib.hid (show WrT B b l s W.drew from h.later (w_refl W).drew)
  have WS := Lib.hid (fun V (hV : WrT B b l s V) => wt_any B b l s (bytes (Lib.itoa n)) V hV (by omega) (by rw [bytes_size]; omega))
  rw [bytes_data] at WS
  have hBW := h.it.sz
  clear h
  generalize Lib.itoa n = ds at *
  go_enter Tryz.func135, Tryz.ntmps135
  go_wp2_with fail
  go_region_held3 (fun _ => True)
    (first | exact trivial | assumption)
    (first
      | (go_at_call 172; refine (IA.out _ FX.out.it.tab).mono ?_; rintro e wn ⟨rfl, hb⟩; replace FX := Lib.hid (FX.out.later hb); have HB := Lib.hid hb; clear hb)
      | (go_at_call 95; refine (WS.out _ FX.out).mono ?_; rintro e wm ⟨rfl, hx, hb⟩; have HX := Lib.hid hx; have HY := Lib.hid hb; clear hx hb)
      | fail)
  all_goals
    go_end0
    exact ⟨rfl, HX.out, ((w_refl W).drew.trans HB.out).mono (show B ≤ W.heap.size from hBW) |>.trans HY.out⟩
end Go.Proofs.YtdmedealdhadcaaGreatDoor

namespace Go.Proofs.YtdmedealdhadcaaGreatDoor
open Go.RowKit
/-! ### Numbers -/
theorem itoa_nat : ∀ n ∈ List.range 101, numberV (Lib.itoa ((n : Nat) : Int)) = some (n : Int) ∧ (Lib.itoa ((n : Nat) : Int)).all dig = true ∧ Lib.itoa ((n : Nat) : Int) ≠ [] ∧ (Lib.itoa ((n : Nat) : Int)).length ≤ 3 := by decide +kernel
theorem itoa_int {n : Int} (h0 : 0 ≤ n) (h1 : n ≤ 100) : numberV (Lib.itoa n) = some n ∧ (Lib.itoa n).all dig = true ∧ Lib.itoa n ≠ [] ∧ (Lib.itoa n).length ≤ 3 := by
  obtain ⟨m, rfl⟩ : ∃ m : Nat, n = m := ⟨n.toNat, by omega⟩
  exact itoa_nat m (List.mem_range.2 (by omega))
theorem itoa_plc {n : Int} (h0 : -4 ≤ n) (h1 : n ≤ 12) : signO (Lib.itoa n) = (n, true) ∧ Lib.itoa n = (if n < 0 then [45] else []) ++ Lib.itoa (n.natAbs : Int) := by
  have c : n = -4 ∨ n = -3 ∨ n = -2 ∨ n = -1 ∨ n = 0 ∨ n = 1 ∨ n = 2 ∨ n = 3 ∨ n = 4 ∨ n = 5 ∨ n = 6 ∨ n = 7 ∨ n = 8 ∨ n = 9 ∨ n = 10 ∨ n = 11 ∨ n = 12 := by omega
  rcases c with rfl | rfl | rfl | rfl | rfl | rfl | rfl | rfl | rfl | rfl | rfl | rfl | rfl | rfl | rfl | rfl | rfl <;> decide +kernel
/-- No digit comes next. -/
def noDig (r : List UInt8) : Prop := r.head?.any dig = false
theorem take_dig : ∀ (ds : List UInt8) {r : List UInt8}, ds.all dig = true → noDig r → (ds ++ r).takeWhile dig = ds ∧ (ds ++ r).dropWhile dig = r
  | [], [], _, _ => ⟨rfl, rfl⟩
  | [], c :: t, _, h => by
    have hc : dig c = false := by simpa [noDig] using h
    simp [hc]
  | d :: ds, r, ha, h => by
    simp only [List.all_cons, Bool.and_eq_true] at ha
    obtain ⟨h1, h2⟩ := take_dig ds ha.2 h
    simp [ha.1, h1, h2]
theorem dig_not45 {c : UInt8} (h : dig c = true) : c ≠ 45 := by
  rintro rfl; revert h; decide
theorem head_not45 {ds r : List UInt8} (h : ds.all dig = true) (hn : ds ≠ []) : (ds ++ r).head? ≠ some 45 := by
  cases ds with
  | nil => exact absurd rfl hn
  | cons d t =>
    simp only [List.all_cons, Bool.and_eq_true] at h
    intro e
    simp only [List.cons_append, List.head?_cons, Option.some.injEq] at e
    exact dig_not45 h.1 e
theorem plc_back {n : Int} (h0 : -4 ≤ n) (h1 : n ≤ 12) {r : List UInt8} (hr : noDig r) : plcT (Lib.itoa n ++ r) = Lib.itoa n ∧ plcR (Lib.itoa n ++ r) = r := by
  obtain ⟨_, e⟩ := itoa_plc h0 h1
  obtain ⟨_, ha, hn, _⟩ := itoa_int (n := (n.natAbs : Int)) (by omega) (by omega)
  obtain ⟨t1, t2⟩ := take_dig _ ha hr
  by_cases hx : n < 0
  · rw [if_pos hx] at e
    rw [e]
    unfold plcT plcR
    rw [if_pos (by simp), if_pos (by simp)]
    simp [t1, t2]
  · rw [if_neg hx, List.nil_append] at e
    rw [e]
    have h45 := head_not45 (r := r) ha hn
    unfold plcT plcR
    rw [if_neg h45, if_neg h45]
    exact ⟨t1, t2⟩
theorem digits_small : ∀ x ∈ List.range 10, ∀ y ∈ List.range 10, ∀ z ∈ List.range 10,
    (numberV [UInt8.ofNat (48 + x)] = some (x : Int) ∧ Lib.itoa (x : Int) = [UInt8.ofNat (48 + x)]) ∧
    (x ≠ 0 → numberV [UInt8.ofNat (48 + x), UInt8.ofNat (48 + y)] = some ((10 * x + y : Nat) : Int) ∧ Lib.itoa ((10 * x + y : Nat) : Int) = [UInt8.ofNat (48 + x), UInt8.ofNat (48 + y)]) ∧
    (x ≠ 0 → numberV [UInt8.ofNat (48 + x), UInt8.ofNat (48 + y), UInt8.ofNat (48 + z)] = some ((100 * x + 10 * y + z : Nat) : Int) ∧ Lib.itoa ((100 * x + 10 * y + z : Nat) : Int) = [UInt8.ofNat (48 + x), UInt8.ofNat (48 + y), UInt8.ofNat (48 + z)]) := by decide +kernel
theorem dig_of {c : UInt8} (h : dig c = true) : ∃ x, x < 10 ∧ c = UInt8.ofNat (48 + x) := by
  have hd : 48 ≤ (c.toNat : Int) ∧ (c.toNat : Int) ≤ 57 := by simpa [dig, digitI] using h
  refine ⟨c.toNat - 48, by omega, ?_⟩
  rw [show 48 + (c.toNat - 48) = c.toNat by omega]
  simp
theorem numG_all : ∀ (l : List UInt8) {a n : Int}, numG a l = some n → l.all dig = true
  | [], _, _, _ => rfl
  | c :: t, a, n, h => by
    unfold numG at h
    split at h
    · rename_i hd
      split at h
      · cases h
      · simp only [List.all_cons, Bool.and_eq_true]
        exact ⟨hd, numG_all t h⟩
    · cases h
theorem numG_low : ∀ (l : List UInt8) {a n : Int}, 0 ≤ a → numG a l = some n → a * (10 : Int) ^ l.length ≤ n
  | [], a, n, _, h => by simp only [numG, Option.some.injEq] at h; simp; omega
  | c :: t, a, n, h0, h => by
    unfold numG at h
    split at h
    · rename_i hd
      have hd' : 48 ≤ (c.toNat : Int) ∧ (c.toNat : Int) ≤ 57 := by simpa [digitI] using hd
      split at h
      · cases h
      · have := numG_low t (by omega) h
        have hp : (0 : Int) ≤ 10 ^ t.length := Int.pow_nonneg (by decide)
        have e : a * (10 : Int) ^ (c :: t).length = (10 * a) * 10 ^ t.length := by
          rw [List.length_cons, Int.pow_succ, Int.mul_comm 10 a, Int.mul_assoc, Int.mul_comm ((10 : Int) ^ t.length) 10]
        rw [e]
        refine Int.le_trans (Int.mul_le_mul_of_nonneg_right ?_ hp) this
        omega
    · cases h
/-- A small number's digits are the number's text. -/
theorem num_back {l : List UInt8} {n : Int} (h : numberV l = some n) (hn : n ≤ 100) : Lib.itoa n = l := by
  unfold numberV at h
  split at h
  · cases h
  rename_i hc
  rw [not_or] at hc
  obtain ⟨hne, hz⟩ := hc
  have hall := numG_all l h
  match l, hne with
  | [c], _ =>
    simp only [List.all_cons, List.all_nil, Bool.and_true] at hall
    obtain ⟨x, hx, rfl⟩ := dig_of hall
    obtain ⟨⟨e1, e2⟩, _⟩ := digits_small x (List.mem_range.2 hx) 0 (by decide) 0 (by decide)
    have h2 : numberV [UInt8.ofNat (48 + x)] = some n := by unfold numberV; rw [if_neg (by simp)]; exact h
    rw [e1] at h2
    simp only [Option.some.injEq] at h2
    rw [← h2, e2]
  | [c, d], _ =>
    simp only [List.all_cons, List.all_nil, Bool.and_true, Bool.and_eq_true] at hall
    obtain ⟨x, hx, rfl⟩ := dig_of hall.1
    obtain ⟨y, hy, rfl⟩ := dig_of hall.2
    have x0 : x ≠ 0 := by rintro rfl; exact hz ⟨rfl, by simp⟩
    obtain ⟨_, k, _⟩ := digits_small x (List.mem_range.2 hx) y (List.mem_range.2 hy) 0 (by decide)
    obtain ⟨e1, e2⟩ := k x0
    have h2 : numberV [UInt8.ofNat (48 + x), UInt8.ofNat (48 + y)] = some n := by unfold numberV; rw [if_neg (by rw [not_or]; exact ⟨by simp, hz⟩)]; exact h
    rw [e1] at h2
    simp only [Option.some.injEq] at h2
    rw [← h2, e2]
  | [c, d, f], _ =>
    simp only [List.all_cons, List.all_nil, Bool.and_true, Bool.and_eq_true] at hall
    obtain ⟨x, hx, rfl⟩ := dig_of hall.1
    obtain ⟨y, hy, rfl⟩ := dig_of hall.2.1
    obtain ⟨z, hzz, rfl⟩ := dig_of hall.2.2
    have x0 : x ≠ 0 := by rintro rfl; exact hz ⟨rfl, by simp⟩
    obtain ⟨_, _, k⟩ := digits_small x (List.mem_range.2 hx) y (List.mem_range.2 hy) z (List.mem_range.2 hzz)
    obtain ⟨e1, e2⟩ := k x0
    have h2 : numberV [UInt8.ofNat (48 + x), UInt8.ofNat (48 + y), UInt8.ofNat (48 + z)] = some n := by unfold numberV; rw [if_neg (by rw [not_or]; exact ⟨by simp, hz⟩)]; exact h
    rw [e1] at h2
    simp only [Option.some.injEq] at h2
    rw [← h2, e2]
  | c :: d :: f :: g :: t, _ =>
    exfalso
    simp only [List.all_cons, Bool.and_eq_true] at hall
    have hd : 48 ≤ (c.toNat : Int) ∧ (c.toNat : Int) ≤ 57 := by simpa [dig, digitI] using hall.1
    have hc48 : c ≠ 48 := by rintro rfl; exact hz ⟨rfl, by simp⟩
    have hc49 : 49 ≤ (c.toNat : Int) := by
      have : c.toNat ≠ 48 := fun e => hc48 (UInt8.toNat_inj.1 e)
      omega
    have hdc : digitI (c.toNat : Int) = true := hall.1
    unfold numG at h
    rw [if_pos hdc] at h
    split at h
    · cases h
    · have := numG_low _ (by omega) h
      have hp : (1000 : Int) ≤ 10 ^ (d :: f :: g :: t).length := by
        have e : (10 : Int) ^ (d :: f :: g :: t).length = 10 ^ t.length * 1000 := by
          simp only [List.length_cons]
          rw [Int.pow_succ, Int.pow_succ, Int.pow_succ]
          omega
        rw [e]
        have : (1 : Int) ≤ 10 ^ t.length := by
          have : (0 : Int) < 10 ^ t.length := Int.pow_pos (by decide)
          omega
        omega
      have h3 : (1 : Int) * 1000 ≤ (10 * 0 + ((c.toNat : Int) - 48)) * 10 ^ (d :: f :: g :: t).length := Int.mul_le_mul (by omega) hp (by decide) (by omega)
      omega
theorem plc_some {l : List UInt8} {n : Int} (h : signO l = (n, true)) (h0 : -4 ≤ n) (h1 : n ≤ 12) : Lib.itoa n = l := by
  unfold signO at h
  split at h
  · rename_i hh
    split at h
    · cases h
    · rename_i m hm
      simp only [Prod.mk.injEq, decide_eq_true_eq] at h
      obtain ⟨rfl, hpos⟩ := h
      have e := num_back hm (by omega)
      rw [(itoa_plc h0 h1).2, if_pos (by omega)]
      rw [show ((-m).natAbs : Int) = m by omega, e]
      cases l with
      | nil => cases hh
      | cons c t => simp only [List.head?_cons, Option.some.injEq] at hh; rw [hh]; rfl
  · split at h
    · cases h
    · rename_i m hm
      simp only [Prod.mk.injEq, and_true] at h
      subst h
      exact num_back hm (by omega)
/-! ### Pieces -/
theorem acc_back {a : Int} (h0 : -1 ≤ a) (h1 : a ≤ 2) {r : List UInt8} (hr : ∀ c t, r = c :: t → c ≠ 98 ∧ c ≠ 35 ∧ c ≠ 110) : accR (accL a ++ r) = (a, r) := by
  have c : a = -1 ∨ a = 0 ∨ a = 1 ∨ a = 2 := by omega
  rcases c with rfl | rfl | rfl | rfl
  · rfl
  · cases r with
    | nil => rfl
    | cons c t =>
      obtain ⟨x, y, z⟩ := hr c t rfl
      show accR (c :: t) = _
      unfold accR
      rw [tk_no x, tk_no y, tk_no z]
  · rfl
  · rfl
theorem stem_back {a : Int} (h0 : 0 ≤ a) (h1 : a ≤ 3) {r : List UInt8} (hr : ∀ c t, r = c :: t → c ≠ 94 ∧ c ≠ 118 ∧ c ≠ 62) : stemR (stemL a ++ r) = (a, r) := by
  have c : a = 0 ∨ a = 1 ∨ a = 2 ∨ a = 3 := by omega
  rcases c with rfl | rfl | rfl | rfl
  · cases r with
    | nil => rfl
    | cons c t =>
      obtain ⟨x, y, z⟩ := hr c t rfl
      show stemR (c :: t) = _
      unfold stemR
      rw [tk_no x, tk_no y, tk_no z]
  · rfl
  · rfl
  · rfl
theorem opt_back (b : Bool) (m : UInt8) {r : List UInt8} (hr : ∀ c t, r = c :: t → c ≠ m) : opt m (mkL b m ++ r) = (b, r) := by
  cases b with
  | true => show opt m (m :: r) = _; unfold opt; rw [tk_cons]
  | false =>
    show opt m r = _
    cases r with
    | nil => rfl
    | cons c t => unfold opt; rw [tk_no (hr c t rfl)]
theorem acc_split (l : List UInt8) : l = accL (accR l).1 ++ (accR l).2 := by
  unfold accR
  split
  · rename_i t h; rw [tk_some h]; rfl
  · split
    · rename_i t h; rw [tk_some h]; rfl
    · split
      · rename_i t h; rw [tk_some h]; rfl
      · rfl
theorem stem_split (l : List UInt8) : l = stemL (stemR l).1 ++ (stemR l).2 := by
  unfold stemR
  split
  · rename_i t h; rw [tk_some h]; rfl
  · split
    · rename_i t h; rw [tk_some h]; rfl
    · split
      · rename_i t h; rw [tk_some h]; rfl
      · rfl
theorem opt_split (m : UInt8) (l : List UInt8) : l = mkL (opt m l).1 m ++ (opt m l).2 := by
  unfold opt
  split
  · rename_i t h; rw [tk_some h]; rfl
  · rfl
theorem plc_split (l : List UInt8) : l = plcT l ++ plcR l := by
  unfold plcT plcR
  split
  · rename_i h
    cases l with
    | nil => cases h
    | cons c t =>
      simp only [List.head?_cons, Option.some.injEq] at h
      subst h
      simp
  · simp
theorem num_split (l : List UInt8) : l = l.takeWhile dig ++ l.dropWhile dig := by simp
theorem upto_split (m : UInt8) : ∀ (l : List UInt8) {r}, (upto m l).2 = some r → l = (upto m l).1 ++ m :: r
  | [], r, h => by cases h
  | c :: t, r, h => by
    unfold upto at h ⊢
    split
    · rename_i e
      rw [if_pos e] at h
      simp only [Option.some.injEq] at h
      subst h; rw [e]; rfl
    · rename_i e
      rw [if_neg e] at h
      show c :: t = c :: (upto m t).1 ++ m :: r
      rw [List.cons_append, ← upto_split m t h]
theorem upto_back (m : UInt8) : ∀ (a : List UInt8) (r : List UInt8), (∀ c ∈ a, c ≠ m) → upto m (a ++ m :: r) = (a, some r)
  | [], r, _ => by simp [upto]
  | c :: a, r, h => by
    have := upto_back m a r (fun x hx => h x (by simp [hx]))
    show upto m (c :: (a ++ m :: r)) = _
    unfold upto
    rw [if_neg (h c (by simp)), this]
/-! ### The fields of a valid sign -/
theorem one_zero {s : Sg} (h : oneE s = 0) : kOk s.kind ∧ s = useS s ∧ (s.kind = 5 → okM (mq s)) ∧ rngB s = true ∧ (s.obl && s.last) = false := by
  unfold oneE at h
  split at h
  · cases h
  rename_i h1
  split at h
  · cases h
  rename_i h2
  split at h
  · cases h
  rename_i h3
  split at h
  · cases h
  rename_i h4
  split at h
  · cases h
  rename_i h5
  refine ⟨Classical.byContradiction h1, (sgE_iff s (useS s)).1 (by simpa using h2), fun e => Classical.byContradiction fun x => h3 ⟨e, x⟩, by simpa using h4, by simpa using h5⟩
theorem val_back {v : Int} (h : 1 ≤ v ∧ v ≤ 8) : ∃ c, letV v = [c] ∧ valC c = v := by
  obtain ⟨h1, h2⟩ := h
  have c : v = 1 ∨ v = 2 ∨ v = 3 ∨ v = 4 ∨ v = 5 ∨ v = 6 ∨ v = 7 ∨ v = 8 := by omega
  rcases c with rfl | rfl | rfl | rfl | rfl | rfl | rfl | rfl <;> exact ⟨_, rfl, by decide⟩
theorem valC_rng (c : UInt8) : valC c = 0 ∨ (1 ≤ valC c ∧ valC c ≤ 8) := by
  have h : ∀ n, n < 256 → valC (UInt8.ofNat n) = 0 ∨ (1 ≤ valC (UInt8.ofNat n) ∧ valC (UInt8.ofNat n) ≤ 8) := by decide +kernel
  have := h c.toNat c.toNat_lt
  rwa [show UInt8.ofNat c.toNat = c by simp] at this
theorem let_val {c : UInt8} (h : valC c ≠ 0) : letV (valC c) = [c] := by
  have k : ∀ n, n < 256 → valC (UInt8.ofNat n) ≠ 0 → letV (valC (UInt8.ofNat n)) = [UInt8.ofNat n] := by decide +kernel
  have := k c.toNat c.toNat_lt
  rw [show UInt8.ofNat c.toNat = c by simp] at this
  exact this h
theorem rdVal_back {v : Int} (h : 1 ≤ v ∧ v ≤ 8) (r : List UInt8) (s : Sg) : rdVal (letV v ++ r, s) = some (r, { s with val := v }) := by
  obtain ⟨c, e, hc⟩ := val_back h
  rw [e]
  show (if valC c = 0 then none else some (r, { s with val := valC c })) = _
  rw [hc, if_neg (by omega)]
theorem rdPlc_back {n : Int} (h0 : -4 ≤ n) (h1 : n ≤ 12) {r : List UInt8} (hr : noDig r) (s : Sg) : rdPlc (Lib.itoa n ++ r, s) = some (r, { s with place := n }) := by
  obtain ⟨e1, e2⟩ := plc_back h0 h1 hr
  unfold rdPlc
  rw [e1, e2, (itoa_plc h0 h1).1]
  rfl
theorem rdNum_back {n : Int} (h0 : 0 ≤ n) (h1 : n ≤ 100) {r : List UInt8} (hr : noDig r) : numberV ((Lib.itoa n ++ r).takeWhile dig) = some n ∧ (Lib.itoa n ++ r).dropWhile dig = r := by
  obtain ⟨a, b, _, _⟩ := itoa_int h0 h1
  obtain ⟨t1, t2⟩ := take_dig _ b hr
  rw [t1, t2]
  exact ⟨a, rfl⟩
theorem tex_no41 : ∀ n ∈ List.range 16, ∀ c ∈ texL (ofN ((n : Nat) : Int)), c ≠ 41 := by decide +kernel
theorem okM_of {q : Q4} (h : okM q) : ∃ n : Nat, n < 16 ∧ q = ofN (n : Int) := by
  have hall : ∀ q ∈ mensL, ∃ n ∈ List.range 16, q = ofN ((n : Nat) : Int) := by decide
  obtain ⟨n, hn, e⟩ := hall q ((mens_iff q).2 h)
  exact ⟨n, List.mem_range.1 hn, e⟩
theorem par_back {q : Q4} (h : okM q) : parE (bytes (texL q)) = 0 ∧ parQ (bytes (texL q)) = q ∧ (∀ c ∈ texL q, c ≠ 41) := by
  obtain ⟨n, hn, rfl⟩ := okM_of h
  obtain ⟨e1, e2⟩ := par_some (s := bytes (texL (ofN (n : Int)))) hn (by simp [bytes])
  exact ⟨e2, e1, tex_no41 n (List.mem_range.2 hn)⟩
theorem par_inv {l : List UInt8} (h : parE (bytes l) = 0) : texL (parQ (bytes l)) = l := by
  unfold parE at h
  unfold parQ
  split at h
  · rename_i n hn
    unfold parF at hn
    have := List.find?_some hn
    simpa [bytes] using this
  · cases h
/-! ### Both ways -/
theorem fst_dig {a : Int} {b : Bool} {r : List UInt8} (h0 : -1 ≤ a) (h1 : a ≤ 2) (hr : noDig r) : noDig (accL a ++ mkL b 42 ++ r) := by
  have c : a = -1 ∨ a = 0 ∨ a = 1 ∨ a = 2 := by omega
  rcases c with rfl | rfl | rfl | rfl <;> cases b <;> first | exact hr | rfl
theorem head_reads {p a : Int} (c : Bool) {r : List UInt8} (hp : -4 ≤ p ∧ p ≤ 12) (ha : -1 ≤ a ∧ a ≤ 2) (hr : noDig r) (h1 : ∀ x t, r = x :: t → x ≠ 98 ∧ x ≠ 35 ∧ x ≠ 110 ∧ x ≠ 42) (s : Sg) :
    ((rdPlc (Lib.itoa p ++ accL a ++ mkL c 42 ++ r, s)).bind rdAcc).bind rdCol = some (r, { s with place := p, acc := a, col := c }) := by
  have e : Lib.itoa p ++ accL a ++ mkL c 42 ++ r = Lib.itoa p ++ (accL a ++ mkL c 42 ++ r) := by simp
  rw [e, rdPlc_back hp.1 hp.2 (fst_dig ha.1 ha.2 hr)]
  have ea : accR (accL a ++ mkL c 42 ++ r) = (a, mkL c 42 ++ r) := by
    rw [List.append_assoc]
    refine acc_back ha.1 ha.2 fun x t hx => ?_
    cases c with
    | true =>
      obtain ⟨rfl, _⟩ : 42 = x ∧ _ := List.cons.inj hx
      decide
    | false => obtain ⟨a, b, c, _⟩ := h1 x t hx; exact ⟨a, b, c⟩
  have ec : opt 42 (mkL c 42 ++ r) = (c, r) := opt_back c 42 fun x t hx => (h1 x t hx).2.2.2
  show (rdAcc _).bind rdCol = _
  unfold rdAcc
  rw [ea]
  show rdCol _ = _
  unfold rdCol
  show some ((opt 42 (mkL c 42 ++ r)).2, { s with place := p, acc := a, col := (opt 42 (mkL c 42 ++ r)).1 }) = _
  rw [ec]
theorem rng1 {s : Sg} (k : s.kind = 1) (h : rngB s = true) : (1 ≤ s.val ∧ s.val ≤ 8) ∧ (-4 ≤ s.place ∧ s.place ≤ 12) ∧ (-1 ≤ s.acc ∧ s.acc ≤ 2) := by
  unfold rngB at h; rw [if_pos k] at h
  simp only [plcB, Bool.and_eq_true, inB_iff] at h
  exact h
theorem rng2 {s : Sg} (k : s.kind = 2) (h : rngB s = true) : 1 ≤ s.val ∧ s.val ≤ 8 := by
  unfold rngB at h; rw [if_neg (by omega), if_pos k] at h
  exact inB_iff.1 h
theorem rng4 {s : Sg} (k : s.kind = 4) (h : rngB s = true) : ((-4 ≤ s.place ∧ s.place ≤ 12) ∧ (-1 ≤ s.acc ∧ s.acc ≤ 2)) ∧ (0 ≤ s.stem ∧ s.stem ≤ 3) := by
  unfold rngB at h; rw [if_neg (by omega), if_neg (by omega), if_pos k] at h
  simp only [plcB, Bool.and_eq_true, inB_iff] at h
  exact h
theorem rng6 {s : Sg} (k : s.kind = 6) (h : rngB s = true) : (1 ≤ s.n ∧ s.n ≤ 100) ∧ (1 ≤ s.d ∧ s.d ≤ 100) := by
  unfold rngB at h; rw [if_neg (by omega), if_neg (by omega), if_neg (by omega), if_pos k] at h
  simp only [Bool.and_eq_true, inB_iff] at h
  exact h
theorem rng8 {s : Sg} (k : s.kind = 8) (h : rngB s = true) : 0 ≤ s.n ∧ s.n ≤ 2 := by
  unfold rngB at h; rw [if_neg (by omega), if_neg (by omega), if_neg (by omega), if_neg (by omega), if_neg (by omega), if_pos k] at h
  exact inB_iff.1 h
theorem rng10 {s : Sg} (k : s.kind = 10) (h : rngB s = true) : 2 ≤ s.n ∧ s.n ≤ 4 := by
  unfold rngB at h; rw [if_neg (by omega), if_neg (by omega), if_neg (by omega), if_neg (by omega), if_neg (by omega), if_neg (by omega), if_pos k] at h
  exact inB_iff.1 h
theorem rng7 {s : Sg} (k : s.kind = 7) (h : rngB s = true) : (s.c0 = 0 ∨ s.c0 = 3 ∨ s.c0 = 4) ∧ (1 ≤ s.c1 ∧ s.c1 ≤ 5) := by
  unfold rngB at h; rw [if_neg (by omega), if_neg (by omega), if_neg (by omega), if_neg (by omega), if_pos k] at h
  rw [beq_iff_eq] at h
  exact chkC_zero h
theorem use_eq {s : Sg} {k : Nat} (hk : s.kind = (k : Int)) (h : s = useS s) : s = keepS (fdK k) s := by
  have e : s.kind.toNat = k := by rw [hk]; simp
  unfold useS at h
  rw [e] at h
  exact h
theorem kind_nat {s : Sg} (h : kOk s.kind) : ∃ k : Nat, 1 ≤ k ∧ k ≤ 12 ∧ s.kind = (k : Int) := ⟨s.kind.toNat, by unfold kOk at h; omega, by unfold kOk at h; omega, by unfold kOk at h; omega⟩
theorem tail_of {a : Int} (h0 : 0 ≤ a) (h1 : a ≤ 3) (o l : Bool) {x : UInt8} {t : List UInt8} (hx : stemL a ++ mkL o 126 ++ mkL l 33 = x :: t) : x = 94 ∨ x = 118 ∨ x = 62 ∨ x = 126 ∨ x = 33 := by
  have c : a = 0 ∨ a = 1 ∨ a = 2 ∨ a = 3 := by omega
  rcases c with rfl | rfl | rfl | rfl <;> cases o <;> cases l <;> simp [stemL, mkL] at hx <;> simp [← hx.1]
theorem tail_mk (o l : Bool) {x : UInt8} {t : List UInt8} (hx : mkL o 126 ++ mkL l 33 = x :: t) : x = 126 ∨ x = 33 := by
  cases o <;> cases l <;> simp [mkL] at hx <;> simp [← hx.1]
theorem tail_one (l : Bool) {x : UInt8} {t : List UInt8} (hx : mkL l 33 = x :: t) : x = 33 := by
  cases l <;> simp [mkL] at hx <;> simp [← hx.1]
/-- A valid sign is read from its text. -/
theorem word_read {s : Sg} (h : oneE s = 0) : readS (wordT s) = some s := by
  obtain ⟨hk, hu, hm, hr, hol⟩ := one_zero h
  obtain ⟨k, k1, k2, ek⟩ := kind_nat hk
  have e : s = { keepS (fdK k) s with kind := (k : Int) } := by rw [← ek]; exact use_eq ek hu
  have ew : wordT s = wordK k s := by unfold wordT; rw [show s.kind.toNat = k by omega]
  rw [ew]
  refine read_of (k := k) ?_
  have c : k = 1 ∨ k = 2 ∨ k = 3 ∨ k = 4 ∨ k = 5 ∨ k = 6 ∨ k = 7 ∨ k = 8 ∨ k = 9 ∨ k = 10 ∨ k = 11 ∨ k = 12 := by omega
  rcases c with rfl | rfl | rfl | rfl | rfl | rfl | rfl | rfl | rfl | rfl | rfl | rfl
  · obtain ⟨hv, hp, ha⟩ := rng1 ek hr
    show whole ((((rdVal (letV s.val ++ headL s, kS 1)).bind rdPlc).bind rdAcc).bind rdCol) = _
    rw [rdVal_back hv]
    have := head_reads (p := s.place) (a := s.acc) s.col (r := []) hp ha rfl (by simp) { kS 1 with val := s.val }
    rw [List.append_nil] at this
    show whole (((rdPlc (headL s, _)).bind rdAcc).bind rdCol) = _
    unfold headL
    rw [this]
    conv => rhs; rw [e]
    rfl
  · have hv := rng2 ek hr
    show whole ((rdTk 114 (114 :: letV s.val, kS 2)).bind rdVal) = _
    unfold rdTk
    rw [tk_cons]
    have := rdVal_back hv [] (kS 2)
    rw [List.append_nil] at this
    show whole (rdVal (letV s.val, _)) = _
    rw [this]
    conv => rhs; rw [e]
    rfl
  · conv => rhs; rw [e]
    rfl
  · obtain ⟨⟨hp, ha⟩, hs⟩ := rng4 ek hr
    show whole ((((((rdTk 116 (116 :: (headL s ++ stemL s.stem ++ mkL s.obl 126 ++ mkL s.last 33), kS 4)).bind rdPlc).bind rdAcc).bind rdCol).bind rdStem).bind rdObl |>.bind rdLast) = _
    unfold rdTk
    rw [tk_cons]
    have tail : ∀ x t, stemL s.stem ++ mkL s.obl 126 ++ mkL s.last 33 = x :: t → x = 94 ∨ x = 118 ∨ x = 62 ∨ x = 126 ∨ x = 33 := by
      exact fun x t hx => tail_of hs.1 hs.2 s.obl s.last hx
    have h1 := head_reads (p := s.place) (a := s.acc) s.col (r := stemL s.stem ++ mkL s.obl 126 ++ mkL s.last 33) hp ha (by
      cases hx : stemL s.stem ++ mkL s.obl 126 ++ mkL s.last 33 with
      | nil => rfl
      | cons x t => rcases tail x t hx with rfl | rfl | rfl | rfl | rfl <;> rfl) (fun x t hx => by rcases tail x t hx with rfl | rfl | rfl | rfl | rfl <;> decide) (kS 4)
    have eq1 : headL s ++ stemL s.stem ++ mkL s.obl 126 ++ mkL s.last 33 = Lib.itoa s.place ++ accL s.acc ++ mkL s.col 42 ++ (stemL s.stem ++ mkL s.obl 126 ++ mkL s.last 33) := by simp [headL]
    show whole ((((((rdPlc (headL s ++ stemL s.stem ++ mkL s.obl 126 ++ mkL s.last 33, kS 4)).bind rdAcc).bind rdCol).bind rdStem).bind rdObl).bind rdLast) = _
    rw [eq1, h1]
    have h2 : stemR (stemL s.stem ++ mkL s.obl 126 ++ mkL s.last 33) = (s.stem, mkL s.obl 126 ++ mkL s.last 33) := by
      rw [List.append_assoc]
      refine stem_back hs.1 hs.2 fun x t hx => ?_
      rcases tail_mk s.obl s.last hx with rfl | rfl <;> decide
    have h3 : opt 126 (mkL s.obl 126 ++ mkL s.last 33) = (s.obl, mkL s.last 33) := opt_back _ _ fun x t hx => by
      obtain rfl := tail_one s.last hx
      decide
    have h4 : opt 33 (mkL s.last 33) = (s.last, []) := by
      have := opt_back s.last 33 (r := []) (by simp)
      rwa [List.append_nil] at this
    show whole (((rdStem (_, _)).bind rdObl).bind rdLast) = _
    unfold rdStem
    rw [h2]
    show whole ((rdObl (_, _)).bind rdLast) = _
    unfold rdObl
    rw [h3]
    show whole (rdLast (_, _)) = _
    unfold rdLast
    rw [h4]
    conv => rhs; rw [e]
    rfl
  · have hq := hm ek
    obtain ⟨p1, p2, p3⟩ := par_back hq
    have hup := upto_back 41 (texL (mq s)) (mkL s.stk 124) p3
    have eq1 : texL (mq s) ++ [41] ++ mkL s.stk 124 = texL (mq s) ++ 41 :: mkL s.stk 124 := by simp
    show whole ((rdMens (40 :: (texL (mq s) ++ [41] ++ mkL s.stk 124), kS 5)).bind rdStk) = _
    unfold rdMens
    rw [tk_cons, eq1]
    show whole (((upto 41 (texL (mq s) ++ 41 :: mkL s.stk 124)).2.bind _).bind rdStk) = _
    rw [hup]
    show whole ((if parE (bytes (texL (mq s))) = 0 then some (mkL s.stk 124, putM (parQ (bytes (texL (mq s)))) (kS 5)) else none).bind rdStk) = _
    rw [if_pos p1, p2]
    have h4 : opt 124 (mkL s.stk 124) = (s.stk, []) := by
      have := opt_back s.stk 124 (r := []) (by simp)
      rwa [List.append_nil] at this
    show whole (rdStk (_, _)) = _
    unfold rdStk
    rw [h4]
    conv => rhs; rw [e]
    rfl
  · obtain ⟨hn, hd⟩ := rng6 ek hr
    obtain ⟨a1, a2⟩ := rdNum_back (n := s.n) (by omega) hn.2 (r := 47 :: Lib.itoa s.d) rfl
    obtain ⟨b1, b2⟩ := rdNum_back (n := s.d) (by omega) hd.2 (r := []) rfl
    rw [List.append_nil] at b1 b2
    show whole (((rdN (Lib.itoa s.n ++ [47] ++ Lib.itoa s.d, kS 6)).bind (rdTk 47)).bind rdD) = _
    rw [List.append_assoc]
    unfold rdN
    show whole ((((numberV ((Lib.itoa s.n ++ 47 :: Lib.itoa s.d).takeWhile dig)).map fun n => ((Lib.itoa s.n ++ 47 :: Lib.itoa s.d).dropWhile dig, { kS 6 with n := n })).bind (rdTk 47)).bind rdD) = _
    rw [a1, a2]
    show whole ((rdTk 47 (47 :: Lib.itoa s.d, _)).bind rdD) = _
    unfold rdTk
    rw [tk_cons]
    show whole (rdD (Lib.itoa s.d, _)) = _
    unfold rdD
    show whole ((numberV ((Lib.itoa s.d).takeWhile dig)).map fun n => ((Lib.itoa s.d).dropWhile dig, { kS 6 with n := s.n, d := n })) = _
    rw [b1, b2]
    conv => rhs; rw [e]
    rfl
  · obtain ⟨hc, hl⟩ := rng7 ek hr
    obtain ⟨b1, b2⟩ := rdNum_back (n := s.c1) (by omega) (by omega) (r := []) rfl
    rw [List.append_nil] at b1 b2
    show whole (((rdTk 64 (64 :: (clfL s.c0 ++ Lib.itoa s.c1), kS 7)).bind rdStep).bind rdLine) = _
    unfold rdTk
    rw [tk_cons]
    have hs : rdStep (clfL s.c0 ++ Lib.itoa s.c1, kS 7) = some (Lib.itoa s.c1, { kS 7 with c0 := s.c0 }) := by
      rcases hc with c | c | c <;> rw [c] <;> rfl
    show whole ((rdStep (clfL s.c0 ++ Lib.itoa s.c1, kS 7)).bind rdLine) = _
    rw [hs]
    show whole (rdLine (Lib.itoa s.c1, _)) = _
    unfold rdLine
    show whole ((numberV ((Lib.itoa s.c1).takeWhile dig)).map fun n => ((Lib.itoa s.c1).dropWhile dig, { kS 7 with c0 := s.c0, c1 := n })) = _
    rw [b1, b2]
    conv => rhs; rw [e]
    rfl
  · have hn := rng8 ek hr
    obtain ⟨b1, b2⟩ := rdNum_back (n := s.n) (by omega) (by omega) (r := []) rfl
    rw [List.append_nil] at b1 b2
    show whole ((rdTk 38 (38 :: Lib.itoa s.n, kS 8)).bind rdN) = _
    unfold rdTk
    rw [tk_cons]
    show whole (rdN (Lib.itoa s.n, _)) = _
    unfold rdN
    show whole ((numberV ((Lib.itoa s.n).takeWhile dig)).map fun n => ((Lib.itoa s.n).dropWhile dig, { kS 8 with n := n })) = _
    rw [b1, b2]
    conv => rhs; rw [e]
    rfl
  · conv => rhs; rw [e]
    rfl
  · have hn := rng10 ek hr
    obtain ⟨b1, b2⟩ := rdNum_back (n := s.n) (by omega) (by omega) (r := []) rfl
    rw [List.append_nil] at b1 b2
    show whole ((rdTk 93 (93 :: Lib.itoa s.n, kS 10)).bind rdN) = _
    unfold rdTk
    rw [tk_cons]
    show whole (rdN (Lib.itoa s.n, _)) = _
    unfold rdN
    show whole ((numberV ((Lib.itoa s.n).takeWhile dig)).map fun n => ((Lib.itoa s.n).dropWhile dig, { kS 10 with n := n })) = _
    rw [b1, b2]
    conv => rhs; rw [e]
    rfl
  · conv => rhs; rw [e]
    rfl
  · conv => rhs; rw [e]
    rfl
end Go.Proofs.YtdmedealdhadcaaGreatDoor
