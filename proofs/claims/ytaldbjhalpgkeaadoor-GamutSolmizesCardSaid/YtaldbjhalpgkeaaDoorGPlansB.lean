/- The program's plansFor. -/
import Derived.Test.YtaldbjhalpgkeaaDoorGLoad
namespace Go.Proofs.YtaldbjhalpgkeaaDoor
open Go.RowKit Go.Shelf
attribute [local go_sem] Oper.semAt_some

theorem info_plans : (Tryd.prog.info? 81).map (fun i => (i.zero, i.size, i.bytes)) = some (some (.agg #[.int .i64 0, .int .i64 0, .int .i64 0, .int .i64 0, .int .i64 0, .int .i64 0, .int .i64 0, .int .i64 0, .int .i64 0, .int .i64 0, .int .i64 0, .int .i64 0, .int .i64 0, .int .i64 0, .int .i64 0, .int .i64 0, .int .i64 0, .int .i64 0, .int .i64 0, .int .i64 0, .int .i64 0, .int .i64 0, .int .i64 0, .int .i64 0, .int .i64 0, .int .i64 0, .int .i64 0, .int .i64 0, .int .i64 0, .int .i64 0, .int .i64 0, .int .i64 0]), 32, 256) := by kernel_rfl
abbrev zeroPs : Value := .agg #[.int .i64 0, .int .i64 0, .int .i64 0, .int .i64 0, .int .i64 0, .int .i64 0, .int .i64 0, .int .i64 0, .int .i64 0, .int .i64 0, .int .i64 0, .int .i64 0, .int .i64 0, .int .i64 0, .int .i64 0, .int .i64 0, .int .i64 0, .int .i64 0, .int .i64 0, .int .i64 0, .int .i64 0, .int .i64 0, .int .i64 0, .int .i64 0, .int .i64 0, .int .i64 0, .int .i64 0, .int .i64 0, .int .i64 0, .int .i64 0, .int .i64 0, .int .i64 0]
theorem zeroPs_at : ∀ i : Nat, i < 32 → zeroPs.cells[i]! = .int .i64 0
  | 0, _ => rfl
  | 1, _ => rfl
  | 2, _ => rfl
  | 3, _ => rfl
  | 4, _ => rfl
  | 5, _ => rfl
  | 6, _ => rfl
  | 7, _ => rfl
  | 8, _ => rfl
  | 9, _ => rfl
  | 10, _ => rfl
  | 11, _ => rfl
  | 12, _ => rfl
  | 13, _ => rfl
  | 14, _ => rfl
  | 15, _ => rfl
  | 16, _ => rfl
  | 17, _ => rfl
  | 18, _ => rfl
  | 19, _ => rfl
  | 20, _ => rfl
  | 21, _ => rfl
  | 22, _ => rfl
  | 23, _ => rfl
  | 24, _ => rfl
  | 25, _ => rfl
  | 26, _ => rfl
  | 27, _ => rfl
  | 28, _ => rfl
  | 29, _ => rfl
  | 30, _ => rfl
  | 31, _ => rfl
  | n + 32, h => absurd h (by omega)
theorem tab_zero (n : Nat) : TabC n (fun _ _ => ((0, 0), (0, 0))) (madeCells zeroPs.cells (n * 32)) := by
  refine ⟨size_madeCells _ _, fun j h c hj hh hc => ?_⟩
  unfold madeCells
  rw [Array.getElem?_map, Array.getElem?_range]
  have hlt : j * 32 + h * 4 + c < n * 32 := by omega
  rw [if_pos hlt]
  have hz := zeroPs_at ((j * 32 + h * 4 + c) % 32) (Nat.mod_lt _ (by decide))
  have hc' : c = 0 ∨ c = 1 ∨ c = 2 ∨ c = 3 := by omega
  rw [Option.map_some]
  have e : (plC ((0, 0), (0, 0)))[c]? = some (.int .i64 0) := by rcases hc' with rfl | rfl | rfl | rfl <;> rfl
  rw [e]
  exact congrArg some hz

def cellOf (W : World) (v : Value) : Int := match v with | .pointer (some a) => intOf ((W.cell? a).getD undef) | _ => 0
/-- What stands while the table is made. -/
structure PlF (w : World) (k1 k2 n : Nat) (sl : Value) (cur : Array Value) (bi : Nat) (i : Int) (ds : List Nat) (W : World) : Prop where
  bel : Below w.heap.size w W
  lst : HoldsB W w.heap.size 39 #[sl]
  row : HoldsB W k1 81 cur
  tb : HoldsB W k2 76 #[.slice (some ⟨k1, 0, none⟩) n n]
  ix : HoldsB W bi 3 #[.int .i64 i]
  marks : ∀ D ∈ ds, W.heap[D]? = some (.deferred (some []))
theorem PlF.later {w : World} {k1 k2 n : Nat} {sl : Value} {cur : Array Value} {bi : Nat} {i : Int} {ds : List Nat} {W W' : World} (h : PlF w k1 k2 n sl cur bi i ds W) (k : Below W.heap.size W W') : PlF w k1 k2 n sl cur bi i ds W' :=
  ⟨w_below h.bel k, h.lst.later k, h.row.later k, h.tb.later k, h.ix.later k, fun D hD => (k.block D (Array.getElem?_eq_some_iff.1 (h.marks D hD)).1).trans (h.marks D hD)⟩
theorem PlF.own {w : World} {k1 k2 n : Nat} {sl : Value} {cur : Array Value} {bi : Nat} {i : Int} {ds : List Nat} {A A' : World} {row : Option Nat} {B : Nat} (h : PlF w k1 k2 n sl cur bi i ds A) (hg : A.grownBy A' row) (hr : ∀ r, row = some r → B ≤ r ∧ ∃ o : Obj, A.heap[r]? = some o ∧ o.isCells = false)
    (hB : w.heap.size ≤ B) (hd : ∀ D ∈ ds, D < B) : PlF w k1 k2 n sl cur bi i ds A' := by
  have o : ∀ {b : Nat} {t : TypeId} {cs : Array Value}, HoldsB A b t cs → HoldsB A' b t cs := fun {b t cs} hh => holds_own b t (fun (_ : Unit) => cs) () A A' row hh hg (fun r e => (hr r e).2)
  exact ⟨h.bel.grown hg h.bel.size (fun j e => by have := (hr j e).1; omega), o h.lst, o h.row, o h.tb, o h.ix, fun D hD => (hg.block D (Array.getElem?_eq_some_iff.1 (h.marks D hD)).1 (fun e => by have := (hr D e.symm).1; have := hd D hD; omega)).trans (h.marks D hD)⟩
/-- The plan of a way is laid down. -/
theorem PlF.put {w : World} {k1 k2 n : Nat} {sl : Value} {cur : Array Value} {bi : Nat} {i : Int} {ds : List Nat} {W : World} (h : PlF w k1 k2 n sl cur bi i ds W) (hk : w.heap.size < k1) (o : Nat) (p : Pl) :
    PlF w k1 k2 n sl (set4 cur o p) bi i ds ((((W.setCell ⟨k1, o, none⟩ (.int .i64 p.1.1)).setCell ⟨k1, o + 1, none⟩ (.int .i64 p.1.2)).setCell ⟨k1, o + 2, none⟩ (.int .i64 p.2.1)).setCell ⟨k1, o + 3, none⟩ (.int .i64 p.2.2)) := by
  have q : ∀ {b : Nat} {t : TypeId} {cs : Array Value}, HoldsB W b t cs → t ≠ 81 → HoldsB ((((W.setCell ⟨k1, o, none⟩ (.int .i64 p.1.1)).setCell ⟨k1, o + 1, none⟩ (.int .i64 p.1.2)).setCell ⟨k1, o + 2, none⟩ (.int .i64 p.2.1)).setCell ⟨k1, o + 3, none⟩ (.int .i64 p.2.2)) b t cs := fun hh ht => by
    have hne := holds_ne' hh h.row ht
    exact (((hh.other hne _ _).other hne _ _).other hne _ _).other hne _ _
  have hle : w.heap.size ≤ k1 := by omega
  refine ⟨(((h.bel.setCell (p := ⟨k1, o, none⟩) hle _).setCell (p := ⟨k1, o + 1, none⟩) hle _).setCell (p := ⟨k1, o + 2, none⟩) hle _).setCell (p := ⟨k1, o + 3, none⟩) hle _,
    q h.lst (by decide), (((h.row.set o _).set (o + 1) _).set (o + 2) _).set (o + 3) _, q h.tb (by decide), q h.ix (by decide), fun D hD => ?_⟩
  have hne : ∀ j, D ≠ (⟨k1, j, none⟩ : Addr).block := fun j e => by
    have h1 := h.marks D hD
    have h2 := h.row
    rw [show D = k1 from e] at h1
    rw [show W.heap[k1]? = _ from h2] at h1
    cases h1
  exact (Below.heap_setCell _ _ _ _ (hne _)).trans ((Below.heap_setCell _ _ _ _ (hne _)).trans ((Below.heap_setCell _ _ _ _ (hne _)).trans ((Below.heap_setCell _ _ _ _ (hne _)).trans (h.marks D hD))))
/-- The table's rows from m on are done. -/
def DoneF (l : List Pi3) (F : Nat → Nat → Pl) (m : Nat) : Prop := ∀ j q, m ≤ j → l[j]? = some q → ∀ b ∈ waysL q, F j b.1.toNat = planS (l.drop (j + 1)) b
def RowF (l : List Pi3) (F : Nat → Nat → Pl) (i : Nat) (pre : List Sy) : Prop := ∀ b ∈ pre, F i b.1.toNat = planS (l.drop (i + 1)) b
abbrev lay4o (W : World) (b o : Nat) (p : Pl) : World := (((W.setCell ⟨b, o, none⟩ (.int .i64 p.1.1)).setCell ⟨b, o + 1, none⟩ (.int .i64 p.1.2)).setCell ⟨b, o + 2, none⟩ (.int .i64 p.2.1)).setCell ⟨b, o + 3, none⟩ (.int .i64 p.2.2)
theorem HoldsB.some_at {W : World} {b : Nat} {t : TypeId} {cs : Array Value} (h : HoldsB W b t cs) {j : Nat} (hj : j < cs.size) : ∃ v, W.cell? ⟨b, j, none⟩ = some v := ⟨cs[j], h.cell (Array.getElem?_eq_getElem hj)⟩
theorem TabC.in_ {n : Nat} {F : Nat → Nat → Pl} {cur : Array Value} (h : TabC n F cur) {i k c : Nat} (hi : i < n) (hk : k < 8) (hc : c < 4) : i * 32 + k * 4 + c < cur.size := by rw [h.size]; omega
def BdF (F : Nat → Nat → Pl) : Prop := ∀ j k, (F j k).1.1 ≤ 1000 ∧ (F j k).1.2 ≤ 1000

set_option maxRecDepth 100000 in
set_option maxHeartbeats 20000000 in
theorem wplans_any (p : Option Addr) (cap : Nat) (l : List Pi3) (hl1 : 1 ≤ l.length) (hl2 : l.length ≤ 400) (hok : ∀ q ∈ l, okP q) (w : World) (h : SlP w 3 p l.length cap (flatP l)) (T : TabG w) :
    Calls Tryd.prog 56 #[.slice p l.length cap] w fun e w' => ∃ g cur F, e = .returned (.slice (some ⟨g, 0, none⟩) l.length l.length) ∧ HoldsB w' g 81 cur ∧ TabC l.length F cur ∧ (∀ j q, l[j]? = some q → ∀ b ∈ waysL q, F j b.1.toNat = planS (l.drop (j + 1)) b) ∧ (∀ j k, (F j k).1.1 ≤ 1000 ∧ (F j k).1.2 ≤ 1000) ∧ Below w.heap.size w w' := by
  refine (callsIn_wide (n := 1)).1 ?_
  have f1 := h.fit
  have f2 := h.max
  have HS := Lib.hid h
  have HT := Lib.hid (fun W (b : Below w.heap.size w W) => T.later b)
  have HOK := Lib.hid hok
  obtain ⟨bl, off, rfl, hbl, -⟩ := h.at_ hl1
  clear h T hok
  have MK := (show ∃ cur0, TabC l.length (fun _ _ => ((0, 0), (0, 0))) cur0 ∧ ∀ W, (Instr.makeSlice 76 (.int .i64 (l.length : Int)) (.int .i64 (l.length : Int))).run Tryd.prog W = .ok (.slice (some ⟨W.heap.size, 0, none⟩) l.length l.length) (W.alloc (.cells cur0 81)) from by
    obtain ⟨i0, hi0, hz0, hz1, hz2⟩ := info_parts info_plans
    refine ⟨_, tab_zero l.length, fun W => ?_⟩
    have := run_make (P := Tryd.prog) W 76 81 i0 zeroPs Tryd.underlying76 hi0 hz0 .i64 .i64 l.length l.length (by omega) (by omega) (by rw [hz2]; omega) (by omega)
    rw [hz1] at this
    simpa using this)
  obtain ⟨cur0, tab0, MK⟩ := MK
  have x1 : IntKind.i64.wrap ((l.length : Int) - 2) = (l.length : Int) - 2 := IntWalk.i64_in _ (by omega)
  refine callsIn_of_wp_marks Tryd.func56 rfl trivial ?_ rfl
  simp only [Tryd.ntmps56, List.size_toArray, List.length_cons, List.length_nil, Nat.reduceAdd, Nat.reduceSub, Array.replicate_succ, Array.replicate_zero, List.push_toArray, List.append_toArray, List.nil_append, List.cons_append]
  gi_wp2_with fail
  obtain ⟨w4, hw4⟩ : ∃ w4, (((w.alloc (.cells #[.slice (some ⟨bl, off, none⟩) l.length cap] 39)).alloc (.cells cur0 81)).alloc (.cells #[.slice (some ⟨w.heap.size + 1, 0, none⟩) l.length l.length] 76)).alloc (.cells #[.int .i64 ((l.length : Int) - 2)] 3) = w4 := ⟨_, rfl⟩
  have P0 := Lib.hid (show PlF w (w.heap.size + 1) (w.heap.size + 1 + 1) l.length (.slice (some ⟨bl, off, none⟩) l.length cap) cur0 (w.heap.size + 1 + 1 + 1) (((l.length - 1 : Nat) : Int) - 1) [] w4 from by
    rw [← hw4]
    refine ⟨w_alloc (w_alloc (w_alloc (w_alloc (w_refl w) _) _) _) _, (((HoldsB.new w _ _).al _).al _).al _, ?_, ?_, ?_, fun D hD => by cases hD⟩
    · have := ((HoldsB.new (w.alloc (.cells #[.slice (some ⟨bl, off, none⟩) l.length cap] 39)) 81 cur0).al (.cells #[.slice (some ⟨w.heap.size + 1, 0, none⟩) l.length l.length] 76)).al (.cells #[.int .i64 ((l.length : Int) - 2)] 3)
      rwa [World.size_alloc] at this
    · have := (HoldsB.new ((w.alloc (.cells #[.slice (some ⟨bl, off, none⟩) l.length cap] 39)).alloc (.cells cur0 81)) 76 #[.slice (some ⟨w.heap.size + 1, 0, none⟩) l.length l.length]).al (.cells #[.int .i64 ((l.length : Int) - 2)] 3)
      rwa [World.size_alloc, World.size_alloc] at this
    · have := HoldsB.new (((w.alloc (.cells #[.slice (some ⟨bl, off, none⟩) l.length cap] 39)).alloc (.cells cur0 81)).alloc (.cells #[.slice (some ⟨w.heap.size + 1, 0, none⟩) l.length l.length] 76)) 3 #[.int .i64 ((l.length : Int) - 2)]
      rw [World.size_alloc, World.size_alloc, World.size_alloc] at this
      rwa [show (((l.length - 1 : Nat) : Int) - 1) = (l.length : Int) - 2 by omega])
  have hs4 : w4.heap.size = w.heap.size + 4 := by rw [← hw4]; simp
  rw [hw4]
  clear hw4 MK
  obtain ⟨k1, hk1⟩ : ∃ k, w.heap.size + 1 = k := ⟨_, rfl⟩
  obtain ⟨k2, hk2⟩ : ∃ k, w.heap.size + 1 + 1 = k := ⟨_, rfl⟩
  obtain ⟨k3, hk3⟩ : ∃ k, w.heap.size + 1 + 1 + 1 = k := ⟨_, rfl⟩
  rw [hk3, hk2, hk1] at P0 ⊢
  have N1 : w.heap.size < k1 := by omega
  have N2 := Lib.hid (show k2 = k1 + 1 by omega)
  have N3 : k1 + 2 < w4.heap.size := by omega
  have N4 := Lib.hid (show k3 = k1 + 2 by omega)
  clear hk1 hk2 hk3 hs4 x1
  refine wpIn_loop (fun a' wr => ∃ (u : Nat → Value) (ds : List Nat) (bi m : Nat) (cur : Array Value) (F : Nat → Nat → Pl), a' = { tmps := #[.slice (some ⟨bl, off, none⟩) l.length cap, .pointer (some ⟨w.heap.size, 0, none⟩), .slice none 0 0, .pointer (some ⟨k2, 0, none⟩), .pointer (some ⟨bi, 0, none⟩), u 5, .slice (some ⟨bl, off, none⟩) l.length cap, .int .i64 (l.length : Int), .slice (some ⟨k1, 0, none⟩) l.length l.length, .slice (some ⟨bl, off, none⟩) l.length cap, .int .i64 (l.length : Int), .int .i64 ((l.length : Int) - 2), u 12, u 13, u 14, u 15, u 16, u 17, u 18, u 19, u 20, u 21, u 22, u 23, u 24, u 25, u 26, u 27, u 28, u 29, u 30, u 31, u 32, u 33, u 34, u 35, u 36, u 37, u 38, u 39, u 40, undef], defers := ds.map mark } ∧ m + 1 ≤ l.length ∧ PlF w k1 k2 l.length (.slice (some ⟨bl, off, none⟩) l.length cap) cur bi ((m : Int) - 1) ds wr ∧ TabC l.length F cur ∧ DoneF l F m ∧ BdF F ∧ ds.Nodup ∧ (∀ D ∈ ds, k1 < D))
    (fun a' wr => (cellOf wr (a'.tmps.getD 4 undef) + 1).toNat) ?start ?round
  case start =>
    refine ⟨fun _ => undef, [], k3, l.length - 1, cur0, fun _ _ => ((0, 0), (0, 0)), rfl, by omega, P0.out, tab0, fun j q hj hq b _ => ?_, fun _ _ => by simp, List.nodup_nil, fun D hD => by cases hD⟩
    have hlt := (List.getElem?_eq_some_iff.1 hq).1
    rw [show l.drop (j + 1) = [] from List.drop_eq_nil_of_le (by omega)]
    rfl
  case round =>
    rintro a' wr ⟨u, ds, bi, m, cur, F, rfl, hm, hP, hT, hD, hB, hN, hds⟩
    have HP := Lib.hid hP
    have HTC := Lib.hid hT
    have HDN := Lib.hid hD
    have HBD := Lib.hid hB
    have HND := Lib.hid hN
    have HDS := Lib.hid hds
    have ci := hP.ix.cell (j := 0) rfl
    have ct := hP.tb.cell (j := 0) rfl
    have cl := hP.lst.cell (j := 0) rfl
    have hmu : (cellOf wr (.pointer (some ⟨bi, 0, none⟩)) + 1).toNat = m := by
      unfold cellOf
      simp only [ci, Option.getD_some]
      show ((m : Int) - 1 + 1).toNat = m
      omega
    have HMU := Lib.hid hmu
    clear hP hT hD hB hN hds hmu
    by_cases hm0 : m = 0
    · subst hm0
      gi_wp2_with fail
      show LeavesInM _ _ _ _ _ _ _ _ _
      refine leaves_marks (u := .returning) (fun e => by cases e) (B := k1 + 1) (J := fun A => PlF w k1 k2 l.length (.slice (some ⟨bl, off, none⟩) l.length cap) cur bi (((0 : Nat) : Int) - 1) [] A) ?_ ?_ ds wr HND.out (fun D hD => ⟨HDS.out D hD, HP.out.marks D hD⟩) ⟨HP.out.bel, HP.out.lst, HP.out.row, HP.out.tb, HP.out.ix, fun D hD => by cases hD⟩
      · intro _ A A' row hj hg hr
        exact hj.own hg hr (by omega) (fun D hD => by cases hD)
      · intro A hj
        exact ⟨_, results_tmp rfl _ _ _, k1, cur, F, rfl, hj.row, HTC.out, fun j q hq b hb => HDN.out j q (Nat.zero_le _) hq b hb, HBD.out, hj.bel⟩
    · obtain ⟨i, rfl⟩ : ∃ i, m = i + 1 := ⟨m - 1, by omega⟩
      have ei : (((i + 1 : Nat) : Int) - 1) = i := by omega
      rw [ei] at HP ci
      have hi1 : i < l.length := by omega
      have hi2 : (i : Int) < l.length := by omega
      have hi3 : (0 : Int) ≤ (i : Int) := by omega
      obtain ⟨q, hq⟩ : ∃ q, l[i]? = some q := ⟨l[i], List.getElem?_eq_getElem hi1⟩
      obtain ⟨bl', off', e, hbl', a0, a1, a2⟩ := (HS.out.later HP.out.bel).pit hq
      simp only [Option.some.injEq, Addr.mk.injEq, and_true] at e
      obtain ⟨rfl, rfl⟩ := e
      have okq := HOK.out q (List.mem_of_getElem? hq)
      have WF := Lib.hid (fun W => callsIn_wide (n := 0) |>.2 (wwaysf_any q W))
      have G := Lib.hid (fun b => ways_gives q okq b)
      gi_wp2_with fail
      refine ⟨trivial, (WF.out _).mono ?_⟩
      rintro e w6 ⟨rfl, rfl⟩
      gi_wp2_with fail
      have HQI := Lib.hid hq
      have hkb := HoldsB.new wr 23 #[.int .i64 q.1, .int .i64 q.2.1, .int .i64 q.2.2]
      have KB := Lib.hid hkb
      have P2 := Lib.hid (HP.out.later (w_alloc (w_refl wr) (pO q)))
      have hdl : ∀ D ∈ ds, D < (wr.alloc (pO q)).heap.size := fun D hD => (Array.getElem?_eq_some_iff.1 (P2.out.marks D hD)).1
      have HDL := Lib.hid hdl
      have NB2 : bi < (wr.alloc (pO q)).heap.size := P2.out.ix.lt
      have NK2 : k1 < (wr.alloc (pO q)).heap.size := P2.out.row.lt
      have hqd : l.drop i = q :: l.drop (i + 1) := by
        obtain ⟨hlt, e⟩ := List.getElem?_eq_some_iff.1 hq
        rw [List.drop_eq_getElem_cons hlt, e]
      clear hkb hdl hbl' a0 a1 a2 ci ct cl hq okq WF hqd
      generalize wr.alloc (pO q) = w2 at *
      generalize wr.heap.size = kb at *
      refine wpIn_gives (G.out kb) rfl (enters_of Tryd.func63 (by kernel_rfl) rfl) rfl
        (fun pre A => ∃ cur F, PlF w k1 k2 l.length (.slice (some ⟨bl, off, none⟩) l.length cap) cur bi i ds A ∧ HoldsB A kb 23 #[.int .i64 q.1, .int .i64 q.2.1, .int .i64 q.2.2] ∧ TabC l.length F cur ∧ DoneF l F (i + 1) ∧ BdF F ∧ RowF l F i pre)
        (fun _ => False) ?hC ?hI ?hIx ?h0
        (fun x a' A => ∃ Bx, HoldsB A Bx 25 #[.int .i64 x.1, .int .i64 x.2] ∧ a' = { tmps := #[.slice (some ⟨bl, off, none⟩) l.length cap, .pointer (some ⟨w.heap.size, 0, none⟩), .slice none 0 0, .pointer (some ⟨k2, 0, none⟩), .pointer (some ⟨bi, 0, none⟩), .pointer (some ⟨Bx, 0, none⟩), .slice (some ⟨bl, off, none⟩) l.length cap, .int .i64 (l.length : Int), .slice (some ⟨k1, 0, none⟩) l.length l.length, .slice (some ⟨bl, off, none⟩) l.length cap, .int .i64 (l.length : Int), .int .i64 ((l.length : Int) - 2), .int .i64 (i : Int), .bool true, u 14, u 15, .slice (some ⟨bl, off, none⟩) l.length cap, .int .i64 (i : Int), .pointer (some ⟨bl, off + i * 3, none⟩), .agg #[.int .i64 q.1, .int .i64 q.2.1, .int .i64 q.2.2], .func (.func 63) #[] #[.pointer (some ⟨kb, 0, none⟩)], sv x, u 22, u 23, u 24, u 25, u 26, u 27, u 28, u 29, u 30, u 31, u 32, u 33, u 34, u 35, u 36, u 37, u 38, u 39, u 40, undef], defers := [] })
        ?hAx ?assign ?body ?done ?stop
      case hC =>
        rintro pre A ⟨cur, F, hP, hk, _⟩
        exact PitC.of (HT.out _ hP.bel) hk
      case hI =>
        rintro pre A A' row ⟨cur, F, hP, hk, h1⟩ hg hr
        exact ⟨cur, F, hP.own hg hr (by omega) HDL.out, holds_own kb _ (fun (_ : Unit) => _) () A A' row hk hg (fun r e => (hr r e).2), h1⟩
      case hIx => exact fun _ _ _ _ h _ _ => h
      case h0 => exact ⟨cur, F, P2.out, KB.out, HTC.out, HDN.out, HBD.out, fun b hb => by cases hb⟩
      case hAx =>
        rintro x a' s A A' row ⟨Bx, h, e⟩ hg hr
        exact ⟨Bx, holds_own Bx _ (fun (_ : Unit) => _) () A A' row h hg (fun r e => (hr r e).2), e⟩
      case assign =>
        rintro m2 l2 pre x A K hle ⟨cur, F, hP, hk, h1⟩ hK
        gi_wp2_with fail
        exact hK _ _ (Mid.bel _ (w_alloc (w_refl A) _)) ⟨cur, F, hP.later (w_alloc (w_refl A) _), hk.al _, h1⟩ ⟨A.heap.size, HoldsB.new A _ _, rfl⟩
      case body =>
        clear cur F HTC HDN HBD HP P2 KB G HND HDS HMU HDL
        rintro m2 l2 pre x post a' A hx hle ⟨cur, F, hP, hk, hT, hD, hB, hR⟩ ⟨Bx, hBx, rfl⟩
        have hmx : x ∈ waysL q := by rw [hx]; simp
        have okx : okS x := (way_iff.1 hmx).1
        have hw1 := Lib.hid (show ∀ b ∈ pre, b.1.toNat = x.1.toNat → b = x from fun b hb e => by
          have hb' : b ∈ waysL q := by rw [hx]; simp [hb]
          have o1 := (way_iff.1 hb').1.1
          have o2 := okx.1
          exact way_one ((way_iff.1 hb').2.trans (way_iff.1 hmx).2.symm) (by omega))
        obtain ⟨h, y⟩ := x
        have hin : i + 1 < l.length := by omega
        obtain ⟨q', hq'⟩ : ∃ q', l[i + 1]? = some q' := ⟨l[i + 1], List.getElem?_eq_getElem hin⟩
        have hqd : l.drop (i + 1) = q' :: l.drop (i + 1 + 1) := by
          obtain ⟨hlt, e⟩ := List.getElem?_eq_some_iff.1 hq'
          rw [List.drop_eq_getElem_cons hlt, e]
        obtain ⟨bl', off', e, _, a0, a1, a2⟩ := (HS.out.later hP.bel).pit hq'
        simp only [Option.some.injEq, Addr.mk.injEq, and_true] at e
        obtain ⟨rfl, rfl⟩ := e
        have LQ := Lib.hid (show _ ∧ _ ∧ _ from ⟨a0, a1, a2⟩)
        have okq' := HOK.out q' (List.mem_of_getElem? hq')
        have okx1 := okx.1
        simp only at okx1
        have BE := Lib.hid (fun W (k : Below w.heap.size w W) => wbefore_any (F (i + 1)) (hB (i + 1)) (h, y) (.inr okx) q' okq' W (HT.out W k))
        have hpl : minP (stepL (F (i + 1)) (h, y)) (0, 0) (waysL q') = planS (l.drop (i + 1)) (h, y) := by
          rw [hqd]
          refine planS_cons (by show h ≠ 0; omega) fun b hb => ?_
          rw [hD (i + 1) q' (Nat.le_refl _) hq' b hb, planS_fst]
        rw [hpl] at BE
        obtain ⟨PC, hPC⟩ : ∃ PC, rowL (F (i + 1)) = PC := ⟨_, rfl⟩
        have HPL := Lib.hid (show PC.length = 32 by rw [← hPC]; exact rowL_len _)
        rw [rowL_val, hPC] at BE
        have hrb := rest_le (l.drop (i + 1)) (h, y)
        rw [← planS_fst] at hrb
        have hdl : (l.drop (i + 1)).length ≤ 1000 := by rw [List.length_drop]; omega
        have HPB := Lib.hid (show (planS (l.drop (i + 1)) (h, y)).1.1 ≤ 1000 ∧ (planS (l.drop (i + 1)) (h, y)).1.2 ≤ 1000 by omega)
        have FX := Lib.hid (show PlF w k1 k2 l.length (.slice (some ⟨bl, off, none⟩) l.length cap) cur bi i ds A ∧ HoldsB A Bx 25 #[.int .i64 h, .int .i64 y] ∧ Below A.heap.size A A ∧ HoldsB A kb 23 #[.int .i64 q.1, .int .i64 q.2.1, .int .i64 q.2.2] from ⟨hP, hBx, w_refl A, hk⟩)
        have PLC := Lib.hid (show ∀ W, (PlF w k1 k2 l.length (.slice (some ⟨bl, off, none⟩) l.length cap) cur bi i ds W ∧ HoldsB W Bx 25 #[.int .i64 h, .int .i64 y] ∧ Below A.heap.size A W ∧ HoldsB W kb 23 #[.int .i64 q.1, .int .i64 q.2.1, .int .i64 q.2.2]) → (fun W => W.cell? ⟨k2, 0, none⟩ = some (.slice (some ⟨k1, 0, none⟩) l.length l.length) ∧ W.cell? ⟨bi, 0, none⟩ = some (.int .i64 (i : Int)) ∧ W.cell? ⟨Bx, 0, none⟩ = some (.int .i64 h) ∧ W.cell? ⟨Bx, 1, none⟩ = some (.int .i64 y) ∧ W.cell? ⟨w.heap.size, 0, none⟩ = some (.slice (some ⟨bl, off, none⟩) l.length cap) ∧ W.cell? ⟨bl, off + (i + 1) * 3, none⟩ = some (.int .i64 q'.1) ∧ W.cell? ⟨bl, off + (i + 1) * 3 + 1, none⟩ = some (.int .i64 q'.2.1) ∧ W.cell? ⟨bl, off + (i + 1) * 3 + 2, none⟩ = some (.int .i64 q'.2.2) ∧ W.rangeAt k1 ((i + 1) * 32) PC) W from fun W hW =>
          ⟨hW.1.tb.cell rfl, hW.1.ix.cell rfl, hW.2.1.cell (j := 0) rfl, hW.2.1.cell (j := 1) rfl, hW.1.lst.cell rfl, cell_later hW.2.2.1 LQ.out.1, cell_later hW.2.2.1 LQ.out.2.1, cell_later hW.2.2.1 LQ.out.2.2, by rw [← hPC]; exact hT.range hin hW.1.row⟩)
        obtain ⟨pp, hpp⟩ : ∃ pp, planS (l.drop (i + 1)) (h, y) = pp := ⟨_, rfl⟩
        have HPP := Lib.hid hpp
        rw [hpp] at BE HPB
        obtain ⟨⟨c1, c2⟩, s1, s2⟩ := pp
        have HC4 := Lib.hid (show i * 32 + h.toNat * 4 < cur.size ∧ i * 32 + h.toNat * 4 + 1 < cur.size ∧ i * 32 + h.toNat * 4 + 2 < cur.size ∧ i * 32 + h.toNat * 4 + 3 < cur.size from by
          have := hT.in_ (i := i) (k := h.toNat) (c := 3) (by omega) (by omega) (by decide)
          omega)
        have HT4 := Lib.hid hT
        have HD4 := Lib.hid hD
        have HB4 := Lib.hid hB
        have HR4 := Lib.hid hR
        have g1 : 0 ≤ h := by omega
        have g2 : h < 8 := by omega
        have x6 : IntKind.i64.wrap ((i : Int) + 1) = (i : Int) + 1 := IntWalk.i64_in _ (by omega)
        have g3 : (i : Int) + 1 < l.length := by omega
        have g4 : (0 : Int) ≤ (i : Int) + 1 := by omega
        have hh8 : h.toNat < 8 := by omega
        have HLE := Lib.hid hle
        clear hP hk hT hD hB hR hBx hmx okx hx hqd a0 a1 a2 hq' okq' okx1 hpl hrb hdl hpp hle hPC
        gi_wp2_with fail
        refine wpIn_region_late (fun W => W.cell? ⟨k2, 0, none⟩ = some (.slice (some ⟨k1, 0, none⟩) l.length l.length) ∧ W.cell? ⟨bi, 0, none⟩ = some (.int .i64 (i : Int)) ∧ W.cell? ⟨Bx, 0, none⟩ = some (.int .i64 h) ∧ W.cell? ⟨Bx, 1, none⟩ = some (.int .i64 y) ∧ W.cell? ⟨w.heap.size, 0, none⟩ = some (.slice (some ⟨bl, off, none⟩) l.length cap) ∧ W.cell? ⟨bl, off + (i + 1) * 3, none⟩ = some (.int .i64 q'.1) ∧ W.cell? ⟨bl, off + (i + 1) * 3 + 1, none⟩ = some (.int .i64 q'.2.1) ∧ W.cell? ⟨bl, off + (i + 1) * 3 + 2, none⟩ = some (.int .i64 q'.2.2) ∧ W.rangeAt k1 ((i + 1) * 32) PC) [18] (by kernel_rfl) (by kernel_rfl) (by rintro ⟨_, _, h⟩; exact h) ?_
        replace FX := Lib.hid (show _ ∧ _ ∧ Below A.heap.size A A.drew ∧ _ from ⟨FX.out.1.later (w_refl _).drew, FX.out.2.1.later (w_refl _).drew, (w_refl _).drew, FX.out.2.2.2.later (w_refl _).drew⟩)
        generalize hy : World.drew A = z at *
        clear hy
        refine wpL_load (i := 0) (v := .slice (some ⟨k1, 0, none⟩) l.length l.length) rfl (by kernel_rfl) (by kernel_rfl) (by kernel_rfl) (by kernel_rfl) (by kernel_rfl) (fun _ _ _ h => h) (Or.inl ⟨by kernel_rfl, fun W hW => by (obtain ⟨hA, hB, hC, hD, hE, hF, hG, hH, hR⟩ := hW; go_simp)⟩) (PLC.out _ FX.out) (by kernel_rfl) ?_
        refine wpL_load (i := 1) (v := .int .i64 (i : Int)) rfl (by kernel_rfl) (by kernel_rfl) (by kernel_rfl) (by kernel_rfl) (by kernel_rfl) (fun _ _ _ h => h) (Or.inl ⟨by kernel_rfl, fun W hW => by (obtain ⟨hA, hB, hC, hD, hE, hF, hG, hH, hR⟩ := hW; go_simp)⟩) (PLC.out _ FX.out) (by kernel_rfl) ?_
        refine wpL_take (i := 2) (v := .pointer (some ⟨Bx, 0, none⟩)) rfl (by kernel_rfl) (by kernel_rfl) (by kernel_rfl) (by kernel_rfl) (fun _ _ _ h => h) (Or.inl ⟨by kernel_rfl, fun _ => by go_simp⟩) (.inl (PLC.out _ FX.out)) ?_
        refine wpL_load (i := 3) (v := .int .i64 h) rfl (by kernel_rfl) (by kernel_rfl) (by kernel_rfl) (by kernel_rfl) (by kernel_rfl) (fun _ _ _ h => h) (Or.inl ⟨by kernel_rfl, fun W hW => by (obtain ⟨hA, hB, hC, hD, hE, hF, hG, hH, hR⟩ := hW; go_simp)⟩) (PLC.out _ FX.out) (by kernel_rfl) ?_
        refine wpL_load (i := 4) (v := .slice (some ⟨k1, 0, none⟩) l.length l.length) rfl (by kernel_rfl) (by kernel_rfl) (by kernel_rfl) (by kernel_rfl) (by kernel_rfl) (fun _ _ _ h => h) (Or.inl ⟨by kernel_rfl, fun W hW => by (obtain ⟨hA, hB, hC, hD, hE, hF, hG, hH, hR⟩ := hW; go_simp)⟩) (PLC.out _ FX.out) (by kernel_rfl) ?_
        refine wpL_load (i := 5) (v := .int .i64 (i : Int)) rfl (by kernel_rfl) (by kernel_rfl) (by kernel_rfl) (by kernel_rfl) (by kernel_rfl) (fun _ _ _ h => h) (Or.inl ⟨by kernel_rfl, fun W hW => by (obtain ⟨hA, hB, hC, hD, hE, hF, hG, hH, hR⟩ := hW; go_simp)⟩) (PLC.out _ FX.out) (by kernel_rfl) ?_
        refine wpL_take (i := 6) (v := .int .i64 ((i : Int) + 1)) rfl (by kernel_rfl) (by kernel_rfl) (by kernel_rfl) (by kernel_rfl) (fun _ _ _ h => h) (Or.inl ⟨by kernel_rfl, fun _ => by go_simp⟩) (.inl (PLC.out _ FX.out)) ?_
        refine wpL_take (i := 7) (v := .pointer (some ⟨k1, (i + 1) * 32, none⟩)) rfl (by kernel_rfl) (by kernel_rfl) (by kernel_rfl) (by kernel_rfl) (fun _ _ _ h => h) (Or.inl ⟨by kernel_rfl, fun _ => by go_simp⟩) (.inl (PLC.out _ FX.out)) ?_
        refine wpL_load (i := 8) (v := .agg PC.toArray) rfl (by kernel_rfl) (by kernel_rfl) (by kernel_rfl) (by kernel_rfl) (by kernel_rfl) (fun _ _ _ h => h) (yieldsIf_load_mid (by kernel_rfl) 81 (.tmp 29) rfl k1 ((i + 1) * 32) (by kernel_rfl) PC _ (fun W hW => hW.2.2.2.2.2.2.2.2) Tryd.underlying81 rfl (by rw [HPL.out]; exact size_plans)) (PLC.out _ FX.out) (by kernel_rfl) ?_
        refine wpL_load (i := 9) (v := sv (h, y)) rfl (by kernel_rfl) (by kernel_rfl) (by kernel_rfl) (by kernel_rfl) (by kernel_rfl) (fun _ _ _ h => h) (Or.inl ⟨by kernel_rfl, fun W hW => by (obtain ⟨hA, hB, hC, hD, hE, hF, hG, hH, hR⟩ := hW; go_simp)⟩) (PLC.out _ FX.out) (by kernel_rfl) ?_
        refine wpL_load (i := 10) (v := .slice (some ⟨bl, off, none⟩) l.length cap) rfl (by kernel_rfl) (by kernel_rfl) (by kernel_rfl) (by kernel_rfl) (by kernel_rfl) (fun _ _ _ h => h) (Or.inl ⟨by kernel_rfl, fun W hW => by (obtain ⟨hA, hB, hC, hD, hE, hF, hG, hH, hR⟩ := hW; go_simp)⟩) (PLC.out _ FX.out) (by kernel_rfl) ?_
        refine wpL_load (i := 11) (v := .int .i64 (i : Int)) rfl (by kernel_rfl) (by kernel_rfl) (by kernel_rfl) (by kernel_rfl) (by kernel_rfl) (fun _ _ _ h => h) (Or.inl ⟨by kernel_rfl, fun W hW => by (obtain ⟨hA, hB, hC, hD, hE, hF, hG, hH, hR⟩ := hW; go_simp)⟩) (PLC.out _ FX.out) (by kernel_rfl) ?_
        refine wpL_take (i := 12) (v := .int .i64 ((i : Int) + 1)) rfl (by kernel_rfl) (by kernel_rfl) (by kernel_rfl) (by kernel_rfl) (fun _ _ _ h => h) (Or.inl ⟨by kernel_rfl, fun _ => by go_simp⟩) (.inl (PLC.out _ FX.out)) ?_
        refine wpL_take (i := 13) (v := .pointer (some ⟨bl, off + (i + 1) * 3, none⟩)) rfl (by kernel_rfl) (by kernel_rfl) (by kernel_rfl) (by kernel_rfl) (fun _ _ _ h => h) (Or.inl ⟨by kernel_rfl, fun _ => by go_simp⟩) (.inl (PLC.out _ FX.out)) ?_
        refine wpL_load (i := 14) (v := pv q') rfl (by kernel_rfl) (by kernel_rfl) (by kernel_rfl) (by kernel_rfl) (by kernel_rfl) (fun _ _ _ h => h) (Or.inl ⟨by kernel_rfl, fun W hW => by (obtain ⟨hA, hB, hC, hD, hE, hF, hG, hH, hR⟩ := hW; go_simp)⟩) (PLC.out _ FX.out) (by kernel_rfl) ?_
        refine wpL_take (i := 16) (v := .pointer (some ⟨k1, i * 32, none⟩)) rfl (by kernel_rfl) (by kernel_rfl) (by kernel_rfl) (by kernel_rfl) (fun _ _ _ h => h) (Or.inl ⟨by kernel_rfl, fun _ => by go_simp⟩) (.inl (PLC.out _ FX.out)) ?_
        refine wpL_ready (rs := [15]) (by kernel_rfl) (by simp) ?_
        refine AllL.cons rfl (fun K hK => ?_) AllL.nil
        rw [if_pos (by kernel_rfl)]
        go_simp
        go_at_call 57
        refine (BE.out _ FX.out.1.bel).mono ?_
        rintro e z2 ⟨rfl, hb⟩
        replace FX := Lib.hid (show _ ∧ _ ∧ Below A.heap.size A z2 ∧ _ from ⟨FX.out.1.later hb, FX.out.2.1.later hb, w_below FX.out.2.2.1 hb, FX.out.2.2.2.later hb⟩)
        clear hb
        go_simp
        refine hK.out _ _ (.inl (PLC.out _ FX.out)) ?_
        clear hK K
        refine wpL_take (i := 17) (v := .pointer (some ⟨k1, i * 32 + h.toNat * 4, none⟩)) rfl (by kernel_rfl) (by kernel_rfl) (by kernel_rfl) (by kernel_rfl) (fun _ _ _ h => h) (Or.inl ⟨by kernel_rfl, fun _ => by go_simp⟩) (.inl (PLC.out _ FX.out)) ?_
        refine wpL_ready (rs := [18]) (by kernel_rfl) (by simp) ?_
        refine AllL.cons rfl (fun K hK => ?_) AllL.nil
        obtain ⟨v0, e0⟩ := FX.out.1.row.some_at HC4.out.1
        obtain ⟨v1, e1⟩ := FX.out.1.row.some_at HC4.out.2.1
        obtain ⟨v2, e2⟩ := FX.out.1.row.some_at HC4.out.2.2.1
        obtain ⟨v3, e3⟩ := FX.out.1.row.some_at HC4.out.2.2.2
        have t0 := FX.out.1.row.frozen (i * 32 + h.toNat * 4)
        have t1 := FX.out.1.row.frozen (i * 32 + h.toNat * 4 + 1)
        have t2 := FX.out.1.row.frozen (i * 32 + h.toNat * 4 + 2)
        have t3 := FX.out.1.row.frozen (i * 32 + h.toNat * 4 + 3)
        rw [if_pos (by kernel_rfl)]
        go_simp
        clear e0 e1 e2 e3 t0 t1 t2 t3
        have FY := Lib.hid (FX.out.1.put N1 (i * 32 + h.toNat * 4) ((c1, c2), (s1, s2)))
        have FK := Lib.hid (show HoldsB (lay4o z2 k1 (i * 32 + h.toNat * 4) ((c1, c2), (s1, s2))) kb 23 #[.int .i64 q.1, .int .i64 q.2.1, .int .i64 q.2.2] from
          let hne := holds_ne' FX.out.2.2.2 FX.out.1.row (by decide); (((FX.out.2.2.2.other hne _ _).other hne _ _).other hne _ _).other hne _ _)
        have FM := Lib.hid (show Mid w2.heap.size A (lay4o z2 k1 (i * 32 + h.toNat * 4) ((c1, c2), (s1, s2))) from
          (Mid.bel _ FX.out.2.2.1).trans ((Mid.set _ _ NK2 _ _).trans ((Mid.set _ _ NK2 _ _).trans ((Mid.set _ _ NK2 _ _).trans (Mid.set _ _ NK2 _ _)))))
        refine hK.out _ _ (.inr (by kernel_rfl)) ?_
        clear hK K FX
        refine wpL_done (by kernel_rfl) ?_ _
        gi_wp2_with fail
        refine ⟨FM.out, set4 cur (i * 32 + h.toNat * 4) ((c1, c2), (s1, s2)), FY.out, FK.out, updF F i h.toNat ((c1, c2), (s1, s2)), HT4.out.put hi1 hh8 _, ?_, ?_, ?_⟩
        · intro j q0 hj hq0 b hb
          rw [show updF F i h.toNat ((c1, c2), (s1, s2)) j b.1.toNat = F j b.1.toNat from if_neg (fun e => by omega)]
          exact HD4.out j q0 hj hq0 b hb
        · intro j k
          unfold updF
          split
          · exact HPB.out
          · exact HB4.out j k
        · intro b hb
          by_cases e : b.1.toNat = h.toNat
          · have : b = (h, y) := by
              rcases List.mem_append.1 hb with hb | hb
              · exact hw1.out b hb e
              · simpa using hb
            subst this
            rw [show updF F i h.toNat ((c1, c2), (s1, s2)) i (Prod.fst (h, y)).toNat = ((c1, c2), (s1, s2)) from if_pos ⟨rfl, rfl⟩]
            exact HPP.out.symm
          · rw [show updF F i h.toNat ((c1, c2), (s1, s2)) i b.1.toNat = F i b.1.toNat from if_neg (fun x => e x.2)]
            rcases List.mem_append.1 hb with hb | hb
            · exact HR4.out b hb
            · exact absurd (by rw [List.mem_singleton] at hb; rw [hb]) e
      case done =>
        clear cur F HTC HDN HBD HP P2 KB
        rintro D A hD ⟨cur, F, hP, _, hT, hD2, hB, hR⟩ hd
        have ci := hP.ix.cell (j := 0) rfl
        have HP := Lib.hid hP
        have HTC := Lib.hid hT
        have HDN := Lib.hid hD2
        have HBD := Lib.hid hB
        have HRW := Lib.hid hR
        have HHD := Lib.hid hD
        have HDD := Lib.hid hd
        have x7 : IntKind.i64.wrap ((i : Int) - 1) = (i : Int) - 1 := IntWalk.i64_in _ (by omega)
        clear hP hT hD2 hB hR hD hd
        gi_wp2_with fail
        refine ⟨⟨fun j => if j = 12 then .int .i64 (i : Int) else if j = 13 then .bool true else if j = 14 then .int .i64 (i : Int) else if j = 15 then .int .i64 ((i : Int) - 1) else if j = 16 then .slice (some ⟨bl, off, none⟩) l.length cap else if j = 17 then .int .i64 (i : Int) else if j = 18 then .pointer (some ⟨bl, off + i * 3, none⟩) else if j = 19 then .agg #[.int .i64 q.1, .int .i64 q.2.1, .int .i64 q.2.2] else if j = 20 then .func (.func 63) #[] #[.pointer (some ⟨kb, 0, none⟩)] else if j = 40 then .int .i64 (i : Int) else u j,
          D :: ds, A.heap.size, i, cur, F, rfl, by omega, ?_, HTC.out, ?_, HBD.out, ?_, ?_⟩, ?_⟩
        · refine ⟨w_alloc HP.out.bel _, HP.out.lst.al _, HP.out.row.al _, HP.out.tb.al _, HoldsB.new A _ _, fun E hE => ?_⟩
          rcases List.mem_cons.1 hE with rfl | hE
          · exact (Below.heap_alloc _ _ _ (Array.getElem?_eq_some_iff.1 HDD.out).1).trans HDD.out
          · exact (Below.heap_alloc _ _ _ (Array.getElem?_eq_some_iff.1 (HP.out.marks E hE)).1).trans (HP.out.marks E hE)
        · intro j q0 hj hq0 b hb
          by_cases e : j = i
          · subst e
            rw [HQI.out, Option.some.injEq] at hq0
            subst hq0
            exact HRW.out b hb
          · exact HDN.out j q0 (by omega) hq0 b hb
        · exact List.nodup_cons.2 ⟨fun hmem => by have := HDL.out D hmem; have := HHD.out; omega, HND.out⟩
        · intro E hE
          rcases List.mem_cons.1 hE with rfl | hE
          · have := HHD.out; omega
          · exact HDS.out E hE
        · have hc := (HoldsB.new A 3 #[.int .i64 ((i : Int) - 1)]).cell (j := 0) (v := .int .i64 ((i : Int) - 1)) rfl
          show (cellOf _ (.pointer (some ⟨A.heap.size, 0, none⟩)) + 1).toNat < (cellOf wr (.pointer (some ⟨bi, 0, none⟩)) + 1).toNat
          rw [HMU.out]
          unfold cellOf
          simp only [hc, Option.getD_some]
          show ((i : Int) - 1 + 1).toNat < i + 1
          omega
      case stop =>
        rintro D A hD hx hd
        exact hx.elim

end Go.Proofs.YtaldbjhalpgkeaaDoor
