/- strings.SplitSeq at a line feed, ranged over: the iterator's walk, for whatever loop body keeps its cells; and the loop's law. -/
import Derived.RangeFuncNested
import Derived.RangeFuncCalls
import Derived.RangeFuncLeaves
import Derived.RangeFuncBox
import Derived.Shelf.Abstract
import Derived.Shelf.RegionOpen
import Derived.OwnWalkIn
import Derived.TacticsInMore
import Derived.LoopNIn
import Derived.LoopIn
import Derived.Test.YtdjkgnganbeonaaDoorLine
namespace Go.Proofs.YtdjkgnganbeonaaDoor
open Go.RowKit Go.Shelf
attribute [local go_sem] Oper.semAt_some

/-- SplitSeq hands back a function that has captured its three arguments. -/
theorem wsplit_any (s sep : ByteArray) (k : Int) (w : World) : Calls Tryd.prog 49 #[.string s, .string sep, .int .i64 k] w fun e w' =>
    e = .returned (.func (.func 61) #[] #[.pointer (some ⟨w.heap.size + 1, 0, none⟩), .pointer (some ⟨w.heap.size, 0, none⟩), .pointer (some ⟨w.heap.size + 1 + 1, 0, none⟩)]) ∧
    w' = ((w.alloc (.cells #[.string s] 9)).alloc (.cells #[.string sep] 9)).alloc (.cells #[.int .i64 k] 3) := by
  have hmf : ∀ (fn : Fn) (first cap : Array Value) (w : World), (Instr.makeFunc fn first cap).run Tryd.prog w = .ok (.func fn first cap) w := fun _ _ _ _ => rfl
  go_enter Tryd.func49, Tryd.ntmps49
  go_wp2_with fail
  go_ret
  exact ⟨rfl, rfl⟩
theorem wsplitseq_any (s sep : ByteArray) (w : World) : Calls Tryd.prog 32 #[.string s, .string sep] w fun e w' =>
    e = .returned (.func (.func 61) #[] #[.pointer (some ⟨w.heap.size + 1, 0, none⟩), .pointer (some ⟨w.heap.size, 0, none⟩), .pointer (some ⟨w.heap.size + 1 + 1, 0, none⟩)]) ∧
    w' = ((w.alloc (.cells #[.string s] 9)).alloc (.cells #[.string sep] 9)).alloc (.cells #[.int .i64 0] 3) := by
  go_enter Tryd.func32, Tryd.ntmps32
  go_wp2_with fail
  refine (wsplit_any s sep 0 _).mono ?_
  rintro e w1 ⟨rfl, rfl⟩
  go_wp2_with fail
  go_ret
  exact ⟨rfl, rfl⟩

/-- The iterator's three cells, a line beginning at p. -/
structure Cells3 (T : ByteArray) (B : Nat) (p : Nat) (W : World) : Prop where
  s : W.cell? ⟨B, 0, none⟩ = some (.string (T.extract p T.size))
  free : W.frozen? ⟨B, 0, none⟩ = false
  sep : W.cell? ⟨B + 1, 0, none⟩ = some (.string ⟨#[10]⟩)
  save : W.cell? ⟨B + 1 + 1, 0, none⟩ = some (.int .i64 0)
theorem Cells3.made (T : ByteArray) (w : World) : Cells3 T w.heap.size 0 (((w.alloc (.cells #[.string T] 9)).alloc (.cells #[.string ⟨#[10]⟩] 9)).alloc (.cells #[.int .i64 0] 3)) := by
  refine ⟨?_, by go_simp, by go_simp, by go_simp⟩
  have : T.extract 0 T.size = T := by
    apply ByteArray.ext; apply Array.ext'
    rw [Go.Lib.extract_to_end T 0]; rfl
  rw [this]; go_simp

/-- The line from p on, by the first line feed. -/
theorem line_none {T : ByteArray} {p : Nat} (hp : p ≤ T.size) (h : Lib.indexByte (T.extract p T.size).data.toList 10 = -1) : LineAt T p T.size := by
  rw [Go.Lib.extract_to_end T p] at h
  refine ⟨hp, Nat.le_refl _, fun m h1 h2 e => ?_, .inl rfl⟩
  apply Lib.indexByte_none h (m - p)
  rw [List.getElem?_drop, show p + (m - p) = m by omega, List.getElem?_eq_getElem (by simpa using h2)]
  rw [bt_in h2] at e
  have : T[m] = (10 : UInt8) := UInt8.toNat_inj.1 (by have : (10 : UInt8).toNat = 10 := rfl; omega)
  simp only [Option.some.injEq]; exact this
theorem line_some {T : ByteArray} {p o : Nat} (h : Lib.indexByte (T.extract p T.size).data.toList 10 = (o : Int)) : p + o < T.size ∧ LineAt T p (p + o) := by
  rw [Go.Lib.extract_to_end T p] at h
  obtain ⟨h1, h2⟩ := Lib.indexByte_some h
  rw [List.getElem?_drop] at h1
  have hlt : p + o < T.size := by have := (List.getElem?_eq_some_iff.1 h1).1; simpa using this
  have at_ : ∀ m (hm : m < T.size), T.data.toList[m]? = some T[m] := fun m hm => by rw [List.getElem?_eq_getElem (by simpa using hm)]; rfl
  refine ⟨hlt, by omega, by omega, fun m a b e => ?_, .inr ?_⟩
  · apply h2 (m - p) (by omega)
    rw [List.getElem?_drop, show p + (m - p) = m by omega, at_ m (by omega)]
    rw [bt_in (by omega)] at e
    have : T[m] = (10 : UInt8) := UInt8.toNat_inj.1 (by have : (10 : UInt8).toNat = 10 := rfl; omega)
    simp only [Option.some.injEq]; exact this
  · rw [bt_in hlt]
    rw [at_ _ hlt] at h1
    simp only [Option.some.injEq] at h1
    rw [h1]; rfl
theorem part_first {T : ByteArray} {p o : Nat} (_h : p + o < T.size) : (T.extract p T.size).extract 0 o = T.extract p (p + o) := by
  rw [ByteArray.extract_extract]; congr 1; omega
theorem part_rest {T : ByteArray} {p o : Nat} (_h : p + o < T.size) : (T.extract p T.size).extract (o + 1) (T.size - p) = T.extract (p + o + 1) T.size := by
  rw [ByteArray.extract_extract]; congr 1 <;> omega

def lenAt (W : World) (B : Nat) : Nat := match W.cell? ⟨B, 0, none⟩ with | some (.string s) => s.size | _ => 0
theorem lenAt_eq {W : World} {B : Nat} {s : ByteArray} (h : W.cell? ⟨B, 0, none⟩ = some (.string s)) : lenAt W B = s.size := by unfold lenAt; rw [h]

set_option maxRecDepth 100000 in
set_option maxHeartbeats 2000000 in
/-- The iterator, over whatever loop: J p: ahead of the line at p; M p t: behind that line's round; Jx: a round has left. -/
theorem split_iter (T : ByteArray) (n l B : Nat) (hn : 1 ≤ n) (hT : T.size ≤ 1000000) (J : Nat → World → Prop) (M : Nat → Nat → World → Prop) (Jx : World → Prop)
    (hJ : ∀ p W, J p W → Cells3 T B p W) (hM : ∀ p t W, M p t W → Cells3 T B p W)
    (hstep : ∀ p t W, t < T.size → M p t W → J (t + 1) (W.setCell ⟨B, 0, none⟩ (.string (T.extract (t + 1) T.size))))
    (hround : ∀ p t W, LineAt T p t → J p W → YieldAt Fence.wide (n - 1) Tryd.prog l #[.string (T.extract p t)] W fun e W' => (e = .returned (.bool true) ∧ M p t W') ∨ (e = .returned (.bool false) ∧ Jx W'))
    (W : World) (h0 : J 0 W) :
    CallsIn Fence.wide n Tryd.prog 61 #[.func (.yield l) #[] #[], .pointer (some ⟨B + 1, 0, none⟩), .pointer (some ⟨B, 0, none⟩), .pointer (some ⟨B + 1 + 1, 0, none⟩)] W fun e W' => (∃ v, e = .returned v) ∧
      ((∃ p, M p T.size W') ∨ Jx W') := by
  have hc := hJ 0 W h0
  have c2 := hc.sep
  refine callsIn_of_wp Tryd.func61 rfl trivial ?_ rfl
  simp only [Tryd.ntmps61, List.size_toArray, List.length_cons, List.length_nil, Nat.reduceAdd, Nat.reduceSub, Array.replicate_succ, Array.replicate_zero, List.push_toArray, List.append_toArray, List.nil_append, List.cons_append]
  gi_wp2
  gi_loopw [7] (fun _ wr => ∃ p : Nat, p ≤ T.size ∧ Hid (J p wr)) (fun _ wr => lenAt wr B)
  case atStart => exact ⟨0, by omega, Lib.hid h0⟩
  case round =>
    obtain ⟨p, hp, hj⟩ := hrel
    have hcp := hJ p wr hj.out
    have d0 := hcp.s
    have d1 := hcp.sep
    have d2 := hcp.save
    have hsz : (T.extract p T.size).size = T.size - p := by rw [ByteArray.size_extract]; omega
    have hlen := Lib.hid ((lenAt_eq d0).trans hsz)
    have IX := Lib.hid (fun W => (callsIn_wide (n := n - 1)).2 (Tryd.strings_Index_one (T.extract p T.size) 10 W))
    rcases Int.lt_or_le (Lib.indexByte (T.extract p T.size).data.toList 10) 0 with hneg | hpos
    · have hm1 : Lib.indexByte (T.extract p T.size).data.toList 10 = -1 := by have := Lib.indexByte_ge (T.extract p T.size).data.toList 10; omega
      have hline := line_none hp hm1
      rw [hm1] at IX
      obtain ⟨fn, tmps, assign, body, hy, hR⟩ := hround p T.size wr hline hj.out
      have HR := Lib.hid hR
      clear hm1 hneg hline hR hcp hsz c2
      gi_wp2_with (refine ⟨trivial, ?_⟩; gi_at_call 63; refine (IX.out _).mono ?_; rintro e w1 ⟨rfl, hw⟩; obtain rfl := hw.symm; clear hw)
      refine HR.out.mono ?_
      rintro e W3 (⟨rfl, hM3⟩ | ⟨rfl, hx3⟩)
      · have hM4 := Lib.hid hM3
        clear hM3
        gi_wp2
        go_end0
        exact ⟨⟨_, rfl⟩, .inl ⟨p, hM4.out⟩⟩
      · have hx4 := Lib.hid hx3
        clear hx3
        gi_wp2
        go_end0
        exact ⟨⟨_, rfl⟩, .inr hx4.out⟩
    · obtain ⟨o, ho⟩ : ∃ o : Nat, Lib.indexByte (T.extract p T.size).data.toList 10 = (o : Int) := ⟨_, (Int.toNat_of_nonneg hpos).symm⟩
      obtain ⟨hlt, hline⟩ := line_some ho
      rw [ho] at IX
      obtain ⟨fn, tmps, assign, body, hy, hR⟩ := hround p (p + o) wr hline hj.out
      rw [← part_first hlt] at hy
      have HR := Lib.hid hR
      have n0 : ¬ (o : Int) < 0 := by omega
      have n1 : (0 : Int) ≤ (o : Int) := by omega
      have n2 : o ≤ (T.extract p T.size).size := by omega
      have n3 : (o : Int) ≤ 1000000 := by omega
      have n4 : o + 1 ≤ (T.extract p T.size).size := by omega
      have n6 := hsz
      have hrest := Lib.hid (part_rest hlt)
      have hst := Lib.hid (fun W3 h => hstep p (p + o) W3 hlt h)
      clear ho hpos hline hR hcp c2 hsz
      gi_wp2_with (refine ⟨trivial, ?_⟩; gi_at_call 63; refine (IX.out _).mono ?_; rintro e w1 ⟨rfl, hw⟩; obtain rfl := hw.symm; clear hw)
      refine HR.out.mono ?_
      rintro e W3 (⟨rfl, hM3⟩ | ⟨rfl, hx3⟩)
      · have hc3 := hM p (p + o) W3 hM3
        have e0 := hc3.s
        have e1 := hc3.sep
        have e2 := hc3.free
        have hnew := Lib.hid (hst.out W3 hM3)
        clear hM3 hc3 d0 d1 d2
        have hsm := Lib.hid (fun v => World.cell?_setCell_same' W3 ⟨B, 0, none⟩ v (by rw [e0]; rfl))
        gi_wp2
        refine ⟨⟨p + o + 1, by omega, ?_⟩, ?_⟩
        · rw [hrest.out]; exact hnew
        · rw [lenAt_eq (hsm.out _), hlen.out, hrest.out, ByteArray.size_extract]; omega
      · have hx4 := Lib.hid hx3
        clear hx3 d0 d1 d2
        gi_wp2
        refine bodyPost_ret (results_none rfl _ _ _) rfl ?_
        exact ⟨⟨_, rfl⟩, .inr hx4.out⟩

end Go.Proofs.YtdjkgnganbeonaaDoor
