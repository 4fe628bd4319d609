/- The iterator's recursion: all shapes that begin as some signs do, in order. -/
import Derived.Test.YtedkcnphplpacaaLgProgF
namespace Go.Proofs.Ytedkcnphplpacaa
open Go.RowKit Go.Shelf
attribute [local go_sem] Oper.semAt_some

/-- How goOn ends: its blocks are as they were; all was given, or the loop is left. -/
def PG (n0 L cap bp bv : Nat) (J : List (List Sg) → World → Prop) (Jx : World → Prop) (xs : List (List Sg)) (l : List Sg) (A : World) (e : Ending) (B : World) : Prop :=
  ItS n0 L cap bp bv l B ∧ Kp n0 A B ∧ ((e = .returned (.bool true) ∧ J xs B) ∨ (e = .returned (.bool false) ∧ Jx B))

set_option maxRecDepth 100000 in
set_option maxHeartbeats 2000000 in
/-- All notes stand: the ligature is given. -/
theorem go_end (n0 L cap bp bv : Nat) (hc : cap ≤ 1000) (hc0 : 0 < cap) (ps vs : List Int) (pp : Option Addr) (cp : Nat) (pv : Option Addr) (cv : Nat) (J : List (List Sg) → World → Prop) (Jx : World → Prop) (xs : List (List Sg))
    (HY : ∀ (m : Nat) pre x post A v, xs = pre ++ x :: post → J pre A → n0 + 6 ≤ A.heap.size → SgR n0 A v x → YieldAt Fence.wide m Try.prog L #[v] A fun e B => (e = .returned (.bool true) ∧ J (pre ++ [x]) B ∧ Mid n0 A B) ∨ (e = .returned (.bool false) ∧ Jx B ∧ Mid n0 A B))
    (pre post : List (List Sg)) (l : List Sg) (A : World) (hl : l.length = cap) (hx : xs = pre ++ l :: post) (hi : ItS n0 L cap bp bv l A) (hj : J pre A) (hC : PlC ps vs cap bp bv pp cp pv cv A) (hsz : n0 + 6 ≤ A.heap.size) :
    Calls Try.prog 63 #[.pointer (some ⟨n0 + 4, 0, none⟩), .pointer (some ⟨bp, 0, none⟩), .pointer (some ⟨n0, 0, none⟩), .pointer (some ⟨n0 + 2, 0, none⟩), .pointer (some ⟨bv, 0, none⟩), .pointer (some ⟨n0 + 5, 0, none⟩)] A (PG n0 L cap bp bv J Jx (pre ++ [l]) l A) := by
  have hr : SgR n0 A (.slice (some ⟨n0 + 3, 0, none⟩) cap cap) l := by
    obtain ⟨cur, h1, _⟩ := hi.buf
    exact ⟨n0 + 3, cap, by omega, by rw [hl], hi.sl (by omega) hc, by omega, cur, h1⟩
  obtain ⟨fn, tmps, assign, body, hy, hR⟩ := HY 0 pre l post A _ hx hj hsz hr
  have HR := Lib.hid hR
  have e4 := hi.lv.cell (j := 0) rfl
  rw [hl] at e4
  have e1 := hC.bp_.cell (j := 0) rfl
  have e0 := hi.yl.cell (j := 0) rfl
  have HI := Lib.hid hi
  clear hR hi hj hC hr HY hx hl
  refine (callsIn_wide (n := 1)).1 ?_
  refine callsIn_of_wp Try.func63 rfl trivial ?_ rfl
  simp only [Try.ntmps63, List.size_toArray, List.length_cons, List.length_nil, Nat.reduceAdd, Nat.reduceSub, Array.replicate_succ, Array.replicate_zero, List.push_toArray, List.append_toArray, List.nil_append, List.cons_append]
  gi_wp2_with fail
  refine HR.out.mono ?_
  rintro e B (⟨rfl, hj2, hm⟩ | ⟨rfl, hx2, hm⟩)
  · have HF := Lib.hid (show PG n0 L cap bp bv J Jx (pre ++ [l]) l A (.returned (.bool true)) B from ⟨HI.out.mid hm, Kp.mid hm, .inl ⟨rfl, hj2⟩⟩)
    clear hj2 hm HR hy e0 e1 e4
    gi_wp2_with fail
    go_ret
    exact HF.out
  · have HF := Lib.hid (show PG n0 L cap bp bv J Jx (pre ++ [l]) l A (.returned (.bool false)) B from ⟨HI.out.mid hm, Kp.mid hm, .inr ⟨rfl, hx2⟩⟩)
    clear hx2 hm HR hy e0 e1 e4
    gi_wp2_with fail
    go_ret
    exact HF.out

end Go.Proofs.Ytedkcnphplpacaa
