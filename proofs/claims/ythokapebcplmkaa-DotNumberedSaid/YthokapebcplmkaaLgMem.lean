/- Signs in memory: what every walk over package ligature and its reference needs. -/
import Derived.Test.YthokapebcplmkaaKMem
import Derived.Deep.MidRow
import Derived.Deep.WholeRow
namespace Go.Proofs.Ythokapebcplmkaa
open Go.RowKit

structure Sg where
  kind : Int
  val : Int
  place : Int
  acc : Int
  col : Bool
  stem : Int
  obl : Bool
  last : Bool
  m0 : Int
  m1 : Int
  m2 : Int
  m3 : Int
  stk : Bool
  n : Int
  d : Int
  c0 : Int
  c1 : Int

def sgA (s : Sg) : Array Value := #[.int .i64 s.kind, .int .i64 s.val, .int .i64 s.place, .int .i64 s.acc, .bool s.col, .int .i64 s.stem, .bool s.obl, .bool s.last, .int .i64 s.m0, .int .i64 s.m1, .int .i64 s.m2, .int .i64 s.m3, .bool s.stk, .int .i64 s.n, .int .i64 s.d, .int .i64 s.c0, .int .i64 s.c1]
def sgv (s : Sg) : Value := .agg (sgA s)
def sgO (s : Sg) : Obj := .cells (sgA s) 51
def sgL (s : Sg) : List Value := (sgA s).toList
theorem sgL_len (s : Sg) : (sgL s).length = 17 := rfl
theorem sgL_one (s : Sg) : ∀ u ∈ sgL s, u.oneCell' = true := by
  intro u hu
  simp only [sgL, sgA, List.mem_cons, List.not_mem_nil, or_false] at hu
  rcases hu with rfl | rfl | rfl | rfl | rfl | rfl | rfl | rfl | rfl | rfl | rfl | rfl | rfl | rfl | rfl | rfl | rfl <;> rfl
/-- The cells of signs. -/
def flatG : List Sg → List Value
  | [] => []
  | s :: t => sgL s ++ flatG t
theorem flatG_len : ∀ l : List Sg, (flatG l).length = l.length * 17
  | [] => rfl
  | s :: t => by have := flatG_len t; simp only [flatG, List.length_append, List.length_cons, sgL_len]; omega
theorem flatG_app : ∀ l m : List Sg, flatG (l ++ m) = flatG l ++ flatG m
  | [], _ => rfl
  | s :: t, m => by show flatG (s :: (t ++ m)) = _; simp [flatG, flatG_app t m]
theorem flatG_one : ∀ l : List Sg, ∀ u ∈ flatG l, u.oneCell' = true
  | [], u, h => by simp [flatG] at h
  | s :: t, u, h => by
    simp only [flatG, List.mem_append] at h
    rcases h with h | h
    · exact sgL_one s u h
    · exact flatG_one t u h
theorem flatG_at : ∀ (l : List Sg) (k : Nat) (s : Sg), l[k]? = some s → ∀ j, j < 17 → (flatG l)[k * 17 + j]? = (sgL s)[j]?
  | [], k, s, h, _, _ => by simp at h
  | a :: t, 0, s, h, j, hj => by
    simp at h; subst h
    simp only [flatG, Nat.zero_mul, Nat.zero_add]
    exact List.getElem?_append_left (by rw [sgL_len]; exact hj)
  | a :: t, k + 1, s, h, j, hj => by
    have := flatG_at t k s (by simpa using h) j hj
    rw [show (k + 1) * 17 + j = (sgL a).length + (k * 17 + j) by rw [sgL_len]; omega]
    simp only [flatG]
    rw [List.getElem?_append_right (by omega), Nat.add_sub_cancel_left]
    exact this
/-- A sign stands in block b from offset o on. -/
structure SgAt (w : World) (b o : Nat) (s : Sg) : Prop where
  e0 : w.cell? ⟨b, o, none⟩ = some (.int .i64 s.kind)
  e1 : w.cell? ⟨b, o + 1, none⟩ = some (.int .i64 s.val)
  e2 : w.cell? ⟨b, o + 2, none⟩ = some (.int .i64 s.place)
  e3 : w.cell? ⟨b, o + 3, none⟩ = some (.int .i64 s.acc)
  e4 : w.cell? ⟨b, o + 4, none⟩ = some (.bool s.col)
  e5 : w.cell? ⟨b, o + 5, none⟩ = some (.int .i64 s.stem)
  e6 : w.cell? ⟨b, o + 6, none⟩ = some (.bool s.obl)
  e7 : w.cell? ⟨b, o + 7, none⟩ = some (.bool s.last)
  e8 : w.cell? ⟨b, o + 8, none⟩ = some (.int .i64 s.m0)
  e9 : w.cell? ⟨b, o + 9, none⟩ = some (.int .i64 s.m1)
  e10 : w.cell? ⟨b, o + 10, none⟩ = some (.int .i64 s.m2)
  e11 : w.cell? ⟨b, o + 11, none⟩ = some (.int .i64 s.m3)
  e12 : w.cell? ⟨b, o + 12, none⟩ = some (.bool s.stk)
  e13 : w.cell? ⟨b, o + 13, none⟩ = some (.int .i64 s.n)
  e14 : w.cell? ⟨b, o + 14, none⟩ = some (.int .i64 s.d)
  e15 : w.cell? ⟨b, o + 15, none⟩ = some (.int .i64 s.c0)
  e16 : w.cell? ⟨b, o + 16, none⟩ = some (.int .i64 s.c1)
theorem SgAt.later {w w1 : World} {b o : Nat} {s : Sg} (h : SgAt w b o s) (k : Below w.heap.size w w1) : SgAt w1 b o s :=
  ⟨cell_later k h.e0, cell_later k h.e1, cell_later k h.e2, cell_later k h.e3, cell_later k h.e4, cell_later k h.e5, cell_later k h.e6, cell_later k h.e7, cell_later k h.e8, cell_later k h.e9, cell_later k h.e10, cell_later k h.e11, cell_later k h.e12, cell_later k h.e13, cell_later k h.e14, cell_later k h.e15, cell_later k h.e16⟩
def SgV (w : World) (v : Value) (l : List Sg) : Prop := ∃ p cap, v = .slice p l.length cap ∧ SlP w 17 p l.length cap (flatG l)
theorem SgV.later {w w1 : World} {v : Value} {l : List Sg} (h : SgV w v l) (b : Below w.heap.size w w1) : SgV w1 v l := by
  obtain ⟨p, cap, e, k⟩ := h; exact ⟨p, cap, e, k.later b⟩
theorem SgV.none (w : World) : SgV w (.slice none 0 0) [] := ⟨_, 0, rfl, ⟨rfl, by simp, by omega, fun _ => rfl, by simp [flatG], fun h => by simp at h⟩⟩
theorem SgV.of_own {w : World} {base : Nat} {e : TypeId} {v : Value} {l : List Sg} (h : w.ownsRow base e 17 v l.length (flatG l)) : SgV w v l := SlP.of_own h (flatG_len l) (flatG_one l)
theorem SlP.sg {w : World} {p : Option Addr} {cap : Nat} {l : List Sg} (h : SlP w 17 p l.length cap (flatG l)) {i : Nat} {s : Sg} (hi : l[i]? = some s) :
    ∃ b off, p = some ⟨b, off, none⟩ ∧ b < w.heap.size ∧ SgAt w b (off + i * 17) s := by
  have hlt := (List.getElem?_eq_some_iff.1 hi).1
  obtain ⟨b, off, e, hb, hc⟩ := h.at_ (by omega)
  have hf := flatG_at l i s hi
  have g : ∀ j u, j < 17 → (sgL s)[j]? = some u → w.cell? ⟨b, off + i * 17 + j, none⟩ = some u := fun j u hj hu => by
    rw [Nat.add_assoc]; exact hc _ _ ((hf j hj).trans hu)
  exact ⟨b, off, e, hb, ⟨g 0 _ (by decide) rfl, g 1 _ (by decide) rfl, g 2 _ (by decide) rfl, g 3 _ (by decide) rfl, g 4 _ (by decide) rfl, g 5 _ (by decide) rfl, g 6 _ (by decide) rfl, g 7 _ (by decide) rfl, g 8 _ (by decide) rfl, g 9 _ (by decide) rfl, g 10 _ (by decide) rfl, g 11 _ (by decide) rfl, g 12 _ (by decide) rfl, g 13 _ (by decide) rfl, g 14 _ (by decide) rfl, g 15 _ (by decide) rfl, g 16 _ (by decide) rfl⟩⟩
theorem info_sign : (Try.prog.info? 51).map (fun i => (i.zero, i.size, i.bytes)) = some (some (sgv ⟨0, 0, 0, 0, false, 0, false, false, 0, 0, 0, 0, false, 0, 0, 0, 0⟩), 17, 128) := by kernel_rfl
/-- Fields that a sign of a ligature does not use are zero. -/
def bareS (s : Sg) : Sg := { s with val := 0, m0 := 0, m1 := 0, m2 := 0, m3 := 0, stk := false, n := 0, d := 0, c0 := 0, c1 := 0 }
/-- Two signs are equal, field by field. -/
def sgE (a b : Sg) : Bool := (a.kind == b.kind) && (a.val == b.val) && (a.place == b.place) && (a.acc == b.acc) && (a.col == b.col) && (a.stem == b.stem) && (a.obl == b.obl) && (a.last == b.last) && (a.m0 == b.m0) && (a.m1 == b.m1) && (a.m2 == b.m2) && (a.m3 == b.m3) && (a.stk == b.stk) && (a.n == b.n) && (a.d == b.d) && (a.c0 == b.c0) && (a.c1 == b.c1)
theorem sgE_iff (a b : Sg) : sgE a b = true ↔ a = b := by
  constructor
  · intro h
    simp only [sgE, Bool.and_eq_true, beq_iff_eq, and_assoc] at h
    obtain ⟨h0, h1, h2, h3, h4, h5, h6, h7, h8, h9, h10, h11, h12, h13, h14, h15, h16⟩ := h
    obtain ⟨x0, x1, x2, x3, x4, x5, x6, x7, x8, x9, x10, x11, x12, x13, x14, x15, x16⟩ := a
    obtain ⟨y0, y1, y2, y3, y4, y5, y6, y7, y8, y9, y10, y11, y12, y13, y14, y15, y16⟩ := b
    simp only at h0 h1 h2 h3 h4 h5 h6 h7 h8 h9 h10 h11 h12 h13 h14 h15 h16
    rw [h0, h1, h2, h3, h4, h5, h6, h7, h8, h9, h10, h11, h12, h13, h14, h15, h16]
  · rintro rfl
    simp [sgE]
instance : DecidableEq Sg := fun a b => decidable_of_iff _ (sgE_iff a b)

set_option maxHeartbeats 4000000 in
theorem sg_eqs (a b : Sg) (w : World) : (Op.equalIn 10000 51 (sgv a) (sgv b)).run Try.prog w = .ok (sgE a b) w := by
  unfold sgE sgv sgA
  obtain ⟨x0, x1, x2, x3, x4, x5, x6, x7, x8, x9, x10, x11, x12, x13, x14, x15, x16⟩ := a
  obtain ⟨y0, y1, y2, y3, y4, y5, y6, y7, y8, y9, y10, y11, y12, y13, y14, y15, y16⟩ := b
  simp only
  by_cases h0 : (x0 == y0) = true
  case neg =>
    have h : (x0 == y0) = false := by simpa using h0
    simp [go_sem, h]
  by_cases h1 : (x1 == y1) = true
  case neg =>
    have h : (x1 == y1) = false := by simpa using h1
    simp [go_sem, h0, h]
  by_cases h2 : (x2 == y2) = true
  case neg =>
    have h : (x2 == y2) = false := by simpa using h2
    simp [go_sem, h0, h1, h]
  by_cases h3 : (x3 == y3) = true
  case neg =>
    have h : (x3 == y3) = false := by simpa using h3
    simp [go_sem, h0, h1, h2, h]
  by_cases h4 : (x4 == y4) = true
  case neg =>
    have h : (x4 == y4) = false := by simpa using h4
    simp [go_sem, h0, h1, h2, h3, h]
  by_cases h5 : (x5 == y5) = true
  case neg =>
    have h : (x5 == y5) = false := by simpa using h5
    simp [go_sem, h0, h1, h2, h3, h4, h]
  by_cases h6 : (x6 == y6) = true
  case neg =>
    have h : (x6 == y6) = false := by simpa using h6
    simp [go_sem, h0, h1, h2, h3, h4, h5, h]
  by_cases h7 : (x7 == y7) = true
  case neg =>
    have h : (x7 == y7) = false := by simpa using h7
    simp [go_sem, h0, h1, h2, h3, h4, h5, h6, h]
  by_cases h8 : (x8 == y8) = true
  case neg =>
    have h : (x8 == y8) = false := by simpa using h8
    simp [go_sem, h0, h1, h2, h3, h4, h5, h6, h7, h]
  by_cases h9 : (x9 == y9) = true
  case neg =>
    have h : (x9 == y9) = false := by simpa using h9
    simp [go_sem, h0, h1, h2, h3, h4, h5, h6, h7, h8, h]
  by_cases h10 : (x10 == y10) = true
  case neg =>
    have h : (x10 == y10) = false := by simpa using h10
    simp [go_sem, h0, h1, h2, h3, h4, h5, h6, h7, h8, h9, h]
  by_cases h11 : (x11 == y11) = true
  case neg =>
    have h : (x11 == y11) = false := by simpa using h11
    simp [go_sem, h0, h1, h2, h3, h4, h5, h6, h7, h8, h9, h10, h]
  by_cases h12 : (x12 == y12) = true
  case neg =>
    have h : (x12 == y12) = false := by simpa using h12
    simp [go_sem, h0, h1, h2, h3, h4, h5, h6, h7, h8, h9, h10, h11, h]
  by_cases h13 : (x13 == y13) = true
  case neg =>
    have h : (x13 == y13) = false := by simpa using h13
    simp [go_sem, h0, h1, h2, h3, h4, h5, h6, h7, h8, h9, h10, h11, h12, h]
  by_cases h14 : (x14 == y14) = true
  case neg =>
    have h : (x14 == y14) = false := by simpa using h14
    simp [go_sem, h0, h1, h2, h3, h4, h5, h6, h7, h8, h9, h10, h11, h12, h13, h]
  by_cases h15 : (x15 == y15) = true
  case neg =>
    have h : (x15 == y15) = false := by simpa using h15
    simp [go_sem, h0, h1, h2, h3, h4, h5, h6, h7, h8, h9, h10, h11, h12, h13, h14, h]
  by_cases h16 : (x16 == y16) = true
  case neg =>
    have h : (x16 == y16) = false := by simpa using h16
    simp [go_sem, h0, h1, h2, h3, h4, h5, h6, h7, h8, h9, h10, h11, h12, h13, h14, h15, h]
  simp [go_sem, h0, h1, h2, h3, h4, h5, h6, h7, h8, h9, h10, h11, h12, h13, h14, h15, h16]
theorem sg_neq (a b : Sg) (w : World) : (binOp .neq 51 (sgv a) (sgv b)).run Try.prog w = .ok (.bool (!(sgE a b))) w := by
  have h := sg_eqs a b w
  unfold sgv at h ⊢
  rw [run_neq_struct, h]; rfl
theorem sg_guard (op : BinOp) (x y : Operand) (a b : Sg) (w : World) : (eqGuard op 51 x y (sgv a) (sgv b)).run Try.prog w = .ok () w := by
  unfold sgv
  exact run_eqGuard_agg w op 51 x y (sgA a) (sgA b) (by kernel_rfl)

/-! ### Whole signs: loaded, stored, boxed, handed back, without being opened -/
theorem sg_size : (Try.prog.info? 51).map (·.size) = some 17 := by kernel_rfl
theorem SgAt.range {w : World} {b o : Nat} {s : Sg} (h : SgAt w b o s) : w.rangeAt b o (sgL s) := by
  intro j v hj
  have hlt : j < 17 := by
    have := (List.getElem?_eq_some_iff.1 hj).1
    rwa [sgL_len] at this
  obtain ⟨e0, e1, e2, e3, e4, e5, e6, e7, e8, e9, e10, e11, e12, e13, e14, e15, e16⟩ := h
  have c : j = 0 ∨ j = 1 ∨ j = 2 ∨ j = 3 ∨ j = 4 ∨ j = 5 ∨ j = 6 ∨ j = 7 ∨ j = 8 ∨ j = 9 ∨ j = 10 ∨ j = 11 ∨ j = 12 ∨ j = 13 ∨ j = 14 ∨ j = 15 ∨ j = 16 := by omega
  rcases c with rfl | rfl | rfl | rfl | rfl | rfl | rfl | rfl | rfl | rfl | rfl | rfl | rfl | rfl | rfl | rfl | rfl
  · obtain rfl : _ = v := Option.some.inj hj; exact e0
  · obtain rfl : _ = v := Option.some.inj hj; exact e1
  · obtain rfl : _ = v := Option.some.inj hj; exact e2
  · obtain rfl : _ = v := Option.some.inj hj; exact e3
  · obtain rfl : _ = v := Option.some.inj hj; exact e4
  · obtain rfl : _ = v := Option.some.inj hj; exact e5
  · obtain rfl : _ = v := Option.some.inj hj; exact e6
  · obtain rfl : _ = v := Option.some.inj hj; exact e7
  · obtain rfl : _ = v := Option.some.inj hj; exact e8
  · obtain rfl : _ = v := Option.some.inj hj; exact e9
  · obtain rfl : _ = v := Option.some.inj hj; exact e10
  · obtain rfl : _ = v := Option.some.inj hj; exact e11
  · obtain rfl : _ = v := Option.some.inj hj; exact e12
  · obtain rfl : _ = v := Option.some.inj hj; exact e13
  · obtain rfl : _ = v := Option.some.inj hj; exact e14
  · obtain rfl : _ = v := Option.some.inj hj; exact e15
  · obtain rfl : _ = v := Option.some.inj hj; exact e16

end Go.Proofs.Ythokapebcplmkaa
