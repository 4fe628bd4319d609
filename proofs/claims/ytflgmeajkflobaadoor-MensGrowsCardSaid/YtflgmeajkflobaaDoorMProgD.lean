/- The numbers of mensurations, and the mensurations of numbers, of the program and of the reference. -/
import Derived.Test.YtflgmeajkflobaaDoorMProgC
namespace Go.Proofs.YtflgmeajkflobaaDoor
open Go.RowKit

def numI (q : Q4) : Int := 8 * (q.1 - 2) + 4 * (q.2.1 - 2) + 2 * (q.2.2.1 - 2) + q.2.2.2 - 2
def numV (q : Q4) : Int := if okM q then numI q else 0
theorem numV_ok {q : Q4} (h : okM q) : numV q = numI q := if_pos h
theorem numV_no {q : Q4} (h : ¬ okM q) : numV q = 0 := if_neg h
def numK (q : Q4) : Nat → Int
  | 0 => 0
  | k + 1 => 2 * numK q k + nthQ q k - 2
theorem numK_four (q : Q4) : numK q 4 = numI q := by
  obtain ⟨a, b, c, d⟩ := q
  simp only [numK, nthQ, numI]
  omega
theorem nth_two {q : Q4} (h : okM q) (k : Nat) : 2 ≤ nthQ q k ∧ nthQ q k ≤ 3 := by
  obtain ⟨h1, h2, h3, h4⟩ := h
  unfold two at *
  match k with
  | 0 => show 2 ≤ q.1 ∧ q.1 ≤ 3; omega
  | 1 => show 2 ≤ q.2.1 ∧ q.2.1 ≤ 3; omega
  | 2 => show 2 ≤ q.2.2.1 ∧ q.2.2.1 ≤ 3; omega
  | k + 3 => show 2 ≤ q.2.2.2 ∧ q.2.2.2 ≤ 3; omega
theorem numK_bd {q : Q4} (h : okM q) (k : Nat) (hk : k ≤ 4) : 0 ≤ numK q k ∧ numK q k ≤ 15 := by
  have hall : ∀ q ∈ mensL, ∀ k ∈ List.range 5, 0 ≤ numK q k ∧ numK q k ≤ 15 := by decide +kernel
  exact hall q ((mens_iff q).2 h) k (by simp only [List.mem_range]; omega)
def NumPost (q : Q4) (w : World) (e : Ending) (w' : World) : Prop := e = .returned (.tuple #[.int .i64 (numV q), .int .i64 (chkM q)]) ∧ Below w.heap.size w w'

set_option maxHeartbeats 4000000 in
theorem number_any (q : Q4) (w : World) : Calls Tryd.prog 19 #[mv q] w (NumPost q w) := by
  have C := Lib.hid (fun W => mcheck_any q W)
  have K := Lib.hid (Cell4.made w q 23)
  unfold NumPost
  by_cases h : okM q
  · rw [numV_ok h, chkM_ok h]
    rw [chkM_ok h] at C
    have NU := Lib.hid (fun W => numsOf_any q W)
    have hbd := Lib.hid (fun k hk => numK_bd h k hk)
    have hnt := Lib.hid (fun k => nth_two h k)
    have h4 := Lib.hid (numK_four q)
    have hs := Lib.hid (fun k => show numK q (k + 1) = 2 * numK q k + nthQ q k - 2 from rfl)
    generalize hu : numK q = U at *
    have h0 : U 0 = 0 := by rw [← hu]; rfl
    clear hu h
    generalize numI q = R at *
    obtain ⟨a, b, c, d⟩ := q
    have i0 : ∀ w, (Instr.index 57 (.agg #[.int .i64 a, .int .i64 b, .int .i64 c, .int .i64 d]) (.int .i64 0)).run Tryd.prog w = .ok (.int .i64 a) w := fun _ => by kernel_rfl
    have i1 : ∀ w, (Instr.index 57 (.agg #[.int .i64 a, .int .i64 b, .int .i64 c, .int .i64 d]) (.int .i64 1)).run Tryd.prog w = .ok (.int .i64 b) w := fun _ => by kernel_rfl
    have i2 : ∀ w, (Instr.index 57 (.agg #[.int .i64 a, .int .i64 b, .int .i64 c, .int .i64 d]) (.int .i64 2)).run Tryd.prog w = .ok (.int .i64 c) w := fun _ => by kernel_rfl
    have i3 : ∀ w, (Instr.index 57 (.agg #[.int .i64 a, .int .i64 b, .int .i64 c, .int .i64 d]) (.int .i64 3)).run Tryd.prog w = .ok (.int .i64 d) w := fun _ => by kernel_rfl
    go_enter Tryd.func19, Tryd.ntmps19
    go_wp2_with fail
    refine (C.out _).mono ?_
    rintro e w1 ⟨rfl, hb⟩
    have hB := Lib.hid (w_below (w_alloc (w_refl w) (mO (a, b, c, d))) hb)
    obtain ⟨_, c0, c1, c2, c3, _, _, _, _⟩ := K.out.later hb
    clear hb C K
    go_wp2_with fail
    refine (NU.out _).mono ?_
    rintro e w2 ⟨rfl, hb⟩
    replace hB := Lib.hid (w_below hB.out hb)
    clear hb NU c0 c1 c2 c3
    go_wp2_with fail
    go_loopw [5, 15] (fun s5 s15 wr => ∃ k : Nat, k ≤ 4 ∧ s15 = .int .i64 k ∧ s5 = .int .i64 (U k) ∧ Hid (Below w.heap.size w wr)) (fun _ s15 _ => 4 - (intOf s15).toNat)
    case atStart => exact ⟨0, by omega, rfl, by rw [h0], hB⟩
    case round =>
      clear hB
      rename World => wr
      obtain ⟨k, hk, rfl, rfl, hbr⟩ := hrel
      have ck : k = 0 ∨ k = 1 ∨ k = 2 ∨ k = 3 ∨ k = 4 := by omega
      have hb1 := hbd.out k hk
      have hn1 := hnt.out k
      have hs1 := hs.out k
      clear hbd hnt hs
      rcases ck with rfl | rfl | rfl | rfl | rfl
      · have hs2 := Lib.hid hs1
        obtain ⟨n, hn⟩ : ∃ n, U 0 = n := ⟨_, rfl⟩
        rw [hn] at hb1 hs2 ⊢
        simp only [nthQ] at hn1 hs2
        clear hs1 h0
        go_wp2_with fail
        go_roundw
        case rel => exact ⟨1, by omega, rfl, by rw [hs2.out], hbr⟩
        case measure => simp [intOf]
      · have hs2 := Lib.hid hs1
        obtain ⟨n, hn⟩ : ∃ n, U 1 = n := ⟨_, rfl⟩
        rw [hn] at hb1 hs2 ⊢
        simp only [nthQ] at hn1 hs2
        clear hs1 h0
        go_wp2_with fail
        go_roundw
        case rel => exact ⟨2, by omega, rfl, by rw [hs2.out], hbr⟩
        case measure => simp [intOf]
      · have hs2 := Lib.hid hs1
        obtain ⟨n, hn⟩ : ∃ n, U 2 = n := ⟨_, rfl⟩
        rw [hn] at hb1 hs2 ⊢
        simp only [nthQ] at hn1 hs2
        clear hs1 h0
        go_wp2_with fail
        go_roundw
        case rel => exact ⟨3, by omega, rfl, by rw [hs2.out], hbr⟩
        case measure => simp [intOf]
      · have hs2 := Lib.hid hs1
        obtain ⟨n, hn⟩ : ∃ n, U 3 = n := ⟨_, rfl⟩
        rw [hn] at hb1 hs2 ⊢
        simp only [nthQ] at hn1 hs2
        clear hs1 h0
        go_wp2_with fail
        go_roundw
        case rel => exact ⟨4, by omega, rfl, by rw [hs2.out], hbr⟩
        case measure => simp [intOf]
      · rw [h4.out]
        clear hs1 h4 h0 hb1 hn1
        go_wp2_with fail
        go_ret2
        exact ⟨rfl, hbr.out⟩
  · rw [numV_no h, chkM_no h]
    rw [chkM_no h] at C
    clear h
    obtain ⟨a, b, c, d⟩ := q
    go_enter Tryd.func19, Tryd.ntmps19
    go_wp2_with fail
    refine (C.out _).mono ?_
    rintro e w1 ⟨rfl, hb⟩
    have hB := Lib.hid (w_below (w_alloc (w_refl w) (mO (a, b, c, d))) hb)
    clear hb C K
    go_wp2_with fail
    go_ret2
    exact ⟨rfl, hB.out⟩

set_option maxHeartbeats 4000000 in
theorem rmnumber_any (q : Q4) (w : World) : Calls Tryd.prog 20 #[mv q] w (NumPost q w) := by
  have C := Lib.hid (fun W => rmcheck_any q W)
  have K := Lib.hid (Cell4.made w q 23)
  unfold NumPost
  by_cases h : okM q
  · rw [numV_ok h, chkM_ok h]
    rw [chkM_ok h] at C
    have b0 := nth_two h 0
    have b1 := nth_two h 1
    have b2 := nth_two h 2
    have b3 := nth_two h 3
    clear h
    obtain ⟨a, b, c, d⟩ := q
    simp only [nthQ] at b0 b1 b2 b3
    go_enter Tryd.func20, Tryd.ntmps20
    go_wp2_with fail
    refine (C.out _).mono ?_
    rintro e w1 ⟨rfl, hb⟩
    have hB := Lib.hid (w_below (w_alloc (w_refl w) (mO (a, b, c, d))) hb)
    obtain ⟨_, c0, c1, c2, c3, _, _, _, _⟩ := K.out.later hb
    clear hb C K
    go_wp2_with fail
    go_ret2
    exact ⟨rfl, hB.out⟩
  · rw [numV_no h, chkM_no h]
    rw [chkM_no h] at C
    clear h
    obtain ⟨a, b, c, d⟩ := q
    go_enter Tryd.func20, Tryd.ntmps20
    go_wp2_with fail
    refine (C.out _).mono ?_
    rintro e w1 ⟨rfl, hb⟩
    have hB := Lib.hid (w_below (w_alloc (w_refl w) (mO (a, b, c, d))) hb)
    clear hb C K
    go_wp2_with fail
    go_ret2
    exact ⟨rfl, hB.out⟩

/-- Four cells are stored. -/
theorem mens_put {w1 : World} {b : Nat} {t : TypeId} {x0 x1 x2 x3 : Value} (h : HoldsB w1 b t #[x0, x1, x2, x3]) (A B C D : Value) :
    (w1.setCell ⟨b, 0, none⟩ A).cell? ⟨b, 0, none⟩ = some A ∧ ((w1.setCell ⟨b, 0, none⟩ A).setCell ⟨b, 1, none⟩ B).cell? ⟨b, 1, none⟩ = some B ∧
    (((w1.setCell ⟨b, 0, none⟩ A).setCell ⟨b, 1, none⟩ B).setCell ⟨b, 2, none⟩ C).cell? ⟨b, 2, none⟩ = some C ∧
    ((((w1.setCell ⟨b, 0, none⟩ A).setCell ⟨b, 1, none⟩ B).setCell ⟨b, 2, none⟩ C).setCell ⟨b, 3, none⟩ D).cell? ⟨b, 3, none⟩ = some D := by
  have h0 := h.set 0 A
  have h1 := h0.set 1 B
  have h2 := h1.set 2 C
  have h3 := h2.set 3 D
  exact ⟨h0.cell rfl, h1.cell rfl, h2.cell rfl, h3.cell rfl⟩

theorem toMens_any (q : Q4) (w : World) : Calls Tryd.prog 49 #[mv q] w fun e w' => e = .returned (mv q) ∧ Below w.heap.size w w' := by
  obtain ⟨a, b, c, d⟩ := q
  go_enter Tryd.func49, Tryd.ntmps49
  go_wp2_with fail
  refine bodyPost_ret (v := mv (a, b, c, d)) (by simp [results, Tryd.results49, go_sem]) rfl ⟨rfl, ?_⟩
  exact w_alloc (w_alloc (w_refl w) _) _

set_option maxHeartbeats 4000000 in
theorem numsAt_any (n : Int) (hn : 0 ≤ n ∧ n ≤ 15) (w : World) : Calls Tryd.prog 50 #[.int .i64 n] w fun e w' => e = .returned (mv (ofN n)) ∧ Below w.heap.size w w' := by
  have hR := Lib.hid (show (2 + n / 2 / 2 / 2 % 2, 2 + n / 2 / 2 % 2, 2 + n / 2 % 2, 2 + n % 2) = ofN n by
    unfold ofN
    rw [show n / 2 / 2 / 2 % 2 = n / 8 by omega, show n / 2 / 2 % 2 = n / 4 % 2 by omega])
  have r0 := Lib.hid (HoldsB.new w 57 #[.int .i64 0, .int .i64 0, .int .i64 0, .int .i64 0])
  have r1 := Lib.hid (HoldsB.new (w.alloc (nO (0, 0, 0, 0))) 57 #[.int .i64 0, .int .i64 0, .int .i64 0, .int .i64 0])
  rw [World.size_alloc] at r1
  have r2 := Lib.hid (r0.out.al (nO (0, 0, 0, 0)))
  have rb := Lib.hid (w_alloc (w_alloc (w_refl w) (nO (0, 0, 0, 0))) (nO (0, 0, 0, 0)))
  clear r0
  go_enter Tryd.func50, Tryd.ntmps50
  go_wp2_with fail
  go_loopw [0, 4] (fun s0 s4 wr => ∃ m A B C D : Int, (∃ k : Nat, k ≤ 4 ∧ s4 = .int .i64 (3 - (k : Int)) ∧ s0 = .int .i64 m ∧ ((k = 0 ∧ m = n ∧ Hid (A = 0 ∧ B = 0 ∧ C = 0 ∧ D = 0)) ∨ (k = 1 ∧ m = n / 2 ∧ Hid (A = 0 ∧ B = 0 ∧ C = 0 ∧ D = 2 + n % 2)) ∨ (k = 2 ∧ m = n / 2 / 2 ∧ Hid (A = 0 ∧ B = 0 ∧ C = 2 + n / 2 % 2 ∧ D = 2 + n % 2)) ∨ (k = 3 ∧ m = n / 2 / 2 / 2 ∧ Hid (A = 0 ∧ B = 2 + n / 2 / 2 % 2 ∧ C = 2 + n / 2 % 2 ∧ D = 2 + n % 2)) ∨ (k = 4 ∧ Hid ((A, B, C, D) = ofN n)))) ∧
      Hid (HoldsB wr w.heap.size 57 #[.int .i64 0, .int .i64 0, .int .i64 0, .int .i64 0]) ∧ Hid (HoldsB wr (w.heap.size + 1) 57 #[.int .i64 A, .int .i64 B, .int .i64 C, .int .i64 D]) ∧ Hid (Below w.heap.size w wr)) (fun _ s4 _ => (intOf s4 + 1).toNat)
  case atStart => exact ⟨n, 0, 0, 0, 0, ⟨0, by omega, rfl, rfl, .inl ⟨rfl, rfl, Lib.hid ⟨rfl, rfl, rfl, rfl⟩⟩⟩, r2, r1, rb⟩
  case round =>
    clear r2 r1 rb
    obtain ⟨m, A, B, C, D, ⟨k, hk, rfl, rfl, hc⟩, h0, h1, hbr⟩ := hrel
    have l0 := h1.out.cell (j := 0) rfl
    have l1 := h1.out.cell (j := 1) rfl
    have l2 := h1.out.cell (j := 2) rfl
    have l3 := h1.out.cell (j := 3) rfl
    have lf := h1.out.frozen
    rcases hc with ⟨rfl, rfl, he⟩ | ⟨rfl, rfl, he⟩ | ⟨rfl, rfl, he⟩ | ⟨rfl, rfl, he⟩ | ⟨rfl, he⟩
    · obtain ⟨rfl, rfl, rfl, rfl⟩ := he.out
      clear he hR
      go_wp2_with fail
      go_roundw
      case rel => exact ⟨_, 0, 0, 0, 2 + m % 2, ⟨1, by omega, rfl, rfl, .inr (.inl ⟨rfl, rfl, Lib.hid ⟨rfl, rfl, rfl, rfl⟩⟩)⟩, Lib.hid (h0.out.other (by omega) 3 _), Lib.hid (h1.out.set 3 _), Lib.hid (w_put hbr.out (by omega) 3 _)⟩
      case measure => simp [intOf]
    · obtain ⟨rfl, rfl, rfl, rfl⟩ := he.out
      clear he hR
      have z : 0 ≤ n / 2 ∧ n / 2 ≤ 7 := by omega
      go_wp2_with fail
      go_roundw
      case rel => exact ⟨_, 0, 0, 2 + n / 2 % 2, _, ⟨2, by omega, rfl, rfl, .inr (.inr (.inl ⟨rfl, rfl, Lib.hid ⟨rfl, rfl, rfl, rfl⟩⟩))⟩, Lib.hid (h0.out.other (by omega) 2 _), Lib.hid (h1.out.set 2 _), Lib.hid (w_put hbr.out (by omega) 2 _)⟩
      case measure => simp [intOf]
    · obtain ⟨rfl, rfl, rfl, rfl⟩ := he.out
      clear he hR
      have z : 0 ≤ n / 2 / 2 ∧ n / 2 / 2 ≤ 7 := by omega
      go_wp2_with fail
      go_roundw
      case rel => exact ⟨_, 0, 2 + n / 2 / 2 % 2, _, _, ⟨3, by omega, rfl, rfl, .inr (.inr (.inr (.inl ⟨rfl, rfl, Lib.hid ⟨rfl, rfl, rfl, rfl⟩⟩)))⟩, Lib.hid (h0.out.other (by omega) 1 _), Lib.hid (h1.out.set 1 _), Lib.hid (w_put hbr.out (by omega) 1 _)⟩
      case measure => simp [intOf]
    · obtain ⟨rfl, rfl, rfl, rfl⟩ := he.out
      clear he
      have z : 0 ≤ n / 2 / 2 / 2 ∧ n / 2 / 2 / 2 ≤ 7 := by omega
      go_wp2_with fail
      go_roundw
      case rel => exact ⟨_, 2 + n / 2 / 2 / 2 % 2, _, _, _, ⟨4, by omega, rfl, rfl, .inr (.inr (.inr (.inr ⟨rfl, hR⟩)))⟩, Lib.hid (h0.out.other (by omega) 0 _), Lib.hid (h1.out.set 0 _), Lib.hid (w_put hbr.out (by omega) 0 _)⟩
      case measure => simp [intOf]
    · clear hR
      obtain ⟨d0, d1, d2, d3⟩ := mens_put h0.out (.int .i64 A) (.int .i64 B) (.int .i64 C) (.int .i64 D)
      have e0 := h0.out.cell (j := 0) rfl
      have e1 := h0.out.cell (j := 1) rfl
      have e2 := h0.out.cell (j := 2) rfl
      have e3 := h0.out.cell (j := 3) rfl
      have ef := h0.out.frozen
      go_wp2_with fail
      refine bodyPost_ret (v := mv (A, B, C, D)) (by simp [results, Tryd.results50, go_sem, d0, d1, d2, d3]) rfl ⟨congrArg (fun q : Q4 => Ending.returned (mv q)) he.out, ?_⟩
      exact w_put (w_put (w_put (w_put hbr.out (by omega) _ _) (by omega) _ _) (by omega) _ _) (by omega) _ _

/-- The mensuration of a number, and the error. -/
def ofE (n : Int) : Int := if 0 ≤ n ∧ n ≤ 15 then 0 else 2
def ofQ (n : Int) : Q4 := if 0 ≤ n ∧ n ≤ 15 then ofN n else (0, 0, 0, 0)
abbrev mev (q : Q4) (e : Int) : Value := .tuple #[mv q, .int .i64 e]
def OfPost (n : Int) (w : World) (e : Ending) (w' : World) : Prop := e = .returned (mev (ofQ n) (ofE n)) ∧ Below w.heap.size w w'

set_option maxHeartbeats 4000000 in
theorem of_any (n : Int) (w : World) : Calls Tryd.prog 28 #[.int .i64 n] w (OfPost n w) := by
  unfold OfPost
  by_cases h : 0 ≤ n ∧ n ≤ 15
  · rw [show ofQ n = ofN n from if_pos h, show ofE n = 0 from if_pos h]
    have N := Lib.hid (fun W => numsAt_any n h W)
    obtain ⟨h1, h2⟩ := h
    generalize ofN n = q at *
    have T := Lib.hid (fun W => toMens_any q W)
    obtain ⟨a, b, c, d⟩ := q
    have r0 := Lib.hid (HoldsB.new w 23 #[.int .i64 0, .int .i64 0, .int .i64 0, .int .i64 0])
    go_enter Tryd.func28, Tryd.ntmps28
    go_wp2_with fail
    refine (N.out _).mono ?_
    rintro e w1 ⟨rfl, hb⟩
    have hB := Lib.hid (w_below (w_alloc (w_refl w) (mO (0, 0, 0, 0))) hb)
    replace r0 := Lib.hid (r0.out.later hb)
    clear hb N
    go_wp2_with fail
    refine (T.out _).mono ?_
    rintro e w2 ⟨rfl, hb⟩
    replace hB := Lib.hid (w_below hB.out hb)
    replace r0 := Lib.hid (r0.out.later hb)
    clear hb T
    obtain ⟨d0, d1, d2, d3⟩ := mens_put r0.out (.int .i64 a) (.int .i64 b) (.int .i64 c) (.int .i64 d)
    have e0 := r0.out.cell (j := 0) rfl
    have e1 := r0.out.cell (j := 1) rfl
    have e2 := r0.out.cell (j := 2) rfl
    have e3 := r0.out.cell (j := 3) rfl
    have ef := r0.out.frozen
    go_wp2_with fail
    refine bodyPost_ret (v := mev (a, b, c, d) 0) (by simp [results, Tryd.results28, go_sem, d0, d1, d2, d3]) rfl ⟨rfl, ?_⟩
    exact w_put (w_put (w_put (w_put hB.out (by omega) _ _) (by omega) _ _) (by omega) _ _) (by omega) _ _
  · rw [show ofQ n = (0, 0, 0, 0) from if_neg h, show ofE n = 2 from if_neg h]
    by_cases h1 : n < 0
    · clear h
      go_enter Tryd.func28, Tryd.ntmps28
      go_wp2_with fail
      refine bodyPost_ret (v := mev (0, 0, 0, 0) 2) (by simp [results, Tryd.results28, go_sem]) rfl ⟨rfl, ?_⟩
      exact w_alloc (w_refl w) _
    · have h2 : 16 ≤ n := by omega
      clear h
      go_enter Tryd.func28, Tryd.ntmps28
      go_wp2_with fail
      refine bodyPost_ret (v := mev (0, 0, 0, 0) 2) (by simp [results, Tryd.results28, go_sem]) rfl ⟨rfl, ?_⟩
      exact w_alloc (w_refl w) _

set_option maxHeartbeats 4000000 in
theorem rof_any (n : Int) (w : World) : Calls Tryd.prog 29 #[.int .i64 n] w (OfPost n w) := by
  unfold OfPost
  by_cases h : 0 ≤ n ∧ n ≤ 15
  · rw [show ofQ n = ofN n from if_pos h, show ofE n = 0 from if_pos h]
    obtain ⟨h1, h2⟩ := h
    have z1 : 0 ≤ n / 4 ∧ n / 4 ≤ 3 := by omega
    have z2 : 0 ≤ n / 2 ∧ n / 2 ≤ 7 := by omega
    have z3 : 0 ≤ n / 8 ∧ n / 8 ≤ 1 := by omega
    go_enter Tryd.func29, Tryd.ntmps29
    go_wp2_with fail
    refine bodyPost_ret (v := mev (ofN n) 0) (by simp [results, Tryd.results29, go_sem, ofN]) rfl ⟨rfl, ?_⟩
    exact w_alloc (w_refl w) _
  · rw [show ofQ n = (0, 0, 0, 0) from if_neg h, show ofE n = 2 from if_neg h]
    by_cases h1 : n < 0
    · clear h
      go_enter Tryd.func29, Tryd.ntmps29
      go_wp2_with fail
      refine bodyPost_ret (v := mev (0, 0, 0, 0) 2) (by simp [results, Tryd.results29, go_sem]) rfl ⟨rfl, ?_⟩
      exact w_alloc (w_refl w) _
    · have h2 : 15 < n := by omega
      clear h
      go_enter Tryd.func29, Tryd.ntmps29
      go_wp2_with fail
      refine bodyPost_ret (v := mev (0, 0, 0, 0) 2) (by simp [results, Tryd.results29, go_sem]) rfl ⟨rfl, ?_⟩
      exact w_alloc (w_refl w) _

end Go.Proofs.YtflgmeajkflobaaDoor
