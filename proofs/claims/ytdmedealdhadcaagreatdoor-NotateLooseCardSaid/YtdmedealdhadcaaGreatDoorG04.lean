/- The numbers of mensurations, and the mensurations of numbers, of the program and of the reference. Texts of mensurations, of the program and of the reference. The map of the texts: what it holds; and what is read as a mensuration, of the program and of the reference. The texts of signs, and the signs of texts, as plain mathematics. Letters of values and values of letters, of the program and of the reference; the reference's digits and first bytes. -/
import Derived.Test.YtdmedealdhadcaaGreatDoorG03
import Derived.Test.YtdmedealdhadcaaGreatDoorShelf
import Derived.Maps.OwnSet
import Derived.Maps.OwnOps
import Derived.Lib.ItoaNum

namespace Go.Proofs.YtdmedealdhadcaaGreatDoor
open Go.RowKit
/-- Four cells are stored. -/
theorem mens_put {w1 : World} {b : Nat} {t : TypeId} {x0 x1 x2 x3 : Value} (h : HoldsB w1 b t #[x0, x1, x2, x3]) (A B C D : Value) :
    (w1.setCell ⟨b, 0, none⟩ A).cell? ⟨b, 0, none⟩ = some A ∧ ((w1.setCell ⟨b, 0, none⟩ A).setCell ⟨b, 1, none⟩ B).cell? ⟨b, 1, none⟩ = some B ∧
    (((w1.setCell ⟨b, 0, none⟩ A).setCell ⟨b, 1, none⟩ B).setCell ⟨b, 2, none⟩ C).cell? ⟨b, 2, none⟩ = some C ∧
    ((((w1.setCell ⟨b, 0, none⟩ A).setCell ⟨b, 1, none⟩ B).setCell ⟨b, 2, none⟩ C).setCell ⟨b, 3, none⟩ D).cell? ⟨b, 3, none⟩ = some D := by
  have h0 := h.set 0 A
  have h1 := h0.set 1 B
  have h2 := h1.set 2 C
  have h3 := h2.set 3 D
  exact ⟨h0.cell rfl, h1.cell rfl, h2.cell rfl, h3.cell rfl⟩
theorem toMens_any (q : Q4) (w : World) : Calls Tryz.prog 186 #[mv q] w fun e w' => e = .returned (mv q) ∧ Below w.heap.size w w' := by
  obtain ⟨a, b, c, d⟩ := q
  go_enter Tryz.func186, Tryz.ntmps186
  go_wp2_with fail
  refine bodyPost_ret (v := mv (a, b, c, d)) (by simp [results, Tryz.results186, go_sem]) rfl ⟨rfl, ?_⟩
  exact w_alloc (w_alloc (w_refl w) _) _
set_option maxHeartbeats 4000000 in
theorem numsAt_any (n : Int) (hn : 0 ≤ n ∧ n ≤ 15) (w : World) : Calls Tryz.prog 196 #[.int .i64 n] w fun e w' => e = .returned (mv (ofN n)) ∧ Below w.heap.size w w' := by
  have hR := Lib.hid (show (2 + n / 2 / 2 / 2 % 2, 2 + n / 2 / 2 % 2, 2 + n / 2 % 2, 2 + n % 2) = ofN n by
    unfold ofN
    rw [show n / 2 / 2 / 2 % 2 = n / 8 by omega, show n / 2 / 2 % 2 = n / 4 % 2 by omega])
  have r0 := Lib.hid (HoldsB.new w 155 #[.int .i64 0, .int .i64 0, .int .i64 0, .int .i64 0])
  have r1 := Lib.hid (HoldsB.new (w.alloc (nO (0, 0, 0, 0))) 155 #[.int .i64 0, .int .i64 0, .int .i64 0, .int .i64 0])
  rw [World.size_alloc] at r1
  have r2 := Lib.hid (r0.out.al (nO (0, 0, 0, 0)))
  have rb := Lib.hid (w_alloc (w_alloc (w_refl w) (nO (0, 0, 0, 0))) (nO (0, 0, 0, 0)))
  clear r0
  go_enter Tryz.func196, Tryz.ntmps196
  go_wp2_with fail
  go_loopw [0, 4] (fun s0 s4 wr => ∃ m A B C D : Int, (∃ k : Nat, k ≤ 4 ∧ s4 = .int .i64 (3 - (k : Int)) ∧ s0 = .int .i64 m ∧ ((k = 0 ∧ m = n ∧ Hid (A = 0 ∧ B = 0 ∧ C = 0 ∧ D = 0)) ∨ (k = 1 ∧ m = n / 2 ∧ Hid (A = 0 ∧ B = 0 ∧ C = 0 ∧ D = 2 + n % 2)) ∨ (k = 2 ∧ m = n / 2 / 2 ∧ Hid (A = 0 ∧ B = 0 ∧ C = 2 + n / 2 % 2 ∧ D = 2 + n % 2)) ∨ (k = 3 ∧ m = n / 2 / 2 / 2 ∧ Hid (A = 0 ∧ B = 2 + n / 2 / 2 % 2 ∧ C = 2 + n / 2 % 2 ∧ D = 2 + n % 2)) ∨ (k = 4 ∧ Hid ((A, B, C, D) = ofN n)))) ∧
      Hid (HoldsB wr w.heap.size 155 #[.int .i64 0, .int .i64 0, .int .i64 0, .int .i64 0]) ∧ Hid (HoldsB wr (w.heap.size + 1) 155 #[.int .i64 A, .int .i64 B, .int .i64 C, .int .i64 D]) ∧ Hid (Below w.heap.size w wr)) (fun _ s4 _ => (intOf s4 + 1).toNat)
  case atStart => exact ⟨n, 0, 0, 0, 0, ⟨0, by omega, rfl, rfl, .inl ⟨rfl, rfl, Lib.hid ⟨rfl, rfl, rfl, rfl⟩⟩⟩, r2, r1, rb⟩
  case round =>
    clear r2 r1 rb
    obtain ⟨m, A, B, C, D, ⟨k, hk, rfl, rfl, hc⟩, h0, h1, hbr⟩ := hrel
    have l0 := h1.out.cell (j := 0) rfl
    have l1 := h1.out.cell (j := 1) rfl
    have l2 := h1.out.cell (j := 2) rfl
    have l3 := h1.out.cell (j := 3) rfl
    have lf := h1.out.frozen
    rcases hc with ⟨rfl, rfl, he⟩ | ⟨rfl, rfl, he⟩ | ⟨rfl, rfl, he⟩ | ⟨rfl, rfl, he⟩ | ⟨rfl, he⟩
    · obtain ⟨rfl, rfl, rfl, rfl⟩ := he.out
      clear he hR
      go_wp2_with fail
      go_roundw
      case rel => exact ⟨_, 0, 0, 0, 2 + m % 2, ⟨1, by omega, rfl, rfl, .inr (.inl ⟨rfl, rfl, Lib.hid ⟨rfl, rfl, rfl, rfl⟩⟩)⟩, Lib.hid (h0.out.other (by omega) 3 _), Lib.hid (h1.out.set 3 _), Lib.hid (w_put hbr.out (by omega) 3 _)⟩
      case measure => simp [intOf]
    · obtain ⟨rfl, rfl, rfl, rfl⟩ := he.out
      clear he hR
      have z : 0 ≤ n / 2 ∧ n / 2 ≤ 7 := by omega
      go_wp2_with fail
      go_roundw
      case rel => exact ⟨_, 0, 0, 2 + n / 2 % 2, _, ⟨2, by omega, rfl, rfl, .inr (.inr (.inl ⟨rfl, rfl, Lib.hid ⟨rfl, rfl, rfl, rfl⟩⟩))⟩, Lib.hid (h0.out.other (by omega) 2 _), Lib.hid (h1.out.set 2 _), Lib.hid (w_put hbr.out (by omega) 2 _)⟩
      case measure => simp [intOf]
    · obtain ⟨rfl, rfl, rfl, rfl⟩ := he.out
      clear he hR
      have z : 0 ≤ n / 2 / 2 ∧ n / 2 / 2 ≤ 7 := by omega
      go_wp2_with fail
      go_roundw
      case rel => exact ⟨_, 0, 2 + n / 2 / 2 % 2, _, _, ⟨3, by omega, rfl, rfl, .inr (.inr (.inr (.inl ⟨rfl, rfl, Lib.hid ⟨rfl, rfl, rfl, rfl⟩⟩)))⟩, Lib.hid (h0.out.other (by omega) 1 _), Lib.hid (h1.out.set 1 _), Lib.hid (w_put hbr.out (by omega) 1 _)⟩
      case measure => simp [intOf]
    · obtain ⟨rfl, rfl, rfl, rfl⟩ := he.out
      clear he
      have z : 0 ≤ n / 2 / 2 / 2 ∧ n / 2 / 2 / 2 ≤ 7 := by omega
      go_wp2_with fail
      go_roundw
      case rel => exact ⟨_, 2 + n / 2 / 2 / 2 % 2, _, _, _, ⟨4, by omega, rfl, rfl, .inr (.inr (.inr (.inr ⟨rfl, hR⟩)))⟩, Lib.hid (h0.out.other (by omega) 0 _), Lib.hid (h1.out.set 0 _), Lib.hid (w_put hbr.out (by omega) 0 _)⟩
      case measure => simp [intOf]
    · clear hR
      obtain ⟨d0, d1, d2, d3⟩ := mens_put h0.out (.int .i64 A) (.int .i64 B) (.int .i64 C) (.int .i64 D)
      have e0 := h0.out.cell (j := 0) rfl
      have e1 := h0.out.cell (j := 1) rfl
      have e2 := h0.out.cell (j := 2) rfl
      have e3 := h0.out.cell (j := 3) rfl
      have ef := h0.out.frozen
      go_wp2_with fail
      refine bodyPost_ret (v := mv (A, B, C, D)) (by simp [results, Tryz.results196, go_sem, d0, d1, d2, d3]) rfl ⟨congrArg (fun q : Q4 => Ending.returned (mv q)) he.out, ?_⟩
      exact w_put (w_put (w_put (w_put hbr.out (by omega) _ _) (by omega) _ _) (by omega) _ _) (by omega) _ _
abbrev mev (q : Q4) (e : Int) : Value := .tuple #[mv q, .int .i64 e]
end Go.Proofs.YtdmedealdhadcaaGreatDoor

namespace Go.Proofs.YtdmedealdhadcaaGreatDoor
open Go.RowKit
def texL (q : Q4) : List UInt8 :=
  (if q.1 = 3 ∨ q.2.1 = 3 then [48 + UInt8.ofNat q.1.toNat, 48 + UInt8.ofNat q.2.1.toNat] else []) ++ (if q.2.2.1 = 3 then [79] else [67]) ++ (if q.2.2.2 = 3 then [46] else [])
def texB (q : Q4) : ByteArray := ⟨(texL q).toArray⟩
def texS (q : Q4) : ByteArray := if okM q then texB q else ⟨#[]⟩
theorem texS_ok {q : Q4} (h : okM q) : texS q = texB q := if_pos h
theorem texS_no {q : Q4} (h : ¬ okM q) : texS q = ⟨#[]⟩ := if_neg h
def TexPost (q : Q4) (w : World) (e : Ending) (w' : World) : Prop := e = .returned (.tuple #[.string (texS q), .int .i64 (chkM q)]) ∧ Below w.heap.size w w'
theorem itoa2 (w : World) : Calls Tryz.prog 172 #[.int .i64 2] w fun e w' => e = .returned (.string ⟨#[50]⟩) ∧ w = w' := by
  have h := Tryz.strconv_Itoa_small 2 (by omega) w
  rw [show Lib.decDigits 2 = [50] by decide +kernel] at h
  exact h.mono fun e w' ⟨he, hw⟩ => ⟨he, hw.symm⟩
theorem itoa3 (w : World) : Calls Tryz.prog 172 #[.int .i64 3] w fun e w' => e = .returned (.string ⟨#[51]⟩) ∧ w = w' := by
  have h := Tryz.strconv_Itoa_small 3 (by omega) w
  rw [show Lib.decDigits 3 = [51] by decide +kernel] at h
  exact h.mono fun e w' ⟨he, hw⟩ => ⟨he, hw.symm⟩
theorem ab_of {q : Q4} (h : okM q) : ((q.1 = 2 ∧ q.2.1 = 2) ∨ (q.1 = 2 ∧ q.2.1 = 3) ∨ (q.1 = 3 ∧ q.2.1 = 2) ∨ (q.1 = 3 ∧ q.2.1 = 3)) ∧ (q.2.2.1 = 2 ∨ q.2.2.1 = 3) ∧ (q.2.2.2 = 2 ∨ q.2.2.2 = 3) := by
  obtain ⟨h1, h2, h3, h4⟩ := h
  unfold two at *
  omega
set_option maxRecDepth 100000 in
set_option maxHeartbeats 4000000 in
theorem ntext_any (q : Q4) (hq : okM q) (w : World) : Calls Tryz.prog 169 #[mv q] w fun e w' => e = .returned (.string (texB q)) ∧ Below w.heap.size w w' := by
  have K := Lib.hid (Cell4.made w q 155)
  have hB := Lib.hid (w_alloc (w_refl w) (nO q))
  have I2 := Lib.hid itoa2
  have I3 := Lib.hid itoa3
  obtain ⟨hab, hc, hd⟩ := ab_of hq
  clear hq
  obtain ⟨a, b, c, d⟩ := q
  simp only at hab hc hd
  rcases hab with ⟨rfl, rfl⟩ | ⟨rfl, rfl⟩ | ⟨rfl, rfl⟩ | ⟨rfl, rfl⟩
  · rcases hc with rfl | rfl <;> rcases hd with rfl | rfl
    all_goals
      go_enter Tryz.func169, Tryz.ntmps169
      go_wp2_with fail
      go_ret
      exact ⟨rfl, hB.out⟩
  · rcases hc with rfl | rfl <;> rcases hd with rfl | rfl
    all_goals
      obtain ⟨_, k0, k1, k2, k3, _, _, _, _⟩ := K.out
      go_enter Tryz.func169, Tryz.ntmps169
      go_wp2_with fail
      go_region_held3 (fun W => W.cell? ⟨w.heap.size, 0, none⟩ = some (.int .i64 2) ∧ W.cell? ⟨w.heap.size, 1, none⟩ = some (.int .i64 3))
        (first
          | exact ⟨k0, k1⟩
          | assumption)
        (first
          | (go_at_call 172; refine (I2.out _).mono ?_; rintro e wn ⟨rfl, rfl⟩)
          | (go_at_call 172; refine (I3.out _).mono ?_; rintro e wn ⟨rfl, rfl⟩)
          | fail)
      all_goals
        go_wp2_with fail
        go_ret
        exact ⟨rfl, hB.out.drew⟩
  · rcases hc with rfl | rfl <;> rcases hd with rfl | rfl
    all_goals
      obtain ⟨_, k0, k1, k2, k3, _, _, _, _⟩ := K.out
      go_enter Tryz.func169, Tryz.ntmps169
      go_wp2_with fail
      go_region_held3 (fun W => W.cell? ⟨w.heap.size, 0, none⟩ = some (.int .i64 3) ∧ W.cell? ⟨w.heap.size, 1, none⟩ = some (.int .i64 2))
        (first
          | exact ⟨k0, k1⟩
          | assumption)
        (first
          | (go_at_call 172; refine (I2.out _).mono ?_; rintro e wn ⟨rfl, rfl⟩)
          | (go_at_call 172; refine (I3.out _).mono ?_; rintro e wn ⟨rfl, rfl⟩)
          | fail)
      all_goals
        go_wp2_with fail
        go_ret
        exact ⟨rfl, hB.out.drew⟩
  · rcases hc with rfl | rfl <;> rcases hd with rfl | rfl
    all_goals
      obtain ⟨_, k0, k1, k2, k3, _, _, _, _⟩ := K.out
      go_enter Tryz.func169, Tryz.ntmps169
      go_wp2_with fail
      go_region_held3 (fun W => W.cell? ⟨w.heap.size, 0, none⟩ = some (.int .i64 3) ∧ W.cell? ⟨w.heap.size, 1, none⟩ = some (.int .i64 3))
        (first
          | exact ⟨k0, k1⟩
          | assumption)
        (first
          | (go_at_call 172; refine (I2.out _).mono ?_; rintro e wn ⟨rfl, rfl⟩)
          | (go_at_call 172; refine (I3.out _).mono ?_; rintro e wn ⟨rfl, rfl⟩)
          | fail)
      all_goals
        go_wp2_with fail
        go_ret
        exact ⟨rfl, hB.out.drew⟩
set_option maxRecDepth 100000 in
set_option maxHeartbeats 4000000 in
theorem text_any (q : Q4) (w : World) : Calls Tryz.prog 132 #[mv q] w (TexPost q w) := by
  have C := Lib.hid (fun W => mcheck_any q W)
  have K := Lib.hid (Cell4.made w q 23)
  unfold TexPost
  by_cases h : okM q
  · rw [texS_ok h, chkM_ok h]
    rw [chkM_ok h] at C
    have NU := Lib.hid (fun W => numsOf_any q W)
    have TX := Lib.hid (fun W => ntext_any q h W)
    clear h
    generalize texB q = s at *
    obtain ⟨a, b, c, d⟩ := q
    go_enter Tryz.func132, Tryz.ntmps132
    go_wp2_with fail
    refine (C.out _).mono ?_
    rintro e w1 ⟨rfl, hb⟩
    have hB := Lib.hid (w_below (w_alloc (w_refl w) (mO (a, b, c, d))) hb)
    obtain ⟨_, c0, c1, c2, c3, _, _, _, _⟩ := K.out.later hb
    clear hb C K
    go_wp2_with fail
    refine (NU.out _).mono ?_
    rintro e w2 ⟨rfl, hb⟩
    replace hB := Lib.hid (w_below hB.out hb)
    clear hb NU c0 c1 c2 c3
    go_wp2_with fail
    refine (TX.out _).mono ?_
    rintro e w3 ⟨rfl, hb⟩
    replace hB := Lib.hid (w_below hB.out hb)
    clear hb TX
    go_wp2_with fail
    go_ret2
    exact ⟨rfl, hB.out⟩
  · rw [texS_no h, chkM_no h]
    rw [chkM_no h] at C
    clear h
    obtain ⟨a, b, c, d⟩ := q
    go_enter Tryz.func132, Tryz.ntmps132
    go_wp2_with fail
    refine (C.out _).mono ?_
    rintro e w1 ⟨rfl, hb⟩
    have hB := Lib.hid (w_below (w_alloc (w_refl w) (mO (a, b, c, d))) hb)
    clear hb C K
    go_wp2_with fail
    go_ret2
    exact ⟨rfl, hB.out⟩
end Go.Proofs.YtdmedealdhadcaaGreatDoor

namespace Go.Proofs.YtdmedealdhadcaaGreatDoor
open Go.RowKit Go.Maps Go.WideMaps
/-- What a list of four numbers reads as. -/
def numElem {H : Type} : Value → Option (DataW H × List MemPlace)
  | .agg cs => match cs.toList with
    | [.int .i64 a, .int .i64 b, .int .i64 c, .int .i64 d] => some (.agg [.lit (.int .i64 a), .lit (.int .i64 b), .lit (.int .i64 c), .lit (.int .i64 d)], [])
    | _ => none
  | _ => none
def datQ {H : Type} (q : Q4) : DataW H := .agg [.lit (.int .i64 q.1), .lit (.int .i64 q.2.1), .lit (.int .i64 q.2.2.1), .lit (.int .i64 q.2.2.2)]
theorem numElem_mk {H : Type} (q : Q4) : numElem (H := H) (mv q) = some (datQ q, []) := rfl
theorem numElem_inv {H : Type} {v : Value} {q : Q4} {ps : List MemPlace} (h : numElem (H := H) v = some (datQ q, ps)) : v = mv q := by
  unfold numElem at h
  split at h
  · rename_i cs
    split at h
    · rename_i a b c d hcs
      simp only [Option.some.injEq, Prod.mk.injEq, datQ, DataW.agg.injEq, List.cons.injEq, DataW.lit.injEq, Lit.int.injEq, true_and, and_true] at h
      obtain ⟨⟨rfl, rfl, rfl, rfl⟩, _⟩ := h
      show Value.agg cs = Value.agg _
      congr 1
      apply Array.ext'
      rw [hcs]
    · cases h
  · cases h
def keyN (n : Nat) : Lit := .string (texL (ofN (n : Int)))
theorem tex_inj : ∀ i ∈ List.range 16, ∀ j ∈ List.range 16, texL (ofN ((i : Nat) : Int)) = texL (ofN ((j : Nat) : Int)) → i = j := by decide +kernel
theorem key_inj {i j : Nat} (hi : i < 16) (hj : j < 16) (h : keyN i = keyN j) : i = j := by
  injection h with h
  exact tex_inj i (List.mem_range.2 hi) j (List.mem_range.2 hj) h
def mapD {H : Type} : Nat → DataW H
  | 0 => .map []
  | k + 1 => (mapD k).put (keyN k) (datQ (ofN (k : Int)))
theorem mapD_map {H : Type} : ∀ k, IsMap (mapD (H := H) k)
  | 0 => isMap_empty
  | k + 1 => (mapD_map k).put _ _
theorem map_none {H : Type} {kl : Lit} (z : DataW H) : ∀ k, (∀ i, i < k → keyN i ≠ kl) → Maps.has (mapD (H := H) k) kl = false ∧ (mapD k).atKey kl z = z
  | 0, _ => ⟨rfl, rfl⟩
  | k + 1, h => by
    have ih := map_none z k (fun i hi => h i (by omega))
    have hne := (h k (by omega)).symm
    exact ⟨by show Maps.has ((mapD k).put _ _) kl = false; rw [has_put_other hne]; exact ih.1, by show ((mapD k).put _ _).atKey kl z = z; rw [atKey_put_other hne]; exact ih.2⟩
theorem map_some {H : Type} {n : Nat} (z : DataW H) : ∀ k, k ≤ 16 → n < k → Maps.has (mapD (H := H) k) (keyN n) = true ∧ (mapD k).atKey (keyN n) z = datQ (ofN (n : Int))
  | 0, _, h => by omega
  | k + 1, hk, h => by
    by_cases e : n = k
    · subst e
      exact ⟨has_put_same (mapD_map n) (by trivial) _, atKey_put_same (mapD_map n) (by trivial) _ _⟩
    · have ih := map_some z k (by omega) (show n < k by omega)
      have hne : keyN n ≠ keyN k := fun x => e (key_inj (by omega) (by omega) x)
      exact ⟨by show Maps.has ((mapD k).put _ _) _ = true; rw [has_put_other hne]; exact ih.1, by show ((mapD k).put _ _).atKey _ z = _; rw [atKey_put_other hne]; exact ih.2⟩
/-- The mensuration of a text, and the error. -/
def parF (s : ByteArray) : Option Nat := (List.range 16).find? (fun n : Nat => texL (ofN (n : Int)) == s.data.toList)
def parQ (s : ByteArray) : Q4 := match parF s with | some n => ofN (n : Int) | none => (0, 0, 0, 0)
def parE (s : ByteArray) : Int := match parF s with | some _ => 0 | none => 3
theorem parF_none {s : ByteArray} (h : ∀ i : Nat, i < 16 → texL (ofN (i : Int)) ≠ s.data.toList) : parF s = none := by
  unfold parF
  rw [List.find?_eq_none]
  intro i hi
  have := h i (List.mem_range.1 hi)
  simpa using this
theorem parF_some {s : ByteArray} {n : Nat} (hn : n < 16) (h : texL (ofN (n : Int)) = s.data.toList) : parF s = some n := by
  cases hf : parF s with
  | none =>
    unfold parF at hf
    rw [List.find?_eq_none] at hf
    exact absurd (by simpa using h) (hf n (List.mem_range.2 hn))
  | some m =>
    unfold parF at hf
    have h1 := List.find?_some hf
    have h2 := List.mem_of_find?_eq_some hf
    simp only [beq_iff_eq] at h1
    rw [tex_inj m h2 n (List.mem_range.2 hn) (h1.trans h.symm)]
theorem par_none {s : ByteArray} (h : ∀ i : Nat, i < 16 → texL (ofN (i : Int)) ≠ s.data.toList) : parQ s = (0, 0, 0, 0) ∧ parE s = 3 := by
  unfold parQ parE; rw [parF_none h]; exact ⟨rfl, rfl⟩
theorem par_some {s : ByteArray} {n : Nat} (hn : n < 16) (h : texL (ofN (n : Int)) = s.data.toList) : parQ s = ofN (n : Int) ∧ parE s = 0 := by
  unfold parQ parE; rw [parF_some hn h]; exact ⟨rfl, rfl⟩
theorem ofN_ok {n : Nat} (h : n < 16) : okM (ofN (n : Int)) := by
  have hall : ∀ n ∈ List.range 16, okM (ofN ((n : Nat) : Int)) := by decide
  exact hall n (List.mem_range.2 h)
def ParPost (s : ByteArray) (w : World) (e : Ending) (w' : World) : Prop := e = .returned (mev (parQ s) (parE s)) ∧ Below w.heap.size w w'
theorem law_key : Keyed Tryz.prog 9 := string_keyed Tryz.underlying9
theorem zero_nums (w : World) : (zeroValue 155).run Tryz.prog w = .ok (mv (0, 0, 0, 0)) w := by kernel_rfl
theorem tex_len {q : Q4} (h : okM q) : (texB q).size ≤ 4 := by
  have hall : ∀ q ∈ mensL, (texB q).size ≤ 4 := by decide +kernel
  exact hall q ((mens_iff q).2 h)
theorem step_store {H : Type} {P : Program} (w : World) {ops : Array Oper} {o : Oper} {a : Act} {K : Act → World → Prop} {Q : Exit → Act → World → Prop} {E : Prop} (hgd : o.guard = none)
    (m x v : Operand) (t : TypeId) (hop : o.op = Op.mapUpdate t m x v)
    (k e : TypeId) (Kd : Keyed P k) (ht : P.underlying t = some (.map k e)) (R : Value → Option (DataW H × List MemPlace)) (b n : Nat) (D : DataW H)
    (hm : a.eval m = .map (some b)) (hown : w.ownsMap P k R b n D) (hn : n < maxLen) (key val : Value) (kl : Lit) (hx : a.eval x = key) (hv : a.eval v = val) (hkey : keyOf P k key = some kl)
    (d : DataW H) (ps : List MemPlace) (hval : R val = some (d, ps))
    (hK : ∀ w', w'.ownsMap P k R b (n + 1) (D.put kl d) → w.grownBy w' (some b) → K (a.put o.dst undef) w') :
    if Region.wanted o (yielded ops a.tmps) = true then Oper.wp P o a w K Q else E := by
  have hw : Region.wanted o (yielded ops a.tmps) = true := by simp [Region.wanted, hgd]
  rw [if_pos hw]
  obtain ⟨w', hrun, r1, r2⟩ := hown.update Kd ht hn hkey hval
  unfold Oper.wp
  simp [execOp, hop, hm, hx, hv, hrun, Result.andThen]
  exact hK w' r1 r2
set_option maxRecDepth 100000 in
set_option maxHeartbeats 4000000 in
theorem byText_any (w : World) : Calls Tryz.prog 185 #[] w fun e w' => e = .returned (.map (some w.heap.size)) ∧ w'.ownsMap Tryz.prog 9 (numElem (H := Unit)) w.heap.size 16 (mapD 16) ∧ Below w.heap.size w w' := by
  have hmm := @run_makeMap Tryz.prog
  have NA := Lib.hid (fun n hn W => numsAt_any n hn W)
  have M0 := Lib.hid (World.ownsMap_made w Tryz.prog 9 (numElem (H := Unit)))
  have hB := Lib.hid (w_alloc (w_refl w) (.map #[] 0))
  go_enter Tryz.func185, Tryz.ntmps185
  go_wp2_with fail
  go_loopw [5] (fun s5 wr => ∃ k : Nat, k ≤ 16 ∧ s5 = .int .i64 k ∧ Hid (wr.ownsMap Tryz.prog 9 (numElem (H := Unit)) w.heap.size k (mapD k)) ∧ Hid (Below w.heap.size w wr)) (fun s5 _ => (16 - intOf s5).toNat)
  case atStart => exact ⟨0, by omega, rfl, M0, hB⟩
  case round =>
    clear hB M0
    obtain ⟨k, hk, rfl, hM, hbr⟩ := hrel
    by_cases hlt : k < 16
    · have hlt' : (k : Int) < 16 := by omega
      have N1 := Lib.hid (fun W => NA.out (k : Int) (by omega) W)
      have hq := ofN_ok hlt
      have TX := Lib.hid (fun W => ntext_any (ofN (k : Int)) hq W)
      have hkey := keyOf_string_mk (k := 9) Tryz.underlying9 (s := texB (ofN (k : Int))) (by have := tex_len hq; unfold maxLen; omega)
      rw [show (texB (ofN (k : Int))).data.toList = texL (ofN (k : Int)) by simp [texB]] at hkey
      have HK := Lib.hid hkey
      have hD := Lib.hid (show (mapD (H := Unit) k).put (.string (texL (ofN (k : Int)))) (datQ (ofN (k : Int))) = mapD (k + 1) from rfl)
      clear hkey hq NA
      generalize texB (ofN (k : Int)) = tb at *
      generalize texL (ofN (k : Int)) = tl at *
      generalize ofN (k : Int) = q at *
      have hval := Lib.hid (numElem_mk (H := Unit) q)
      obtain ⟨a, b, c, d⟩ := q
      go_wp2_with fail
      refine (N1.out _).mono ?_
      rintro e w1 ⟨rfl, hb⟩
      have hB1 := Lib.hid (w_alloc (w_below hbr.out hb) (nO (a, b, c, d)))
      have hM1 := Lib.hid (show World.ownsMap (w1.alloc (nO (a, b, c, d))) Tryz.prog 9 (numElem (H := Unit)) w.heap.size k (mapD k) from (hM.out.kept (row := none) ⟨hb.os, hb.tape, hb.output, hb.size, fun i hi _ => hb.block i hi⟩ (by simp)).alloc _)
      have hN1 := Lib.hid (HoldsB.new w1 155 #[.int .i64 a, .int .i64 b, .int .i64 c, .int .i64 d])
      have hlt1 := (hM.out.kept (w' := w1) (row := none) ⟨hb.os, hb.tape, hb.output, hb.size, fun i hi _ => hb.block i hi⟩ (by simp)).lt
      clear hb N1
      go_wp2_with fail
      refine wp_region_held (S := fun W => W.cell? ⟨w1.heap.size, 0, none⟩ = some (.int .i64 a) ∧ W.cell? ⟨w1.heap.size, 1, none⟩ = some (.int .i64 b) ∧ W.cell? ⟨w1.heap.size, 2, none⟩ = some (.int .i64 c) ∧ W.cell? ⟨w1.heap.size, 3, none⟩ = some (.int .i64 d)) (by kernel_rfl) ?_
      change wpAnyH _ _ _ _ _ _ _ _ (World.drew _)
      have hN2 := Lib.hid (show HoldsB (World.drew (w1.alloc (nO (a, b, c, d)))) w1.heap.size 155 #[.int .i64 a, .int .i64 b, .int .i64 c, .int .i64 d] from hN1.out)
      have hM2 := Lib.hid hM1.out.drew
      have hB2 := Lib.hid hB1.out.drew
      clear hN1 hM1 hB1
      generalize hw0 : World.drew (w1.alloc (nO (a, b, c, d))) = w0 at *
      clear hw0
      have c0 := hN2.out.cell (j := 0) rfl
      have c1 := hN2.out.cell (j := 1) rfl
      have c2 := hN2.out.cell (j := 2) rfl
      have c3 := hN2.out.cell (j := 3) rfl
      refine wpAnyH_take (i := 0) (v := .map (some w.heap.size)) rfl (by kernel_rfl) (by kernel_rfl) (by kernel_rfl) (fun _ _ _ h => h) (Or.inl ⟨by kernel_rfl, fun _ _ => by go_simp⟩) ⟨c0, c1, c2, c3⟩ ?_
      refine wpAnyH_take (i := 1) (v := mv (a, b, c, d)) rfl (by kernel_rfl) (by kernel_rfl) (by kernel_rfl) (fun _ _ _ h => h) (Or.inl ⟨by kernel_rfl, fun W hW => by (obtain ⟨hA, hB, hC, hD⟩ := hW; go_simp)⟩) ⟨c0, c1, c2, c3⟩ ?_
      refine wpAnyH_take (i := 3) (v := mv (a, b, c, d)) rfl (by kernel_rfl) (by kernel_rfl) (by kernel_rfl) (fun _ _ _ h => h) (Or.inl ⟨by kernel_rfl, fun W hW => by (obtain ⟨hA, hB, hC, hD⟩ := hW; go_simp)⟩) ⟨c0, c1, c2, c3⟩ ?_
      refine wpAnyH_ready (rs := [2]) (by kernel_rfl) (by simp) ?_
      refine AllReadyH.cons rfl (fun K hK => ?_) AllReadyH.nil
      rw [if_pos (by kernel_rfl)]
      go_simp
      go_at_call 169
      refine (TX.out _).mono ?_
      rintro e w2 ⟨rfl, hb⟩
      have hN3 := Lib.hid (hN2.out.later hb)
      have hM3 := Lib.hid (hM2.out.kept (w' := w2) (row := none) ⟨hb.os, hb.tape, hb.output, hb.size, fun i hi _ => hb.block i hi⟩ (by simp))
      have hB3 := Lib.hid (w_below hB2.out hb)
      clear hb TX c0 c1 c2 c3 hN2 hM2 hB2
      have c0 := hN3.out.cell (j := 0) rfl
      have c1 := hN3.out.cell (j := 1) rfl
      have c2 := hN3.out.cell (j := 2) rfl
      have c3 := hN3.out.cell (j := 3) rfl
      go_simp
      refine hK.out _ _ ⟨c0, c1, c2, c3⟩ (fun _ => ?_)
      clear hK K
      refine wpAnyH_ready (rs := [4]) (by kernel_rfl) (by simp) ?_
      refine AllReadyH.cons rfl (fun K hK => ?_) AllReadyH.nil
      refine step_store (H := Unit) _ rfl (.tmp 10) (.tmp 12) (.tmp 13) 197 rfl 9 155 law_key Tryz.underlying197 numElem w.heap.size k (mapD k) (by kernel_rfl) hM3.out (by unfold maxLen; omega) (.string tb) (mv (a, b, c, d)) (.string tl) (by kernel_rfl) (by kernel_rfl) HK.out _ [] hval.out ?_
      intro w3 hown hgrow
      have hN4 := Lib.hid (hN3.out.kept hgrow (by intro e; injection e with e; omega))
      have hM4 := Lib.hid (show w3.ownsMap Tryz.prog 9 (numElem (H := Unit)) w.heap.size (k + 1) (mapD (k + 1)) by rw [← hD.out]; exact hown)
      have hB4 := Lib.hid (hB3.out.grown hgrow hB3.out.size (fun g hg => by cases hg; exact Nat.le_refl _))
      clear hown hgrow c0 c1 c2 c3 hN3 hM3 hB3
      have c0 := hN4.out.cell (j := 0) rfl
      have c1 := hN4.out.cell (j := 1) rfl
      have c2 := hN4.out.cell (j := 2) rfl
      have c3 := hN4.out.cell (j := 3) rfl
      refine hK.out _ _ ⟨c0, c1, c2, c3⟩ (fun _ => ?_)
      clear hK K
      refine wpAnyH_done (by kernel_rfl) ?_ _
      clear c0 c1 c2 c3
      go_wp2_with fail
      go_roundw
      case rel => exact ⟨k + 1, by omega, by go_num, hM4, hB4⟩
      case measure => simp [intOf]; omega
    · obtain rfl : k = 16 := by omega
      clear NA
      go_wp2_with fail
      go_ret
      exact ⟨rfl, hM.out, hbr.out⟩
theorem numElem_zero {H : Type} : numElem (H := H) (mv (0, 0, 0, 0)) = some (datQ (0, 0, 0, 0), []) := rfl
set_option maxRecDepth 100000 in
set_option maxHeartbeats 4000000 in
theorem parse_any (s : ByteArray) (hs : s.size ≤ maxLen) (w : World) : Calls Tryz.prog 171 #[.string s] w (ParPost s w) := by
  unfold ParPost
  have BT := Lib.hid (fun W => byText_any W)
  have r0 := Lib.hid (HoldsB.new w 23 #[.int .i64 0, .int .i64 0, .int .i64 0, .int .i64 0])
  have hkey := keyOf_string_mk (k := 9) Tryz.underlying9 hs
  by_cases h : ∃ n : Nat, n < 16 ∧ texL (ofN (n : Int)) = s.data.toList
  · obtain ⟨n, hn, ht⟩ := h
    obtain ⟨e1, e2⟩ := par_some hn ht
    rw [e1, e2]
    rw [← ht] at hkey
    obtain ⟨hh, hat⟩ := map_some (H := Unit) (n := n) (datQ (0, 0, 0, 0)) 16 (by omega) hn
    unfold keyN at hh hat
    have HH := Lib.hid hh
    have HAT := Lib.hid hat
    clear ht hn e1 e2 hs hh hat
    generalize texL (ofN (n : Int)) = tl at *
    generalize ofN (n : Int) = q at *
    have TM := Lib.hid (fun W => toMens_any q W)
    go_enter Tryz.func171, Tryz.ntmps171
    go_wp2_with fail
    refine (BT.out _).mono ?_
    rintro e w1 ⟨rfl, hM, hb⟩
    have hB := Lib.hid (w_below (w_alloc (w_refl w) (mO (0, 0, 0, 0))) hb)
    replace r0 := Lib.hid (r0.out.later hb)
    have HM := Lib.hid hM
    clear hb hM BT
    obtain ⟨v, ps, hrun, hv⟩ := HM.out.look_ok law_key Tryz.underlying197 (zero_nums w1) (numElem_zero (H := Unit)) hkey
    rw [HAT.out] at hv
    rw [HH.out] at hrun
    obtain rfl := numElem_inv hv
    clear hv HM HAT HH hkey
    rw [World.size_alloc] at hrun
    obtain ⟨a, b, c, d⟩ := q
    go_wp2_with fail
    refine (TM.out _).mono ?_
    rintro e w2 ⟨rfl, hb⟩
    have hB2 := Lib.hid (w_below (w_alloc hB.out _) hb)
    have r1 := Lib.hid ((r0.out.al _).later hb)
    clear hb TM hB r0 hrun
    obtain ⟨d0, d1, d2, d3⟩ := mens_put r1.out (.int .i64 a) (.int .i64 b) (.int .i64 c) (.int .i64 d)
    have e0 := r1.out.cell (j := 0) rfl
    have e1 := r1.out.cell (j := 1) rfl
    have e2 := r1.out.cell (j := 2) rfl
    have e3 := r1.out.cell (j := 3) rfl
    have ef := r1.out.frozen
    go_wp2_with fail
    refine bodyPost_ret (v := mev (a, b, c, d) 0) (by simp [results, Tryz.results171, go_sem, d0, d1, d2, d3]) rfl ⟨rfl, ?_⟩
    exact w_put (w_put (w_put (w_put hB2.out (by omega) _ _) (by omega) _ _) (by omega) _ _) (by omega) _ _
  · have hall : ∀ i : Nat, i < 16 → texL (ofN (i : Int)) ≠ s.data.toList := fun i hi e => h ⟨i, hi, e⟩
    obtain ⟨e1, e2⟩ := par_none hall
    rw [e1, e2]
    obtain ⟨hh, hat⟩ := map_none (H := Unit) (kl := .string s.data.toList) (datQ (0, 0, 0, 0)) 16 (fun i hi e => by unfold keyN at e; injection e with e; exact hall i hi e)
    have HH := Lib.hid hh
    have HAT := Lib.hid hat
    clear hall h e1 e2 hs hh hat
    go_enter Tryz.func171, Tryz.ntmps171
    go_wp2_with fail
    refine (BT.out _).mono ?_
    rintro e w1 ⟨rfl, hM, hb⟩
    have hB := Lib.hid (w_below (w_alloc (w_refl w) (mO (0, 0, 0, 0))) hb)
    replace r0 := Lib.hid (r0.out.later hb)
    have HM := Lib.hid hM
    clear hb hM BT
    obtain ⟨v, ps, hrun, hv⟩ := HM.out.look_ok law_key Tryz.underlying197 (zero_nums w1) (numElem_zero (H := Unit)) hkey
    rw [HAT.out] at hv
    rw [HH.out] at hrun
    obtain rfl := numElem_inv hv
    clear hv HM HAT HH hkey
    rw [World.size_alloc] at hrun
    have r1 := Lib.hid (r0.out.al (nO (0, 0, 0, 0)))
    have hB2 := Lib.hid (w_alloc hB.out (nO (0, 0, 0, 0)))
    obtain ⟨d0, d1, d2, d3⟩ := mens_put r1.out (.int .i64 0) (.int .i64 0) (.int .i64 0) (.int .i64 0)
    have e0 := r1.out.cell (j := 0) rfl
    have e1 := r1.out.cell (j := 1) rfl
    have e2 := r1.out.cell (j := 2) rfl
    have e3 := r1.out.cell (j := 3) rfl
    have ef := r1.out.frozen
    go_wp2_with fail
    refine bodyPost_ret (v := mev (0, 0, 0, 0) 3) (by simp [results, Tryz.results171, go_sem, d0, d1, d2, d3]) rfl ⟨rfl, ?_⟩
    exact w_put (w_put (w_put (w_put hB2.out (by omega) _ _) (by omega) _ _) (by omega) _ _) (by omega) _ _
end Go.Proofs.YtdmedealdhadcaaGreatDoor

namespace Go.Proofs.YtdmedealdhadcaaGreatDoor
open Go.RowKit
/-! ### The texts -/
def letL : List UInt8 := [88, 76, 66, 83, 77, 81, 70, 90]
def letV (v : Int) : List UInt8 := if 1 ≤ v ∧ v ≤ 8 then [letL.getD (v - 1).toNat 0] else []
def letE (v : Int) : Int := if 1 ≤ v ∧ v ≤ 8 then 0 else 2
def valC (c : UInt8) : Int := if c = 88 then 1 else if c = 76 then 2 else if c = 66 then 3 else if c = 83 then 4 else if c = 77 then 5 else if c = 81 then 6 else if c = 70 then 7 else if c = 90 then 8 else 0
def accL (a : Int) : List UInt8 := if a = -1 then [98] else if a = 1 then [35] else if a = 2 then [110] else []
def stemL (a : Int) : List UInt8 := if a = 1 then [94] else if a = 2 then [118] else if a = 3 then [62] else []
def mkL (b : Bool) (c : UInt8) : List UInt8 := if b then [c] else []
def headL (s : Sg) : List UInt8 := Lib.itoa s.place ++ accL s.acc ++ mkL s.col 42
def clfL (a : Int) : List UInt8 := if a = 0 then [67] else if a = 3 then [70] else if a = 4 then [71] else []
def turnL : List UInt8 := [116, 117, 114, 110]
def sigL : List UInt8 := [115, 105, 103]
/-- The text of a sign of a kind. -/
def wordK : Nat → Sg → List UInt8
  | 1, s => letV s.val ++ headL s
  | 2, s => 114 :: letV s.val
  | 3, _ => [46]
  | 4, s => 116 :: (headL s ++ stemL s.stem ++ mkL s.obl 126 ++ mkL s.last 33)
  | 5, s => 40 :: (texL (mq s) ++ [41] ++ mkL s.stk 124)
  | 6, s => Lib.itoa s.n ++ [47] ++ Lib.itoa s.d
  | 7, s => 64 :: (clfL s.c0 ++ Lib.itoa s.c1)
  | 8, s => 38 :: Lib.itoa s.n
  | 9, _ => [91]
  | 10, s => 93 :: Lib.itoa s.n
  | 11, _ => turnL
  | 12, _ => sigL
  | _, _ => []
def wordT (s : Sg) : List UInt8 := wordK s.kind.toNat s
/-! ### Reading -/
abbrev Cu := List UInt8 × Sg
def dig (c : UInt8) : Bool := digitI c.toNat
def tk (m : UInt8) (l : List UInt8) : Option (List UInt8) := match l with
  | c :: t => if c = m then some t else none
  | [] => none
def rdTk (m : UInt8) (x : Cu) : Option Cu := (tk m x.1).map fun t => (t, x.2)
def opt (m : UInt8) (l : List UInt8) : Bool × List UInt8 := match tk m l with
  | some t => (true, t)
  | none => (false, l)
def signO (l : List UInt8) : Int × Bool :=
  if l.head? = some 45 then (match numberV (l.drop 1) with | none => (0, false) | some n => (-n, decide (0 < n)))
  else (match numberV l with | none => (0, false) | some n => (n, true))
def rdVal (x : Cu) : Option Cu := match x.1 with
  | c :: t => if valC c = 0 then none else some (t, { x.2 with val := valC c })
  | [] => none
/-- The bytes of a place, and what is behind them. -/
def plcT (l : List UInt8) : List UInt8 := if l.head? = some 45 then 45 :: (l.drop 1).takeWhile dig else l.takeWhile dig
def plcR (l : List UInt8) : List UInt8 := if l.head? = some 45 then (l.drop 1).dropWhile dig else l.dropWhile dig
def rdPlc (x : Cu) : Option Cu := if (signO (plcT x.1)).2 then some (plcR x.1, { x.2 with place := (signO (plcT x.1)).1 }) else none
def accR (l : List UInt8) : Int × List UInt8 := match tk 98 l with
  | some t => (-1, t)
  | none => match tk 35 l with
    | some t => (1, t)
    | none => match tk 110 l with
      | some t => (2, t)
      | none => (0, l)
def stemR (l : List UInt8) : Int × List UInt8 := match tk 94 l with
  | some t => (1, t)
  | none => match tk 118 l with
    | some t => (2, t)
    | none => match tk 62 l with
      | some t => (3, t)
      | none => (0, l)
def rdAcc (x : Cu) : Option Cu := some ((accR x.1).2, { x.2 with acc := (accR x.1).1 })
def rdCol (x : Cu) : Option Cu := some ((opt 42 x.1).2, { x.2 with col := (opt 42 x.1).1 })
def rdStem (x : Cu) : Option Cu := some ((stemR x.1).2, { x.2 with stem := (stemR x.1).1 })
def rdObl (x : Cu) : Option Cu := some ((opt 126 x.1).2, { x.2 with obl := (opt 126 x.1).1 })
def rdLast (x : Cu) : Option Cu := some ((opt 33 x.1).2, { x.2 with last := (opt 33 x.1).1 })
def rdStk (x : Cu) : Option Cu := some ((opt 124 x.1).2, { x.2 with stk := (opt 124 x.1).1 })
def rdN (x : Cu) : Option Cu := (numberV (x.1.takeWhile dig)).map fun n => (x.1.dropWhile dig, { x.2 with n := n })
def rdD (x : Cu) : Option Cu := (numberV (x.1.takeWhile dig)).map fun n => (x.1.dropWhile dig, { x.2 with d := n })
def rdLine (x : Cu) : Option Cu := (numberV (x.1.takeWhile dig)).map fun n => (x.1.dropWhile dig, { x.2 with c1 := n })
def rdStep (x : Cu) : Option Cu := match tk 67 x.1 with
  | some t => some (t, { x.2 with c0 := 0 })
  | none => match tk 70 x.1 with
    | some t => some (t, { x.2 with c0 := 3 })
    | none => match tk 71 x.1 with
      | some t => some (t, { x.2 with c0 := 4 })
      | none => none
def putM (q : Q4) (s : Sg) : Sg := { s with m0 := q.1, m1 := q.2.1, m2 := q.2.2.1, m3 := q.2.2.2 }
def upto (m : UInt8) : List UInt8 → List UInt8 × Option (List UInt8)
  | [] => ([], none)
  | c :: t => if c = m then ([], some t) else (c :: (upto m t).1, (upto m t).2)
def bytes (l : List UInt8) : ByteArray := ⟨l.toArray⟩
def rdMens (x : Cu) : Option Cu := (tk 40 x.1).bind fun t => (upto 41 t).2.bind fun r => if parE (bytes (upto 41 t).1) = 0 then some (r, putM (parQ (bytes (upto 41 t).1)) x.2) else none
def rdLit : List UInt8 → Cu → Option Cu
  | [], x => some x
  | m :: ms, x => (rdTk m x).bind (rdLit ms)
def rdC (k : Nat) (x : Cu) : Option Cu := match k with
  | 1 => (((rdVal x).bind rdPlc).bind rdAcc).bind rdCol
  | 2 => (rdTk 114 x).bind rdVal
  | 3 => rdLit [46] x
  | 4 => ((((((rdTk 116 x).bind rdPlc).bind rdAcc).bind rdCol).bind rdStem).bind rdObl).bind rdLast
  | 5 => (rdMens x).bind rdStk
  | 6 => ((rdN x).bind (rdTk 47)).bind rdD
  | 7 => ((rdTk 64 x).bind rdStep).bind rdLine
  | 8 => (rdTk 38 x).bind rdN
  | 9 => rdLit [91] x
  | 10 => (rdTk 93 x).bind rdN
  | 11 => rdLit turnL x
  | 12 => rdLit sigL x
  | _ => none
def kS (k : Nat) : Sg := { zS with kind := (k : Int) }
def whole (o : Option Cu) : Option Sg := o.bind fun x => if x.1 = [] then some x.2 else none
def rdK (k : Nat) (l : List UInt8) : Option Sg := whole (rdC k (l, kS k))
/-- The kind by the first byte. -/
def kindOf : List UInt8 → Nat
  | [] => 0
  | c :: t => if valC c ≠ 0 then 1 else if c = 114 then 2 else if c = 46 then 3 else if c = 116 then (if t = [117, 114, 110] then 11 else 4) else if c = 40 then 5 else if dig c then 6
    else if c = 64 then 7 else if c = 38 then 8 else if c = 91 then 9 else if c = 93 then 10 else if c = 115 then 12 else 0
/-- The sign like whose text a word is built. -/
def readS (l : List UInt8) : Option Sg := rdK (kindOf l) l
/-- The sign of a word, and the error. -/
def signV (l : List UInt8) : Sg × Int := match readS l with
  | none => (zS, 3)
  | some s => if oneE s = 0 then (s, 0) else (zS, oneE s)
/-! ### Which kind -/
theorem tk_some {m : UInt8} {l t : List UInt8} (h : tk m l = some t) : l = m :: t := by
  unfold tk at h
  split at h
  · split at h
    · rename_i e; rw [e]; simp at h; rw [h]
    · cases h
  · cases h
theorem tk_cons (m : UInt8) (t : List UInt8) : tk m (m :: t) = some t := by unfold tk; simp
theorem tk_no {m c : UInt8} (h : c ≠ m) (t : List UInt8) : tk m (c :: t) = none := by unfold tk; simp [h]
theorem valC_digits : ∀ c : UInt8, dig c = true → valC c = 0 ∧ c ≠ 114 ∧ c ≠ 46 ∧ c ≠ 116 ∧ c ≠ 40 := by
  have h : ∀ n, n < 256 → dig (UInt8.ofNat n) = true → valC (UInt8.ofNat n) = 0 ∧ UInt8.ofNat n ≠ 114 ∧ UInt8.ofNat n ≠ 46 ∧ UInt8.ofNat n ≠ 116 ∧ UInt8.ofNat n ≠ 40 := by decide +kernel
  intro c hc
  have := h c.toNat c.toNat_lt
  rw [show UInt8.ofNat c.toNat = c by simp] at this
  exact this hc
theorem kind_val {c : UInt8} (h : valC c ≠ 0) (t : List UInt8) : kindOf (c :: t) = 1 := if_pos h
theorem kind_dig {c : UInt8} (h : dig c = true) (t : List UInt8) : kindOf (c :: t) = 6 := by
  obtain ⟨h0, h1, h2, h3, h4⟩ := valC_digits c h
  simp [kindOf, h0, h1, h2, h3, h4, h]
theorem numberV_take {l : List UInt8} {n : Int} (h : numberV (l.takeWhile dig) = some n) : ∃ c t, l = c :: t ∧ dig c = true := by
  cases l with
  | nil => simp [numberV] at h
  | cons c t =>
    refine ⟨c, t, rfl, ?_⟩
    cases hd : dig c with
    | true => rfl
    | false => simp [List.takeWhile, hd, numberV] at h
theorem rdK_kind {k : Nat} {l : List UInt8} {s : Sg} (h : rdK k l = some s) : k = kindOf l := by
  unfold rdK whole at h
  rw [Option.bind_eq_some_iff] at h
  obtain ⟨x, hx, hw⟩ := h
  split at hw
  case isFalse => cases hw
  rename_i hnil
  have lit : ∀ {ms x y}, rdLit ms x = some y → x.1 = ms ++ y.1 := by
    intro ms
    induction ms with
    | nil => intro x y h; simp only [rdLit, Option.some.injEq] at h; rw [h]; rfl
    | cons m ms ih =>
      intro x y h
      simp only [rdLit, rdTk, Option.bind_eq_some_iff, Option.map_eq_some_iff] at h
      obtain ⟨z, ⟨t, ht, rfl⟩, hz⟩ := h
      have e : t = ms ++ y.1 := ih hz
      rw [tk_some ht, e]; rfl
  have first : ∀ {m : UInt8} {y : Cu}, rdTk m (l, kS k) = some y → l = m :: y.1 := by
    intro m y h
    simp only [rdTk, Option.map_eq_some_iff] at h
    obtain ⟨t, ht, rfl⟩ := h
    exact tk_some ht
  match k, hx with
  | 0, hx => cases hx
  | 1, hx =>
    simp only [rdC, Option.bind_eq_some_iff] at hx
    obtain ⟨z, ⟨y, ⟨v, hv, _⟩, _⟩, _⟩ := hx
    unfold rdVal at hv
    split at hv
    · rename_i c t e
      split at hv
      · cases hv
      · rename_i h0
        obtain rfl : l = c :: t := e
        exact (kind_val h0 t).symm
    · cases hv
  | 2, hx =>
    simp only [rdC, Option.bind_eq_some_iff] at hx
    obtain ⟨y, hy, _⟩ := hx
    rw [first hy]; rfl
  | 3, hx =>
    have e := lit hx
    rw [hnil] at e
    obtain rfl : l = [46] := e
    rfl
  | 4, hx =>
    simp only [rdC, Option.bind_eq_some_iff] at hx
    obtain ⟨_, ⟨_, ⟨_, ⟨_, ⟨_, ⟨y, hy, hp⟩, _⟩, _⟩, _⟩, _⟩, _⟩ := hx
    rw [first hy]
    show 4 = if y.1 = [117, 114, 110] then 11 else 4
    rw [if_neg]
    intro e
    unfold rdPlc at hp
    rw [e] at hp
    revert hp
    rw [show (signO (plcT [117, 114, 110])).2 = false by decide +kernel]
    simp
  | 5, hx =>
    simp only [rdC, rdMens, Option.bind_eq_some_iff] at hx
    obtain ⟨_, ⟨t, ht, _⟩, _⟩ := hx
    rw [tk_some ht]; rfl
  | 6, hx =>
    simp only [rdC, rdN, Option.bind_eq_some_iff, Option.map_eq_some_iff] at hx
    obtain ⟨_, ⟨_, ⟨n, hn, _⟩, _⟩, _⟩ := hx
    obtain ⟨c, t, rfl, hd⟩ := numberV_take hn
    exact (kind_dig hd t).symm
  | 7, hx =>
    simp only [rdC, Option.bind_eq_some_iff] at hx
    obtain ⟨_, ⟨y, hy, _⟩, _⟩ := hx
    rw [first hy]; rfl
  | 8, hx =>
    simp only [rdC, Option.bind_eq_some_iff] at hx
    obtain ⟨y, hy, _⟩ := hx
    rw [first hy]; rfl
  | 9, hx =>
    have e := lit hx
    rw [hnil] at e
    obtain rfl : l = [91] := e
    rfl
  | 10, hx =>
    simp only [rdC, Option.bind_eq_some_iff] at hx
    obtain ⟨y, hy, _⟩ := hx
    rw [first hy]; rfl
  | 11, hx =>
    have e := lit hx
    rw [hnil] at e
    obtain rfl : l = turnL := by simpa using e
    rfl
  | 12, hx =>
    have e := lit hx
    rw [hnil] at e
    obtain rfl : l = sigL := by simpa using e
    rfl
  | k + 13, hx => cases hx
/-- A kind that reads the word is the word's. -/
theorem read_of {k : Nat} {l : List UInt8} {s : Sg} (h : rdK k l = some s) : readS l = some s := by
  unfold readS; rw [← rdK_kind h]; exact h
theorem read_none {l : List UInt8} (h : ∀ k, 1 ≤ k → k ≤ 12 → rdK k l = none) : readS l = none := by
  unfold readS
  by_cases hk : 1 ≤ kindOf l ∧ kindOf l ≤ 12
  · exact h _ hk.1 hk.2
  · have : kindOf l = 0 ∨ 13 ≤ kindOf l := by omega
    rcases this with e | e
    · rw [e]; rfl
    · obtain ⟨j, hj⟩ : ∃ j, kindOf l = j + 13 := ⟨kindOf l - 13, by omega⟩
      rw [hj]; rfl
end Go.Proofs.YtdmedealdhadcaaGreatDoor

namespace Go.Proofs.YtdmedealdhadcaaGreatDoor
open Go.RowKit
theorem bytes_data (l : List UInt8) : (bytes l).data.toList = l := by simp [bytes]
theorem data_bytes (s : ByteArray) : bytes s.data.toList = s := by simp [bytes]
theorem bytes_size (l : List UInt8) : (bytes l).size = l.length := by show l.toArray.size = _; simp
theorem bytes_app (a b : List UInt8) : bytes a ++ bytes b = bytes (a ++ b) := by
  apply ByteArray.ext
  simp [bytes]
theorem extract_bytes (s : ByteArray) (i j : Nat) (_hj : j ≤ s.size) (_hi : i ≤ j) : s.extract i j = bytes ((s.data.toList.take j).drop i) := by
  apply ByteArray.ext
  rw [ByteArray.data_extract]
  apply Array.ext'
  simp only [bytes, Array.toList_extract]
  rw [List.extract_eq_take_drop, List.drop_take]
theorem let_no {v : Int} (h : ¬ (1 ≤ v ∧ v ≤ 8)) : letV v = [] ∧ letE v = 2 := ⟨if_neg h, if_neg h⟩
def letRes (v : Int) : Value := .tuple #[.string (bytes (letV v)), .int .i64 (letE v)]
set_option maxHeartbeats 2000000 in
theorem plet_any (v : Int) (w : World) : Calls Tryz.prog 21 #[.int .i64 v] w fun e w' => e = .returned (letRes v) ∧ w = w' := by
  unfold letRes
  by_cases h : 1 ≤ v ∧ v ≤ 8
  · obtain ⟨h1, h2⟩ := h
    have c : v = 1 ∨ v = 2 ∨ v = 3 ∨ v = 4 ∨ v = 5 ∨ v = 6 ∨ v = 7 ∨ v = 8 := by omega
    clear h1 h2
    rcases c with rfl | rfl | rfl | rfl | rfl | rfl | rfl | rfl
    all_goals
      go_enter Tryz.func21, Tryz.ntmps21
      go_wp2_with fail
      go_ret2
      exact ⟨by kernel_rfl, rfl⟩
  · rw [(let_no h).1, (let_no h).2]
    have c : v < 1 ∨ (¬ v < 1 ∧ 8 < v) := by omega
    clear h
    rcases c with h | ⟨h, h2⟩
    · go_enter Tryz.func21, Tryz.ntmps21
      go_wp2_with fail
      go_ret2
      exact ⟨rfl, rfl⟩
    · go_enter Tryz.func21, Tryz.ntmps21
      go_wp2_with fail
      go_ret2
      exact ⟨rfl, rfl⟩
/-! ### Values -/
end Go.Proofs.YtdmedealdhadcaaGreatDoor
