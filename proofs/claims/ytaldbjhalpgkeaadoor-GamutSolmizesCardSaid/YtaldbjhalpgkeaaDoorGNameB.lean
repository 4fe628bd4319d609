/- The program's Name. -/
import Derived.Test.YtaldbjhalpgkeaaDoorGName
namespace Go.Proofs.YtaldbjhalpgkeaaDoor
open Go.RowKit Go.Shelf
attribute [local go_sem] Oper.semAt_some

theorem info_str : (Tryd.prog.info? 9).map (fun i => (i.zero, i.size, i.bytes)) = some (some (.string ⟨#[]⟩), 1, 16) := by kernel_rfl
theorem holds_ne {W : World} {a b : Nat} {t u : TypeId} {cs ds : Array Value} (h : HoldsB W a t cs) (k : HoldsB W b u ds) (hne : t ≠ u) : a ≠ b := by
  rintro rfl
  have := h.symm.trans k
  simp only [Option.some.injEq, Obj.cells.injEq] at this
  exact hne this.2.1
abbrev strs (P : List ByteArray) : List Value := P.map Value.string
theorem strs_one (P : List ByteArray) : ∀ u ∈ strs P, u.oneCell' = true := by
  intro u hu
  rw [List.mem_map] at hu
  obtain ⟨z, _, rfl⟩ := hu
  rfl
/-- What stands in a round of Name: A is the round's start. -/
structure NmF (w A : World) (k1 : Nat) (n : Int) (v : Value) (P : List ByteArray) (last : Pi3) (k7 : Nat) (q : Pi3) (Bx : Nat) (x : Sy) (W : World) : Prop where
  own : OwnL w W 9 1 v P.length (strs P)
  box : HoldsB W k1 70 #[v]
  last : HoldsB W (k1 + 1) 23 #[.int .i64 last.1, .int .i64 last.2.1, .int .i64 last.2.2]
  num : HoldsB W (k1 + 2) 3 #[.int .i64 n]
  num0 : HoldsB W w.heap.size 3 #[.int .i64 n]
  seven : HoldsB W k7 23 #[.int .i64 q.1, .int .i64 q.2.1, .int .i64 q.2.2]
  way : HoldsB W Bx 25 #[.int .i64 x.1, .int .i64 x.2]
  mid : Mid (k1 + 3) A W
  lt1 : w.heap.size < k1
  lt7 : k1 + 1 < k7
theorem NmF.later {w A : World} {k1 : Nat} {n : Int} {v : Value} {P : List ByteArray} {last : Pi3} {k7 : Nat} {q : Pi3} {Bx : Nat} {x : Sy} {W W' : World} (h : NmF w A k1 n v P last k7 q Bx x W) (k : Below W.heap.size W W') : NmF w A k1 n v P last k7 q Bx x W' :=
  ⟨h.own.later k, h.box.later k, h.last.later k, h.num.later k, h.num0.later k, h.seven.later k, h.way.later k, h.mid.trans (Mid.bel _ k), h.lt1, h.lt7⟩
/-- An append: what is not the list stays; and the longer list is stored. -/
theorem NmF.kept {w A : World} {k1 : Nat} {n : Int} {v : Value} {P : List ByteArray} {last : Pi3} {k7 : Nat} {q : Pi3} {Bx : Nat} {x : Sy} {W W' : World} (h : NmF w A k1 n v P last k7 q Bx x W) (hg : W.grownBy W' v.ownBlock) : HoldsB W' k1 70 #[v] ∧ HoldsB W' w.heap.size 3 #[.int .i64 n] ∧ HoldsB W' Bx 25 #[.int .i64 x.1, .int .i64 x.2] :=
  ⟨h.box.kept hg (own_ne h.own.row h.box (by decide)), h.num0.kept hg (own_ne h.own.row h.num0 (by decide)), h.way.kept hg (own_ne h.own.row h.way (by decide))⟩
theorem NmF.push {w A : World} {k1 : Nat} {n : Int} {v v' : Value} {P : List ByteArray} {last : Pi3} {k7 : Nat} {q : Pi3} {Bx : Nat} {x : Sy} {W W' : World} (h : NmF w A k1 n v P last k7 q Bx x W) (s : ByteArray)
    (hown : W'.ownsRow w.heap.size 9 1 v' (P.length + 1) (strs P ++ [.string s])) (hg : W.grownBy W' v.ownBlock) : NmF w A k1 n v' (P ++ [s]) last k7 q Bx x (W'.setCell ⟨k1, 0, none⟩ v') := by
  have hb := h.box.kept hg (own_ne h.own.row h.box (by decide))
  have o : ∀ {b : Nat} {t : TypeId} {cs : Array Value}, HoldsB W b t cs → t ≠ 9 → t ≠ 70 → HoldsB (W'.setCell ⟨k1, 0, none⟩ v') b t cs := fun hh h1 h2 =>
    (hh.kept hg (own_ne h.own.row hh h1)).other (holds_ne (hh.kept hg (own_ne h.own.row hh h1)) hb h2) _ _
  have hlt := h.lt1
  refine ⟨⟨(h.own.far (w_refl W) hg).setCell (p := ⟨k1, 0, none⟩) (by show _ ≤ k1; omega) _, ?_⟩, hb.set 0 _, o h.last (by decide) (by decide), o h.num (by decide) (by decide), o h.num0 (by decide) (by decide), o h.seven (by decide) (by decide), o h.way (by decide) (by decide), h.mid.trans ((Mid.row _ hg (own_row h.own.row (.inr rfl))).trans (Mid.set _ _ (by omega) _ _)), h.lt1, h.lt7⟩
  rw [List.length_append]
  unfold strs
  rw [List.map_append]
  exact own_put hown (own_ne hown hb (by decide)) _ _
theorem NmF.lay {w A : World} {k1 : Nat} {n : Int} {v : Value} {P : List ByteArray} {last : Pi3} {k7 : Nat} {q : Pi3} {Bx : Nat} {x : Sy} {W : World} (h : NmF w A k1 n v P last k7 q Bx x W) :
    NmF w A k1 n v P q k7 q Bx x (((W.setCell ⟨k1 + 1, 0, none⟩ (.int .i64 q.1)).setCell ⟨k1 + 1, 1, none⟩ (.int .i64 q.2.1)).setCell ⟨k1 + 1, 2, none⟩ (.int .i64 q.2.2)) := by
  have h1 := h.lt1
  have h7 := h.lt7
  have o : ∀ {b : Nat} {t : TypeId} {cs : Array Value}, HoldsB W b t cs → b ≠ k1 + 1 → HoldsB (((W.setCell ⟨k1 + 1, 0, none⟩ (.int .i64 q.1)).setCell ⟨k1 + 1, 1, none⟩ (.int .i64 q.2.1)).setCell ⟨k1 + 1, 2, none⟩ (.int .i64 q.2.2)) b t cs := fun hh hne => ((hh.other hne _ _).other hne _ _).other hne _ _
  have p : ∀ {B : World} (j : Nat) (u : Value), OwnL w B 9 1 v P.length (strs P) → some (k1 + 1) ≠ v.ownBlock → OwnL w (B.setCell ⟨k1 + 1, j, none⟩ u) 9 1 v P.length (strs P) := fun j u hh hne => ⟨hh.bel.setCell (p := ⟨k1 + 1, j, none⟩) (by show _ ≤ k1 + 1; omega) _, own_put hh.row hne _ _⟩
  have hne := own_ne h.own.row h.last (by decide)
  exact ⟨p _ _ (p _ _ (p _ _ h.own hne) hne) hne, o h.box (by omega), ((h.last.set 0 _).set 1 _).set 2 _, o h.num (by omega), o h.num0 (by omega), o h.seven (by omega), o h.way (holds_ne h.way h.last (by decide)),
    h.mid.trans ((Mid.set _ _ (by omega) _ _).trans ((Mid.set _ _ (by omega) _ _).trans (Mid.set _ _ (by omega) _ _))), h.lt1, h.lt7⟩

set_option maxRecDepth 100000 in
set_option maxHeartbeats 4000000 in
theorem wname_ok (n : Int) (h : 0 ≤ n ∧ n ≤ 19) (w : World) (T : TabG w) : Calls Tryd.prog 18 #[.int .i64 n] w fun e w' => e = .returned (.tuple #[.string (nameV n).1, .int .i64 0]) ∧ Below w.heap.size w w' := by
  refine (callsIn_wide (n := 1)).1 ?_
  have P := Lib.hid (fun W => callsIn_wide (n := 0) |>.2 (wisplace_any n W))
  rw [show decide (0 ≤ n ∧ n ≤ 19) = true from decide_eq_true h] at P
  have HT := Lib.hid (fun W (b : Below w.heap.size w W) => T.later b)
  have WA := Lib.hid (fun W => callsIn_wide (n := 0) |>.2 (wwaysat_any n W))
  have G := Lib.hid (fun b => waysat_gives n (by omega) (by omega) b)
  have HN := Lib.hid h
  have LE := Lib.hid (fun W => wletter_any n h W)
  clear h T
  obtain ⟨i0, hi0, hz0, hz1, hz2⟩ := info_parts info_str
  refine callsIn_of_wp_marks Tryd.func18 rfl trivial ?_ rfl
  simp only [Tryd.ntmps18, List.size_toArray, List.length_cons, List.length_nil, Nat.reduceAdd, Nat.reduceSub, Array.replicate_succ, Array.replicate_zero, List.push_toArray, List.append_toArray, List.nil_append, List.cons_append]
  have N0 := Lib.hid (HoldsB.new w 3 #[.int .i64 n])
  have B0 := Lib.hid (w_alloc (w_refl w) (.cells #[.int .i64 n] 3))
  gi_wp2_with fail
  refine ⟨trivial, (P.out _).mono ?_⟩
  rintro e w1 ⟨rfl, hb⟩
  replace N0 := Lib.hid (N0.out.later hb)
  replace B0 := Lib.hid (w_below B0.out hb)
  have c0 := (N0.out.al (.cells #[.slice none 0 0] 70)).al (pO (0, 0, 0)) |>.cell (j := 0) rfl
  clear hb P
  gi_wp2_with fail
  refine ⟨trivial, (WA.out _).mono ?_⟩
  rintro e w2 ⟨rfl, rfl⟩
  gi_wp2_with fail
  have hlt1 : w.heap.size < w1.heap.size := N0.out.lt
  have K1 := Lib.hid (show HoldsB (((w1.alloc (.cells #[.slice none 0 0] 70)).alloc (pO (0, 0, 0))).alloc (.cells #[.int .i64 n] 3)) w1.heap.size 70 #[.slice none 0 0] from ((HoldsB.new w1 _ _).al _).al _)
  have K2 := Lib.hid (show HoldsB (((w1.alloc (.cells #[.slice none 0 0] 70)).alloc (pO (0, 0, 0))).alloc (.cells #[.int .i64 n] 3)) (w1.heap.size + 1) 23 #[.int .i64 0, .int .i64 0, .int .i64 0] by
    have := (HoldsB.new (w1.alloc (.cells #[.slice none 0 0] 70)) 23 #[.int .i64 0, .int .i64 0, .int .i64 0]).al (.cells #[.int .i64 n] 3)
    rwa [World.size_alloc] at this)
  have K3 := Lib.hid (show HoldsB (((w1.alloc (.cells #[.slice none 0 0] 70)).alloc (pO (0, 0, 0))).alloc (.cells #[.int .i64 n] 3)) (w1.heap.size + 2) 3 #[.int .i64 n] by
    have := HoldsB.new ((w1.alloc (.cells #[.slice none 0 0] 70)).alloc (pO (0, 0, 0))) 3 #[.int .i64 n]
    rwa [World.size_alloc, World.size_alloc] at this)
  replace N0 := Lib.hid (((N0.out.al (.cells #[.slice none 0 0] 70)).al (pO (0, 0, 0))).al (.cells #[.int .i64 n] 3))
  have L0 := Lib.hid (show OwnL w (((w1.alloc (.cells #[.slice none 0 0] 70)).alloc (pO (0, 0, 0))).alloc (.cells #[.int .i64 n] 3)) 9 1 (.slice none 0 0) 0 [] from ⟨w_alloc (w_alloc (w_alloc B0.out _) _) _, World.ownsRow_nil _ _ _ _⟩)
  have hsz : (((w1.alloc (.cells #[.slice none 0 0] 70)).alloc (pO (0, 0, 0))).alloc (.cells #[.int .i64 n] 3)).heap.size = w1.heap.size + 3 := by simp
  clear B0 WA c0
  generalize ((w1.alloc (.cells #[.slice none 0 0] 70)).alloc (pO (0, 0, 0))).alloc (.cells #[.int .i64 n] 3) = w2 at *
  generalize w1.heap.size = k1 at *
  refine wpIn_gives (G.out (k1 + 1 + 1)) rfl (enters_of Tryd.func65 (by kernel_rfl) rfl) rfl
    (fun pre A => ((∃ v, HoldsB A k1 70 #[v] ∧ OwnL w A 9 1 v (nmAll n pre).1.length (strs (nmAll n pre).1)) ∧ HoldsB A (k1 + 1) 23 #[.int .i64 (nmAll n pre).2.1, .int .i64 (nmAll n pre).2.2.1, .int .i64 (nmAll n pre).2.2.2]) ∧ HoldsB A (k1 + 2) 3 #[.int .i64 n] ∧ HoldsB A w.heap.size 3 #[.int .i64 n])
    (fun _ => False) ?hC ?hI ?hIx ?h0
    (fun x a' A => ∃ Bx, HoldsB A Bx 25 #[.int .i64 x.1, .int .i64 x.2] ∧ a' = { tmps := #[.int .i64 n, .pointer (some ⟨w.heap.size, 0, none⟩), .string ⟨#[]⟩, .int .i64 0, .pointer (some ⟨k1, 0, none⟩), .pointer (some ⟨k1 + 1, 0, none⟩), .pointer (some ⟨Bx, 0, none⟩), undef, undef, .int .i64 n, .bool true, .bool false, .int .i64 n, .func (.func 65) #[] #[.pointer (some ⟨k1 + 1 + 1, 0, none⟩)], sv x, undef, undef, undef, undef, undef, undef, undef, undef, undef, undef, undef, undef, undef, undef, undef, undef, undef, undef, undef, undef, undef, undef, undef, undef, undef, undef, undef, undef, undef], defers := [] })
    ?hAx ?assign ?body ?done ?stop
  case hC =>
    rintro pre A ⟨⟨⟨v, _, h2⟩, _⟩, h4, _⟩
    exact ⟨HT.out _ h2.bel, h4.cell rfl⟩
  case hI => exact OwnFrom.and (OwnFrom.and (ownL_from (by omega) _ _ _ _ _ _) (Own.from (holds_own _ _ _) _)) (OwnFrom.and (Own.from (holds_own _ _ (fun _ => _)) _) (Own.from (holds_own _ _ (fun _ => _)) _))
  case hIx => exact fun _ _ _ _ h _ _ => h
  case h0 => exact ⟨⟨⟨_, K1.out, L0.out⟩, K2.out⟩, K3.out, N0.out⟩
  case hAx =>
    rintro x a' s A A' row ⟨Bx, h, e⟩ hg hr
    exact ⟨Bx, holds_own Bx _ (fun (_ : Unit) => _) () A A' row h hg (fun r e => (hr r e).2), e⟩
  case assign =>
    rintro m2 l2 pre x A K hle ⟨⟨⟨v, h1, h2⟩, h3⟩, h4, h5⟩ hK
    gi_wp2_with fail
    exact hK _ _ (Mid.bel _ (w_alloc (w_refl A) _)) ⟨⟨⟨v, h1.al _, h2.later (w_alloc (w_refl A) _)⟩, h3.al _⟩, h4.al _, h5.al _⟩ ⟨A.heap.size, HoldsB.new A _ _, rfl⟩
  case body =>
    rintro m2 l2 pre x post a' A hx hle ⟨⟨⟨v, h1, h2⟩, h3⟩, h4, h5⟩ ⟨Bx, hB, rfl⟩
    have hok := waysAt_ok (n := n) (s := x) (by rw [hx]; simp)
    have hl7 : pre.length ≤ 6 := by
      have e1 : (waysAtL n).length ≤ 7 := by
        have := List.length_filter_le sylB ((List.range 7).map (wayAt n))
        rw [List.length_map, List.length_range] at this
        exact this
      rw [hx, List.length_append, List.length_cons] at e1
      omega
    have hlen := nm_len n pre
    have HS := Lib.hid (nm_snoc n pre x)
    have PI := Lib.hid (fun W T => CallsIn.inRound l2 (callsIn_wide (n := m2 - 1) |>.2 (wpitch_any x W T)))
    unfold PitPost pitV at PI
    rw [if_pos hok] at PI
    unfold nmAll at hlen
    change (nmAll n pre).1.length ≤ 2 * pre.length at hlen
    generalize nmAll n pre = st at *
    obtain ⟨Pp, last⟩ := st
    obtain ⟨q0, c0, rfl⟩ := h2.val
    obtain ⟨x1, x2⟩ := x
    simp only at h1 h2 h3 hlen hok
    have d0 := hB.cell (j := 0) rfl
    have d1 := hB.cell (j := 1) rfl
    have NF0 := Lib.hid (show ∀ (q : Pi3) (W : World), Below A.heap.size A W → NmF w A k1 n (.slice q0 Pp.length c0) Pp last W.heap.size q Bx (x1, x2) (W.alloc (pO q)) from fun q W b =>
      ⟨(h2.later b).later (w_alloc (w_refl W) _), (h1.later b).al _, (h3.later b).al _, (h4.later b).al _, (h5.later b).al _, HoldsB.new W _ _, (hB.later b).al _, (Mid.bel _ (w_alloc b _)), hlt1, by have := (h4.later b).lt; omega⟩)
    have TA := Lib.hid (HT.out _ h2.bel)
    have HW := Lib.hid (show 1 ≤ x2 ∧ x2 ≤ 6 from hok.2)
    have g1 : 0 ≤ x2 - 1 := by have := hok.2; omega
    have g2 : x2 - 1 < 6 := by have := hok.2; omega
    have g3 : 1 ≤ x2 := hok.2.1
    have g4 : x2 ≤ 6 := hok.2.2
    have g5 : x2 < 7 := by omega
    have x9 : IntKind.i64.wrap (x2 - 1) = x2 - 1 := IntWalk.i64_in _ (by omega)
    have TW := Lib.hid (fun W (b : Below w.heap.size w W) => (HT.out W b).si g3 g4)
    clear h1 h2 h3 h4 h5 hB hx hle hok
    generalize hqm : madeS (x1, x2) = q at *
    gi_wp2_with fail
    refine ⟨trivial, (fun h => by cases h), (PI.out _ TA.out).mono ?_⟩
    rintro e w3 ⟨rfl, hb⟩
    have FX := Lib.hid (NF0.out q w3 hb)
    clear hb NF0 PI d0 d1 TA
--BODY
    have HM := Lib.hid hqm
    clear hqm
    have HF0 := Lib.hid (show nmAll n (pre ++ [(x1, x2)]) = ((Pp ++ if Pp.length = 0 ∨ q ≠ last then [letB n] else []) ++ [wordB x2], q) by
      rw [HS.out]; unfold nmStep; simp only; rw [HM.out])
    clear HS HM
    obtain ⟨r1, r2, r3⟩ := q
    obtain ⟨p1, p2, p3⟩ := last
    by_cases hz : Pp.length = 0
    · have HF := Lib.hid (HF0.out.trans (by rw [if_pos (.inl hz)]))
      clear HF0
      have hz' : ((Pp.length : Int) == 0) = true := by simp [hz]
      clear hz
      have b0 := FX.out.box.cell (j := 0) rfl
      have s0 := FX.out.seven.cell (j := 0) rfl
      have s1 := FX.out.seven.cell (j := 1) rfl
      have s2 := FX.out.seven.cell (j := 2) rfl
      have l0 := FX.out.last.cell (j := 0) rfl
      have l1 := FX.out.last.cell (j := 1) rfl
      have l2 := FX.out.last.cell (j := 2) rfl
      gi_wp2_with fail
      clear b0 s0 s1 s2 l0 l1 l2
      refine wpIn_region_late (fun W => W.cell? ⟨k1, 0, none⟩ = some (.slice q0 Pp.length c0) ∧ W.cell? ⟨w.heap.size, 0, none⟩ = some (.int .i64 n)) [5] (by kernel_rfl) (by kernel_rfl) (by rintro ⟨_, _, h⟩; exact h) ?_
      replace FX := Lib.hid (FX.out.later (w_refl _).drew)
      generalize hy : World.drew (World.alloc w3 _) = y at *
      clear hy
      refine wpL_load (i := 0) (v := .slice q0 Pp.length c0) rfl (by kernel_rfl) (by kernel_rfl) (by kernel_rfl) (by kernel_rfl) (by kernel_rfl) (fun _ _ _ h => h) (Or.inl ⟨by kernel_rfl, fun W hW => by (obtain ⟨hA, hB⟩ := hW; go_simp)⟩) ⟨FX.out.box.cell rfl, FX.out.num0.cell rfl⟩ (by kernel_rfl) ?_
      refine wpL_load (i := 1) (v := .int .i64 n) rfl (by kernel_rfl) (by kernel_rfl) (by kernel_rfl) (by kernel_rfl) (by kernel_rfl) (fun _ _ _ h => h) (Or.inl ⟨by kernel_rfl, fun W hW => by (obtain ⟨hA, hB⟩ := hW; go_simp)⟩) ⟨FX.out.box.cell rfl, FX.out.num0.cell rfl⟩ (by kernel_rfl) ?_
      refine wpL_ready (rs := [2]) (by kernel_rfl) (by simp) ?_
      refine AllL.cons rfl (fun K hK => ?_) AllL.nil
      rw [if_pos (by kernel_rfl)]
      go_simp
      go_at_call 51
      refine (LE.out _).mono ?_
      rintro e ya ⟨rfl, hb⟩
      replace FX := Lib.hid (FX.out.later hb)
      clear hb
      go_simp
      refine hK.out _ _ (.inl ⟨FX.out.box.cell rfl, FX.out.num0.cell rfl⟩) ?_
      clear hK K
      refine wpL_ready (rs := [3]) (by kernel_rfl) (by simp) ?_
      refine AllL.cons rfl (fun K hK => ?_) AllL.nil
      rw [if_pos (by kernel_rfl)]
      go_simp
      have hLt := lit_new ya #[.string (letB n)] 9
      replace FX := Lib.hid (FX.out.later (w_alloc (w_refl ya) (.cells #[.string (letB n)] 9)))
      generalize hy : World.alloc ya (.cells #[.string (letB n)] 9) = yab at *
      clear hy
      have LT := Lib.hid hLt
      clear hLt
      refine hK.out _ _ (.inl ⟨FX.out.box.cell rfl, FX.out.num0.cell rfl⟩) ?_
      clear hK K
      refine wpL_ready (rs := [4]) (by kernel_rfl) (by simp) ?_
      refine AllL.cons rfl (fun K hK => ?_) AllL.nil
      refine step_append_lies _ rfl (.tmp 28) (.tmp 31) 70 rfl w.heap.size 9 i0 (.string ⟨#[]⟩) 1 16 Tryd.underlying70 hi0 hz0 hz1 hz2 rfl (by decide) (.slice q0 Pp.length c0) (Pp.length) (strs (Pp)) (by rfl) FX.out.own.row ⟨ya.heap.size, 0, none⟩ 1 1 [.string (letB n)] (by rfl) rfl LT.out (strs_one [letB n]) (by decide) (by unfold maxLen; omega) (by omega) FX.out.own.bel.size _ rfl ?_
      intro g3 c3 y3 hown hgrow hat hlt
      have KP := Lib.hid (show _ ∧ _ from ⟨FX.out.kept hgrow, FX.out.own.far (w_refl _) hgrow⟩)
      have PU := Lib.hid (FX.out.push (letB n) hown hgrow)
      clear FX hown hgrow hat hlt LT
      refine hK.out _ _ (.inl ⟨KP.out.1.1.cell rfl, KP.out.1.2.1.cell rfl⟩) ?_
      clear hK K
      refine wpL_ready (rs := [5]) (by kernel_rfl) (by simp) ?_
      refine AllL.cons rfl (fun K hK => ?_) AllL.nil
      have e0 := KP.out.1.1.cell (j := 0) rfl
      have e1 := KP.out.1.1.frozen 0
      rw [if_pos (by kernel_rfl)]
      go_simp
      clear e0 e1 KP
      have FX := Lib.hid PU.out
      clear PU
      generalize hy : World.setCell y3 ⟨k1, 0, none⟩ (.slice (some ⟨g3, 0, none⟩) (Pp.length + 1) c3) = z3 at *
      clear hy
      refine hK.out _ _ (.inr (by kernel_rfl)) ?_
      clear hK K
      refine wpL_done (by kernel_rfl) ?_ _
      have hl2 : (Pp ++ [letB n]).length = Pp.length + 1 := by simp
      have s0 := FX.out.seven.cell (j := 0) rfl
      have s1 := FX.out.seven.cell (j := 1) rfl
      have s2 := FX.out.seven.cell (j := 2) rfl
      have l0 := FX.out.last.cell (j := 0) rfl
      have l1 := FX.out.last.cell (j := 1) rfl
      have l2 := FX.out.last.cell (j := 2) rfl
      have f0 := FX.out.last.frozen 0
      have f1 := FX.out.last.frozen 1
      have f2 := FX.out.last.frozen 2
      gi_wp2_with fail
      clear s0 s1 s2 l0 l1 l2 f0 f1 f2
      refine wpIn_region_late (fun W => W.cell? ⟨k1, 0, none⟩ = some (.slice (some ⟨g3, 0, none⟩) (Pp.length + 1) c3) ∧ W.cell? ⟨Bx, 1, none⟩ = some (.int .i64 x2) ∧ W.cell? ⟨1, x2.toNat - 1, none⟩ = some (.string (wordB x2))) [8] (by kernel_rfl) (by kernel_rfl) (by rintro ⟨_, _, h⟩; exact h) ?_
      replace FX := Lib.hid (FX.out.lay.later (w_refl _).drew)
      generalize hy : World.drew (World.setCell _ _ _) = u at *
      clear hy
      refine wpL_load (i := 0) (v := .slice (some ⟨g3, 0, none⟩) (Pp.length + 1) c3) rfl (by kernel_rfl) (by kernel_rfl) (by kernel_rfl) (by kernel_rfl) (by kernel_rfl) (fun _ _ _ h => h) (Or.inl ⟨by kernel_rfl, fun W hW => by (obtain ⟨hA, hB, hC⟩ := hW; go_simp)⟩) ⟨FX.out.box.cell rfl, FX.out.way.cell (j := 1) rfl, TW.out _ FX.out.own.bel⟩ (by kernel_rfl) ?_
      refine wpL_take (i := 1) (v := .pointer (some ⟨Bx, 1, none⟩)) rfl (by kernel_rfl) (by kernel_rfl) (by kernel_rfl) (by kernel_rfl) (fun _ _ _ h => h) (Or.inl ⟨by kernel_rfl, fun _ => by go_simp⟩) (.inl ⟨FX.out.box.cell rfl, FX.out.way.cell (j := 1) rfl, TW.out _ FX.out.own.bel⟩) ?_
      refine wpL_load (i := 2) (v := .int .i64 x2) rfl (by kernel_rfl) (by kernel_rfl) (by kernel_rfl) (by kernel_rfl) (by kernel_rfl) (fun _ _ _ h => h) (Or.inl ⟨by kernel_rfl, fun W hW => by (obtain ⟨hA, hB, hC⟩ := hW; go_simp)⟩) ⟨FX.out.box.cell rfl, FX.out.way.cell (j := 1) rfl, TW.out _ FX.out.own.bel⟩ (by kernel_rfl) ?_
      refine wpL_take (i := 3) (v := .int .i64 (x2 - 1)) rfl (by kernel_rfl) (by kernel_rfl) (by kernel_rfl) (by kernel_rfl) (fun _ _ _ h => h) (Or.inl ⟨by kernel_rfl, fun _ => by go_simp⟩) (.inl ⟨FX.out.box.cell rfl, FX.out.way.cell (j := 1) rfl, TW.out _ FX.out.own.bel⟩) ?_
      refine wpL_take (i := 4) (v := .pointer (some ⟨1, x2.toNat - 1, none⟩)) rfl (by kernel_rfl) (by kernel_rfl) (by kernel_rfl) (by kernel_rfl) (fun _ _ _ h => h) (Or.inl ⟨by kernel_rfl, fun _ => by go_simp⟩) (.inl ⟨FX.out.box.cell rfl, FX.out.way.cell (j := 1) rfl, TW.out _ FX.out.own.bel⟩) ?_
      refine wpL_load (i := 5) (v := .string (wordB x2)) rfl (by kernel_rfl) (by kernel_rfl) (by kernel_rfl) (by kernel_rfl) (by kernel_rfl) (fun _ _ _ h => h) (Or.inl ⟨by kernel_rfl, fun W hW => by (obtain ⟨hA, hB, hC⟩ := hW; go_simp)⟩) ⟨FX.out.box.cell rfl, FX.out.way.cell (j := 1) rfl, TW.out _ FX.out.own.bel⟩ (by kernel_rfl) ?_
      refine wpL_ready (rs := [6]) (by kernel_rfl) (by simp) ?_
      refine AllL.cons rfl (fun K hK => ?_) AllL.nil
      rw [if_pos (by kernel_rfl)]
      go_simp
      have hLt := lit_new u #[.string (wordB x2)] 9
      replace FX := Lib.hid (FX.out.later (w_alloc (w_refl u) (.cells #[.string (wordB x2)] 9)))
      generalize hy : World.alloc u (.cells #[.string (wordB x2)] 9) = ub at *
      clear hy
      have LT := Lib.hid hLt
      clear hLt
      refine hK.out _ _ (.inl ⟨FX.out.box.cell rfl, FX.out.way.cell (j := 1) rfl, TW.out _ FX.out.own.bel⟩) ?_
      clear hK K
      refine wpL_ready (rs := [7]) (by kernel_rfl) (by simp) ?_
      refine AllL.cons rfl (fun K hK => ?_) AllL.nil
      refine step_append_lies _ rfl (.tmp 34) (.tmp 40) 70 rfl w.heap.size 9 i0 (.string ⟨#[]⟩) 1 16 Tryd.underlying70 hi0 hz0 hz1 hz2 rfl (by decide) (.slice (some ⟨g3, 0, none⟩) (Pp.length + 1) c3) (Pp.length + 1) (strs (Pp ++ [letB n])) (by rfl) (by have := FX.out.own.row; rw [hl2] at this; exact this) ⟨u.heap.size, 0, none⟩ 1 1 [.string (wordB x2)] (by rfl) rfl LT.out (strs_one [wordB x2]) (by decide) (by unfold maxLen; omega) (by omega) FX.out.own.bel.size _ rfl ?_
      intro g6 c6 y6 hown hgrow hat hlt
      have KP := Lib.hid (show _ ∧ _ from ⟨FX.out.kept hgrow, FX.out.own.far (w_refl _) hgrow⟩)
      have PU := Lib.hid (FX.out.push (wordB x2) (by rw [hl2]; exact hown) hgrow)
      clear FX hown hgrow hat hlt LT
      refine hK.out _ _ (.inl ⟨KP.out.1.1.cell rfl, KP.out.1.2.2.cell (j := 1) rfl, TW.out _ KP.out.2⟩) ?_
      clear hK K
      refine wpL_ready (rs := [8]) (by kernel_rfl) (by simp) ?_
      refine AllL.cons rfl (fun K hK => ?_) AllL.nil
      have e0 := KP.out.1.1.cell (j := 0) rfl
      have e1 := KP.out.1.1.frozen 0
      rw [if_pos (by kernel_rfl)]
      go_simp
      clear e0 e1 KP
      have FX := Lib.hid PU.out
      clear PU
      generalize hy : World.setCell y6 ⟨k1, 0, none⟩ (.slice (some ⟨g6, 0, none⟩) (Pp.length + 1 + 1) c6) = z6 at *
      clear hy
      refine hK.out _ _ (.inr (by kernel_rfl)) ?_
      clear hK K
      refine wpL_done (by kernel_rfl) ?_ _
      gi_wp2_with fail
      show Mid _ _ _ ∧ _
      dsimp only
      rw [HF.out, hsz]
      exact ⟨FX.out.mid, ⟨⟨_, FX.out.box, FX.out.own⟩, FX.out.last⟩, FX.out.num, FX.out.num0⟩
    · have hz' : ((Pp.length : Int) == 0) = false := by simp [hz]
      have hzn : ¬ ((Pp.length : Int) = 0) := by omega
      by_cases hq : ((r1, r2, r3) : Pi3) = (p1, p2, p3)
      · have HF := Lib.hid (HF0.out.trans (by rw [if_neg (by rintro (x | x); exact hz x; exact x hq), List.append_nil]))
        clear HF0
        simp only [Prod.mk.injEq] at hq
        obtain ⟨rfl, rfl, rfl⟩ := hq
        have b0 := FX.out.box.cell (j := 0) rfl
        have s0 := FX.out.seven.cell (j := 0) rfl
        have s1 := FX.out.seven.cell (j := 1) rfl
        have s2 := FX.out.seven.cell (j := 2) rfl
        have l0 := FX.out.last.cell (j := 0) rfl
        have l1 := FX.out.last.cell (j := 1) rfl
        have l2 := FX.out.last.cell (j := 2) rfl
        have f0 := FX.out.last.frozen 0
        have f1 := FX.out.last.frozen 1
        have f2 := FX.out.last.frozen 2
        gi_wp2_with fail
        clear b0 s0 s1 s2 l0 l1 l2 f0 f1 f2
        refine wpIn_region_late (fun W => W.cell? ⟨k1, 0, none⟩ = some (.slice q0 Pp.length c0) ∧ W.cell? ⟨Bx, 1, none⟩ = some (.int .i64 x2) ∧ W.cell? ⟨1, x2.toNat - 1, none⟩ = some (.string (wordB x2))) [8] (by kernel_rfl) (by kernel_rfl) (by rintro ⟨_, _, h⟩; exact h) ?_
        replace FX := Lib.hid (FX.out.lay.later (w_refl _).drew)
        generalize hy : World.drew (World.setCell _ _ _) = u at *
        clear hy
        refine wpL_load (i := 0) (v := .slice q0 Pp.length c0) rfl (by kernel_rfl) (by kernel_rfl) (by kernel_rfl) (by kernel_rfl) (by kernel_rfl) (fun _ _ _ h => h) (Or.inl ⟨by kernel_rfl, fun W hW => by (obtain ⟨hA, hB, hC⟩ := hW; go_simp)⟩) ⟨FX.out.box.cell rfl, FX.out.way.cell (j := 1) rfl, TW.out _ FX.out.own.bel⟩ (by kernel_rfl) ?_
        refine wpL_take (i := 1) (v := .pointer (some ⟨Bx, 1, none⟩)) rfl (by kernel_rfl) (by kernel_rfl) (by kernel_rfl) (by kernel_rfl) (fun _ _ _ h => h) (Or.inl ⟨by kernel_rfl, fun _ => by go_simp⟩) (.inl ⟨FX.out.box.cell rfl, FX.out.way.cell (j := 1) rfl, TW.out _ FX.out.own.bel⟩) ?_
        refine wpL_load (i := 2) (v := .int .i64 x2) rfl (by kernel_rfl) (by kernel_rfl) (by kernel_rfl) (by kernel_rfl) (by kernel_rfl) (fun _ _ _ h => h) (Or.inl ⟨by kernel_rfl, fun W hW => by (obtain ⟨hA, hB, hC⟩ := hW; go_simp)⟩) ⟨FX.out.box.cell rfl, FX.out.way.cell (j := 1) rfl, TW.out _ FX.out.own.bel⟩ (by kernel_rfl) ?_
        refine wpL_take (i := 3) (v := .int .i64 (x2 - 1)) rfl (by kernel_rfl) (by kernel_rfl) (by kernel_rfl) (by kernel_rfl) (fun _ _ _ h => h) (Or.inl ⟨by kernel_rfl, fun _ => by go_simp⟩) (.inl ⟨FX.out.box.cell rfl, FX.out.way.cell (j := 1) rfl, TW.out _ FX.out.own.bel⟩) ?_
        refine wpL_take (i := 4) (v := .pointer (some ⟨1, x2.toNat - 1, none⟩)) rfl (by kernel_rfl) (by kernel_rfl) (by kernel_rfl) (by kernel_rfl) (fun _ _ _ h => h) (Or.inl ⟨by kernel_rfl, fun _ => by go_simp⟩) (.inl ⟨FX.out.box.cell rfl, FX.out.way.cell (j := 1) rfl, TW.out _ FX.out.own.bel⟩) ?_
        refine wpL_load (i := 5) (v := .string (wordB x2)) rfl (by kernel_rfl) (by kernel_rfl) (by kernel_rfl) (by kernel_rfl) (by kernel_rfl) (fun _ _ _ h => h) (Or.inl ⟨by kernel_rfl, fun W hW => by (obtain ⟨hA, hB, hC⟩ := hW; go_simp)⟩) ⟨FX.out.box.cell rfl, FX.out.way.cell (j := 1) rfl, TW.out _ FX.out.own.bel⟩ (by kernel_rfl) ?_
        refine wpL_ready (rs := [6]) (by kernel_rfl) (by simp) ?_
        refine AllL.cons rfl (fun K hK => ?_) AllL.nil
        rw [if_pos (by kernel_rfl)]
        go_simp
        have hLt := lit_new u #[.string (wordB x2)] 9
        replace FX := Lib.hid (FX.out.later (w_alloc (w_refl u) (.cells #[.string (wordB x2)] 9)))
        generalize hy : World.alloc u (.cells #[.string (wordB x2)] 9) = ub at *
        clear hy
        have LT := Lib.hid hLt
        clear hLt
        refine hK.out _ _ (.inl ⟨FX.out.box.cell rfl, FX.out.way.cell (j := 1) rfl, TW.out _ FX.out.own.bel⟩) ?_
        clear hK K
        refine wpL_ready (rs := [7]) (by kernel_rfl) (by simp) ?_
        refine AllL.cons rfl (fun K hK => ?_) AllL.nil
        refine step_append_lies _ rfl (.tmp 34) (.tmp 40) 70 rfl w.heap.size 9 i0 (.string ⟨#[]⟩) 1 16 Tryd.underlying70 hi0 hz0 hz1 hz2 rfl (by decide) (.slice q0 Pp.length c0) (Pp.length) (strs (Pp)) (by rfl) FX.out.own.row ⟨u.heap.size, 0, none⟩ 1 1 [.string (wordB x2)] (by rfl) rfl LT.out (strs_one [wordB x2]) (by decide) (by unfold maxLen; omega) (by omega) FX.out.own.bel.size _ rfl ?_
        intro g6 c6 y6 hown hgrow hat hlt
        have KP := Lib.hid (show _ ∧ _ from ⟨FX.out.kept hgrow, FX.out.own.far (w_refl _) hgrow⟩)
        have PU := Lib.hid (FX.out.push (wordB x2) hown hgrow)
        clear FX hown hgrow hat hlt LT
        refine hK.out _ _ (.inl ⟨KP.out.1.1.cell rfl, KP.out.1.2.2.cell (j := 1) rfl, TW.out _ KP.out.2⟩) ?_
        clear hK K
        refine wpL_ready (rs := [8]) (by kernel_rfl) (by simp) ?_
        refine AllL.cons rfl (fun K hK => ?_) AllL.nil
        have e0 := KP.out.1.1.cell (j := 0) rfl
        have e1 := KP.out.1.1.frozen 0
        rw [if_pos (by kernel_rfl)]
        go_simp
        clear e0 e1 KP
        have FX := Lib.hid PU.out
        clear PU
        generalize hy : World.setCell y6 ⟨k1, 0, none⟩ (.slice (some ⟨g6, 0, none⟩) (Pp.length + 1) c6) = z6 at *
        clear hy
        refine hK.out _ _ (.inr (by kernel_rfl)) ?_
        clear hK K
        refine wpL_done (by kernel_rfl) ?_ _
        gi_wp2_with fail
        show Mid _ _ _ ∧ _
        dsimp only
        rw [HF.out, hsz]
        exact ⟨FX.out.mid, ⟨⟨_, FX.out.box, FX.out.own⟩, FX.out.last⟩, FX.out.num, FX.out.num0⟩
      · have HF := Lib.hid (HF0.out.trans (by rw [if_pos (.inr hq)]))
        clear HF0
        have hd := ne3 hq
        clear hq
        simp only at hd
        rcases hd with ⟨e1, e2⟩ | ⟨e0, e1, e2⟩ | ⟨e0, e3, e1, e2⟩
        · have b0 := FX.out.box.cell (j := 0) rfl
          have s0 := FX.out.seven.cell (j := 0) rfl
          have s1 := FX.out.seven.cell (j := 1) rfl
          have s2 := FX.out.seven.cell (j := 2) rfl
          have l0 := FX.out.last.cell (j := 0) rfl
          have l1 := FX.out.last.cell (j := 1) rfl
          have l2 := FX.out.last.cell (j := 2) rfl
          gi_wp2_with fail
          clear b0 s0 s1 s2 l0 l1 l2
          refine wpIn_region_late (fun W => W.cell? ⟨k1, 0, none⟩ = some (.slice q0 Pp.length c0) ∧ W.cell? ⟨w.heap.size, 0, none⟩ = some (.int .i64 n)) [5] (by kernel_rfl) (by kernel_rfl) (by rintro ⟨_, _, h⟩; exact h) ?_
          replace FX := Lib.hid (FX.out.later (w_refl _).drew)
          generalize hy : World.drew (World.alloc w3 _) = y at *
          clear hy
          refine wpL_load (i := 0) (v := .slice q0 Pp.length c0) rfl (by kernel_rfl) (by kernel_rfl) (by kernel_rfl) (by kernel_rfl) (by kernel_rfl) (fun _ _ _ h => h) (Or.inl ⟨by kernel_rfl, fun W hW => by (obtain ⟨hA, hB⟩ := hW; go_simp)⟩) ⟨FX.out.box.cell rfl, FX.out.num0.cell rfl⟩ (by kernel_rfl) ?_
          refine wpL_load (i := 1) (v := .int .i64 n) rfl (by kernel_rfl) (by kernel_rfl) (by kernel_rfl) (by kernel_rfl) (by kernel_rfl) (fun _ _ _ h => h) (Or.inl ⟨by kernel_rfl, fun W hW => by (obtain ⟨hA, hB⟩ := hW; go_simp)⟩) ⟨FX.out.box.cell rfl, FX.out.num0.cell rfl⟩ (by kernel_rfl) ?_
          refine wpL_ready (rs := [2]) (by kernel_rfl) (by simp) ?_
          refine AllL.cons rfl (fun K hK => ?_) AllL.nil
          rw [if_pos (by kernel_rfl)]
          go_simp
          go_at_call 51
          refine (LE.out _).mono ?_
          rintro e ya ⟨rfl, hb⟩
          replace FX := Lib.hid (FX.out.later hb)
          clear hb
          go_simp
          refine hK.out _ _ (.inl ⟨FX.out.box.cell rfl, FX.out.num0.cell rfl⟩) ?_
          clear hK K
          refine wpL_ready (rs := [3]) (by kernel_rfl) (by simp) ?_
          refine AllL.cons rfl (fun K hK => ?_) AllL.nil
          rw [if_pos (by kernel_rfl)]
          go_simp
          have hLt := lit_new ya #[.string (letB n)] 9
          replace FX := Lib.hid (FX.out.later (w_alloc (w_refl ya) (.cells #[.string (letB n)] 9)))
          generalize hy : World.alloc ya (.cells #[.string (letB n)] 9) = yab at *
          clear hy
          have LT := Lib.hid hLt
          clear hLt
          refine hK.out _ _ (.inl ⟨FX.out.box.cell rfl, FX.out.num0.cell rfl⟩) ?_
          clear hK K
          refine wpL_ready (rs := [4]) (by kernel_rfl) (by simp) ?_
          refine AllL.cons rfl (fun K hK => ?_) AllL.nil
          refine step_append_lies _ rfl (.tmp 28) (.tmp 31) 70 rfl w.heap.size 9 i0 (.string ⟨#[]⟩) 1 16 Tryd.underlying70 hi0 hz0 hz1 hz2 rfl (by decide) (.slice q0 Pp.length c0) (Pp.length) (strs (Pp)) (by rfl) FX.out.own.row ⟨ya.heap.size, 0, none⟩ 1 1 [.string (letB n)] (by rfl) rfl LT.out (strs_one [letB n]) (by decide) (by unfold maxLen; omega) (by omega) FX.out.own.bel.size _ rfl ?_
          intro g3 c3 y3 hown hgrow hat hlt
          have KP := Lib.hid (show _ ∧ _ from ⟨FX.out.kept hgrow, FX.out.own.far (w_refl _) hgrow⟩)
          have PU := Lib.hid (FX.out.push (letB n) hown hgrow)
          clear FX hown hgrow hat hlt LT
          refine hK.out _ _ (.inl ⟨KP.out.1.1.cell rfl, KP.out.1.2.1.cell rfl⟩) ?_
          clear hK K
          refine wpL_ready (rs := [5]) (by kernel_rfl) (by simp) ?_
          refine AllL.cons rfl (fun K hK => ?_) AllL.nil
          have e0 := KP.out.1.1.cell (j := 0) rfl
          have e1 := KP.out.1.1.frozen 0
          rw [if_pos (by kernel_rfl)]
          go_simp
          clear e0 e1 KP
          have FX := Lib.hid PU.out
          clear PU
          generalize hy : World.setCell y3 ⟨k1, 0, none⟩ (.slice (some ⟨g3, 0, none⟩) (Pp.length + 1) c3) = z3 at *
          clear hy
          refine hK.out _ _ (.inr (by kernel_rfl)) ?_
          clear hK K
          refine wpL_done (by kernel_rfl) ?_ _
          have hl2 : (Pp ++ [letB n]).length = Pp.length + 1 := by simp
          have s0 := FX.out.seven.cell (j := 0) rfl
          have s1 := FX.out.seven.cell (j := 1) rfl
          have s2 := FX.out.seven.cell (j := 2) rfl
          have l0 := FX.out.last.cell (j := 0) rfl
          have l1 := FX.out.last.cell (j := 1) rfl
          have l2 := FX.out.last.cell (j := 2) rfl
          have f0 := FX.out.last.frozen 0
          have f1 := FX.out.last.frozen 1
          have f2 := FX.out.last.frozen 2
          gi_wp2_with fail
          clear s0 s1 s2 l0 l1 l2 f0 f1 f2
          refine wpIn_region_late (fun W => W.cell? ⟨k1, 0, none⟩ = some (.slice (some ⟨g3, 0, none⟩) (Pp.length + 1) c3) ∧ W.cell? ⟨Bx, 1, none⟩ = some (.int .i64 x2) ∧ W.cell? ⟨1, x2.toNat - 1, none⟩ = some (.string (wordB x2))) [8] (by kernel_rfl) (by kernel_rfl) (by rintro ⟨_, _, h⟩; exact h) ?_
          replace FX := Lib.hid (FX.out.lay.later (w_refl _).drew)
          generalize hy : World.drew (World.setCell _ _ _) = u at *
          clear hy
          refine wpL_load (i := 0) (v := .slice (some ⟨g3, 0, none⟩) (Pp.length + 1) c3) rfl (by kernel_rfl) (by kernel_rfl) (by kernel_rfl) (by kernel_rfl) (by kernel_rfl) (fun _ _ _ h => h) (Or.inl ⟨by kernel_rfl, fun W hW => by (obtain ⟨hA, hB, hC⟩ := hW; go_simp)⟩) ⟨FX.out.box.cell rfl, FX.out.way.cell (j := 1) rfl, TW.out _ FX.out.own.bel⟩ (by kernel_rfl) ?_
          refine wpL_take (i := 1) (v := .pointer (some ⟨Bx, 1, none⟩)) rfl (by kernel_rfl) (by kernel_rfl) (by kernel_rfl) (by kernel_rfl) (fun _ _ _ h => h) (Or.inl ⟨by kernel_rfl, fun _ => by go_simp⟩) (.inl ⟨FX.out.box.cell rfl, FX.out.way.cell (j := 1) rfl, TW.out _ FX.out.own.bel⟩) ?_
          refine wpL_load (i := 2) (v := .int .i64 x2) rfl (by kernel_rfl) (by kernel_rfl) (by kernel_rfl) (by kernel_rfl) (by kernel_rfl) (fun _ _ _ h => h) (Or.inl ⟨by kernel_rfl, fun W hW => by (obtain ⟨hA, hB, hC⟩ := hW; go_simp)⟩) ⟨FX.out.box.cell rfl, FX.out.way.cell (j := 1) rfl, TW.out _ FX.out.own.bel⟩ (by kernel_rfl) ?_
          refine wpL_take (i := 3) (v := .int .i64 (x2 - 1)) rfl (by kernel_rfl) (by kernel_rfl) (by kernel_rfl) (by kernel_rfl) (fun _ _ _ h => h) (Or.inl ⟨by kernel_rfl, fun _ => by go_simp⟩) (.inl ⟨FX.out.box.cell rfl, FX.out.way.cell (j := 1) rfl, TW.out _ FX.out.own.bel⟩) ?_
          refine wpL_take (i := 4) (v := .pointer (some ⟨1, x2.toNat - 1, none⟩)) rfl (by kernel_rfl) (by kernel_rfl) (by kernel_rfl) (by kernel_rfl) (fun _ _ _ h => h) (Or.inl ⟨by kernel_rfl, fun _ => by go_simp⟩) (.inl ⟨FX.out.box.cell rfl, FX.out.way.cell (j := 1) rfl, TW.out _ FX.out.own.bel⟩) ?_
          refine wpL_load (i := 5) (v := .string (wordB x2)) rfl (by kernel_rfl) (by kernel_rfl) (by kernel_rfl) (by kernel_rfl) (by kernel_rfl) (fun _ _ _ h => h) (Or.inl ⟨by kernel_rfl, fun W hW => by (obtain ⟨hA, hB, hC⟩ := hW; go_simp)⟩) ⟨FX.out.box.cell rfl, FX.out.way.cell (j := 1) rfl, TW.out _ FX.out.own.bel⟩ (by kernel_rfl) ?_
          refine wpL_ready (rs := [6]) (by kernel_rfl) (by simp) ?_
          refine AllL.cons rfl (fun K hK => ?_) AllL.nil
          rw [if_pos (by kernel_rfl)]
          go_simp
          have hLt := lit_new u #[.string (wordB x2)] 9
          replace FX := Lib.hid (FX.out.later (w_alloc (w_refl u) (.cells #[.string (wordB x2)] 9)))
          generalize hy : World.alloc u (.cells #[.string (wordB x2)] 9) = ub at *
          clear hy
          have LT := Lib.hid hLt
          clear hLt
          refine hK.out _ _ (.inl ⟨FX.out.box.cell rfl, FX.out.way.cell (j := 1) rfl, TW.out _ FX.out.own.bel⟩) ?_
          clear hK K
          refine wpL_ready (rs := [7]) (by kernel_rfl) (by simp) ?_
          refine AllL.cons rfl (fun K hK => ?_) AllL.nil
          refine step_append_lies _ rfl (.tmp 34) (.tmp 40) 70 rfl w.heap.size 9 i0 (.string ⟨#[]⟩) 1 16 Tryd.underlying70 hi0 hz0 hz1 hz2 rfl (by decide) (.slice (some ⟨g3, 0, none⟩) (Pp.length + 1) c3) (Pp.length + 1) (strs (Pp ++ [letB n])) (by rfl) (by have := FX.out.own.row; rw [hl2] at this; exact this) ⟨u.heap.size, 0, none⟩ 1 1 [.string (wordB x2)] (by rfl) rfl LT.out (strs_one [wordB x2]) (by decide) (by unfold maxLen; omega) (by omega) FX.out.own.bel.size _ rfl ?_
          intro g6 c6 y6 hown hgrow hat hlt
          have KP := Lib.hid (show _ ∧ _ from ⟨FX.out.kept hgrow, FX.out.own.far (w_refl _) hgrow⟩)
          have PU := Lib.hid (FX.out.push (wordB x2) (by rw [hl2]; exact hown) hgrow)
          clear FX hown hgrow hat hlt LT
          refine hK.out _ _ (.inl ⟨KP.out.1.1.cell rfl, KP.out.1.2.2.cell (j := 1) rfl, TW.out _ KP.out.2⟩) ?_
          clear hK K
          refine wpL_ready (rs := [8]) (by kernel_rfl) (by simp) ?_
          refine AllL.cons rfl (fun K hK => ?_) AllL.nil
          have e0 := KP.out.1.1.cell (j := 0) rfl
          have e1 := KP.out.1.1.frozen 0
          rw [if_pos (by kernel_rfl)]
          go_simp
          clear e0 e1 KP
          have FX := Lib.hid PU.out
          clear PU
          generalize hy : World.setCell y6 ⟨k1, 0, none⟩ (.slice (some ⟨g6, 0, none⟩) (Pp.length + 1 + 1) c6) = z6 at *
          clear hy
          refine hK.out _ _ (.inr (by kernel_rfl)) ?_
          clear hK K
          refine wpL_done (by kernel_rfl) ?_ _
          gi_wp2_with fail
          show Mid _ _ _ ∧ _
          dsimp only
          rw [HF.out, hsz]
          exact ⟨FX.out.mid, ⟨⟨_, FX.out.box, FX.out.own⟩, FX.out.last⟩, FX.out.num, FX.out.num0⟩
        · subst e0
          have b0 := FX.out.box.cell (j := 0) rfl
          have s0 := FX.out.seven.cell (j := 0) rfl
          have s1 := FX.out.seven.cell (j := 1) rfl
          have s2 := FX.out.seven.cell (j := 2) rfl
          have l0 := FX.out.last.cell (j := 0) rfl
          have l1 := FX.out.last.cell (j := 1) rfl
          have l2 := FX.out.last.cell (j := 2) rfl
          gi_wp2_with fail
          clear b0 s0 s1 s2 l0 l1 l2
          refine wpIn_region_late (fun W => W.cell? ⟨k1, 0, none⟩ = some (.slice q0 Pp.length c0) ∧ W.cell? ⟨w.heap.size, 0, none⟩ = some (.int .i64 n)) [5] (by kernel_rfl) (by kernel_rfl) (by rintro ⟨_, _, h⟩; exact h) ?_
          replace FX := Lib.hid (FX.out.later (w_refl _).drew)
          generalize hy : World.drew (World.alloc w3 _) = y at *
          clear hy
          refine wpL_load (i := 0) (v := .slice q0 Pp.length c0) rfl (by kernel_rfl) (by kernel_rfl) (by kernel_rfl) (by kernel_rfl) (by kernel_rfl) (fun _ _ _ h => h) (Or.inl ⟨by kernel_rfl, fun W hW => by (obtain ⟨hA, hB⟩ := hW; go_simp)⟩) ⟨FX.out.box.cell rfl, FX.out.num0.cell rfl⟩ (by kernel_rfl) ?_
          refine wpL_load (i := 1) (v := .int .i64 n) rfl (by kernel_rfl) (by kernel_rfl) (by kernel_rfl) (by kernel_rfl) (by kernel_rfl) (fun _ _ _ h => h) (Or.inl ⟨by kernel_rfl, fun W hW => by (obtain ⟨hA, hB⟩ := hW; go_simp)⟩) ⟨FX.out.box.cell rfl, FX.out.num0.cell rfl⟩ (by kernel_rfl) ?_
          refine wpL_ready (rs := [2]) (by kernel_rfl) (by simp) ?_
          refine AllL.cons rfl (fun K hK => ?_) AllL.nil
          rw [if_pos (by kernel_rfl)]
          go_simp
          go_at_call 51
          refine (LE.out _).mono ?_
          rintro e ya ⟨rfl, hb⟩
          replace FX := Lib.hid (FX.out.later hb)
          clear hb
          go_simp
          refine hK.out _ _ (.inl ⟨FX.out.box.cell rfl, FX.out.num0.cell rfl⟩) ?_
          clear hK K
          refine wpL_ready (rs := [3]) (by kernel_rfl) (by simp) ?_
          refine AllL.cons rfl (fun K hK => ?_) AllL.nil
          rw [if_pos (by kernel_rfl)]
          go_simp
          have hLt := lit_new ya #[.string (letB n)] 9
          replace FX := Lib.hid (FX.out.later (w_alloc (w_refl ya) (.cells #[.string (letB n)] 9)))
          generalize hy : World.alloc ya (.cells #[.string (letB n)] 9) = yab at *
          clear hy
          have LT := Lib.hid hLt
          clear hLt
          refine hK.out _ _ (.inl ⟨FX.out.box.cell rfl, FX.out.num0.cell rfl⟩) ?_
          clear hK K
          refine wpL_ready (rs := [4]) (by kernel_rfl) (by simp) ?_
          refine AllL.cons rfl (fun K hK => ?_) AllL.nil
          refine step_append_lies _ rfl (.tmp 28) (.tmp 31) 70 rfl w.heap.size 9 i0 (.string ⟨#[]⟩) 1 16 Tryd.underlying70 hi0 hz0 hz1 hz2 rfl (by decide) (.slice q0 Pp.length c0) (Pp.length) (strs (Pp)) (by rfl) FX.out.own.row ⟨ya.heap.size, 0, none⟩ 1 1 [.string (letB n)] (by rfl) rfl LT.out (strs_one [letB n]) (by decide) (by unfold maxLen; omega) (by omega) FX.out.own.bel.size _ rfl ?_
          intro g3 c3 y3 hown hgrow hat hlt
          have KP := Lib.hid (show _ ∧ _ from ⟨FX.out.kept hgrow, FX.out.own.far (w_refl _) hgrow⟩)
          have PU := Lib.hid (FX.out.push (letB n) hown hgrow)
          clear FX hown hgrow hat hlt LT
          refine hK.out _ _ (.inl ⟨KP.out.1.1.cell rfl, KP.out.1.2.1.cell rfl⟩) ?_
          clear hK K
          refine wpL_ready (rs := [5]) (by kernel_rfl) (by simp) ?_
          refine AllL.cons rfl (fun K hK => ?_) AllL.nil
          have e0 := KP.out.1.1.cell (j := 0) rfl
          have e1 := KP.out.1.1.frozen 0
          rw [if_pos (by kernel_rfl)]
          go_simp
          clear e0 e1 KP
          have FX := Lib.hid PU.out
          clear PU
          generalize hy : World.setCell y3 ⟨k1, 0, none⟩ (.slice (some ⟨g3, 0, none⟩) (Pp.length + 1) c3) = z3 at *
          clear hy
          refine hK.out _ _ (.inr (by kernel_rfl)) ?_
          clear hK K
          refine wpL_done (by kernel_rfl) ?_ _
          have hl2 : (Pp ++ [letB n]).length = Pp.length + 1 := by simp
          have s0 := FX.out.seven.cell (j := 0) rfl
          have s1 := FX.out.seven.cell (j := 1) rfl
          have s2 := FX.out.seven.cell (j := 2) rfl
          have l0 := FX.out.last.cell (j := 0) rfl
          have l1 := FX.out.last.cell (j := 1) rfl
          have l2 := FX.out.last.cell (j := 2) rfl
          have f0 := FX.out.last.frozen 0
          have f1 := FX.out.last.frozen 1
          have f2 := FX.out.last.frozen 2
          gi_wp2_with fail
          clear s0 s1 s2 l0 l1 l2 f0 f1 f2
          refine wpIn_region_late (fun W => W.cell? ⟨k1, 0, none⟩ = some (.slice (some ⟨g3, 0, none⟩) (Pp.length + 1) c3) ∧ W.cell? ⟨Bx, 1, none⟩ = some (.int .i64 x2) ∧ W.cell? ⟨1, x2.toNat - 1, none⟩ = some (.string (wordB x2))) [8] (by kernel_rfl) (by kernel_rfl) (by rintro ⟨_, _, h⟩; exact h) ?_
          replace FX := Lib.hid (FX.out.lay.later (w_refl _).drew)
          generalize hy : World.drew (World.setCell _ _ _) = u at *
          clear hy
          refine wpL_load (i := 0) (v := .slice (some ⟨g3, 0, none⟩) (Pp.length + 1) c3) rfl (by kernel_rfl) (by kernel_rfl) (by kernel_rfl) (by kernel_rfl) (by kernel_rfl) (fun _ _ _ h => h) (Or.inl ⟨by kernel_rfl, fun W hW => by (obtain ⟨hA, hB, hC⟩ := hW; go_simp)⟩) ⟨FX.out.box.cell rfl, FX.out.way.cell (j := 1) rfl, TW.out _ FX.out.own.bel⟩ (by kernel_rfl) ?_
          refine wpL_take (i := 1) (v := .pointer (some ⟨Bx, 1, none⟩)) rfl (by kernel_rfl) (by kernel_rfl) (by kernel_rfl) (by kernel_rfl) (fun _ _ _ h => h) (Or.inl ⟨by kernel_rfl, fun _ => by go_simp⟩) (.inl ⟨FX.out.box.cell rfl, FX.out.way.cell (j := 1) rfl, TW.out _ FX.out.own.bel⟩) ?_
          refine wpL_load (i := 2) (v := .int .i64 x2) rfl (by kernel_rfl) (by kernel_rfl) (by kernel_rfl) (by kernel_rfl) (by kernel_rfl) (fun _ _ _ h => h) (Or.inl ⟨by kernel_rfl, fun W hW => by (obtain ⟨hA, hB, hC⟩ := hW; go_simp)⟩) ⟨FX.out.box.cell rfl, FX.out.way.cell (j := 1) rfl, TW.out _ FX.out.own.bel⟩ (by kernel_rfl) ?_
          refine wpL_take (i := 3) (v := .int .i64 (x2 - 1)) rfl (by kernel_rfl) (by kernel_rfl) (by kernel_rfl) (by kernel_rfl) (fun _ _ _ h => h) (Or.inl ⟨by kernel_rfl, fun _ => by go_simp⟩) (.inl ⟨FX.out.box.cell rfl, FX.out.way.cell (j := 1) rfl, TW.out _ FX.out.own.bel⟩) ?_
          refine wpL_take (i := 4) (v := .pointer (some ⟨1, x2.toNat - 1, none⟩)) rfl (by kernel_rfl) (by kernel_rfl) (by kernel_rfl) (by kernel_rfl) (fun _ _ _ h => h) (Or.inl ⟨by kernel_rfl, fun _ => by go_simp⟩) (.inl ⟨FX.out.box.cell rfl, FX.out.way.cell (j := 1) rfl, TW.out _ FX.out.own.bel⟩) ?_
          refine wpL_load (i := 5) (v := .string (wordB x2)) rfl (by kernel_rfl) (by kernel_rfl) (by kernel_rfl) (by kernel_rfl) (by kernel_rfl) (fun _ _ _ h => h) (Or.inl ⟨by kernel_rfl, fun W hW => by (obtain ⟨hA, hB, hC⟩ := hW; go_simp)⟩) ⟨FX.out.box.cell rfl, FX.out.way.cell (j := 1) rfl, TW.out _ FX.out.own.bel⟩ (by kernel_rfl) ?_
          refine wpL_ready (rs := [6]) (by kernel_rfl) (by simp) ?_
          refine AllL.cons rfl (fun K hK => ?_) AllL.nil
          rw [if_pos (by kernel_rfl)]
          go_simp
          have hLt := lit_new u #[.string (wordB x2)] 9
          replace FX := Lib.hid (FX.out.later (w_alloc (w_refl u) (.cells #[.string (wordB x2)] 9)))
          generalize hy : World.alloc u (.cells #[.string (wordB x2)] 9) = ub at *
          clear hy
          have LT := Lib.hid hLt
          clear hLt
          refine hK.out _ _ (.inl ⟨FX.out.box.cell rfl, FX.out.way.cell (j := 1) rfl, TW.out _ FX.out.own.bel⟩) ?_
          clear hK K
          refine wpL_ready (rs := [7]) (by kernel_rfl) (by simp) ?_
          refine AllL.cons rfl (fun K hK => ?_) AllL.nil
          refine step_append_lies _ rfl (.tmp 34) (.tmp 40) 70 rfl w.heap.size 9 i0 (.string ⟨#[]⟩) 1 16 Tryd.underlying70 hi0 hz0 hz1 hz2 rfl (by decide) (.slice (some ⟨g3, 0, none⟩) (Pp.length + 1) c3) (Pp.length + 1) (strs (Pp ++ [letB n])) (by rfl) (by have := FX.out.own.row; rw [hl2] at this; exact this) ⟨u.heap.size, 0, none⟩ 1 1 [.string (wordB x2)] (by rfl) rfl LT.out (strs_one [wordB x2]) (by decide) (by unfold maxLen; omega) (by omega) FX.out.own.bel.size _ rfl ?_
          intro g6 c6 y6 hown hgrow hat hlt
          have KP := Lib.hid (show _ ∧ _ from ⟨FX.out.kept hgrow, FX.out.own.far (w_refl _) hgrow⟩)
          have PU := Lib.hid (FX.out.push (wordB x2) (by rw [hl2]; exact hown) hgrow)
          clear FX hown hgrow hat hlt LT
          refine hK.out _ _ (.inl ⟨KP.out.1.1.cell rfl, KP.out.1.2.2.cell (j := 1) rfl, TW.out _ KP.out.2⟩) ?_
          clear hK K
          refine wpL_ready (rs := [8]) (by kernel_rfl) (by simp) ?_
          refine AllL.cons rfl (fun K hK => ?_) AllL.nil
          have e0 := KP.out.1.1.cell (j := 0) rfl
          have e1 := KP.out.1.1.frozen 0
          rw [if_pos (by kernel_rfl)]
          go_simp
          clear e0 e1 KP
          have FX := Lib.hid PU.out
          clear PU
          generalize hy : World.setCell y6 ⟨k1, 0, none⟩ (.slice (some ⟨g6, 0, none⟩) (Pp.length + 1 + 1) c6) = z6 at *
          clear hy
          refine hK.out _ _ (.inr (by kernel_rfl)) ?_
          clear hK K
          refine wpL_done (by kernel_rfl) ?_ _
          gi_wp2_with fail
          show Mid _ _ _ ∧ _
          dsimp only
          rw [HF.out, hsz]
          exact ⟨FX.out.mid, ⟨⟨_, FX.out.box, FX.out.own⟩, FX.out.last⟩, FX.out.num, FX.out.num0⟩
        · subst e0
          subst e3
          have b0 := FX.out.box.cell (j := 0) rfl
          have s0 := FX.out.seven.cell (j := 0) rfl
          have s1 := FX.out.seven.cell (j := 1) rfl
          have s2 := FX.out.seven.cell (j := 2) rfl
          have l0 := FX.out.last.cell (j := 0) rfl
          have l1 := FX.out.last.cell (j := 1) rfl
          have l2 := FX.out.last.cell (j := 2) rfl
          gi_wp2_with fail
          clear b0 s0 s1 s2 l0 l1 l2
          refine wpIn_region_late (fun W => W.cell? ⟨k1, 0, none⟩ = some (.slice q0 Pp.length c0) ∧ W.cell? ⟨w.heap.size, 0, none⟩ = some (.int .i64 n)) [5] (by kernel_rfl) (by kernel_rfl) (by rintro ⟨_, _, h⟩; exact h) ?_
          replace FX := Lib.hid (FX.out.later (w_refl _).drew)
          generalize hy : World.drew (World.alloc w3 _) = y at *
          clear hy
          refine wpL_load (i := 0) (v := .slice q0 Pp.length c0) rfl (by kernel_rfl) (by kernel_rfl) (by kernel_rfl) (by kernel_rfl) (by kernel_rfl) (fun _ _ _ h => h) (Or.inl ⟨by kernel_rfl, fun W hW => by (obtain ⟨hA, hB⟩ := hW; go_simp)⟩) ⟨FX.out.box.cell rfl, FX.out.num0.cell rfl⟩ (by kernel_rfl) ?_
          refine wpL_load (i := 1) (v := .int .i64 n) rfl (by kernel_rfl) (by kernel_rfl) (by kernel_rfl) (by kernel_rfl) (by kernel_rfl) (fun _ _ _ h => h) (Or.inl ⟨by kernel_rfl, fun W hW => by (obtain ⟨hA, hB⟩ := hW; go_simp)⟩) ⟨FX.out.box.cell rfl, FX.out.num0.cell rfl⟩ (by kernel_rfl) ?_
          refine wpL_ready (rs := [2]) (by kernel_rfl) (by simp) ?_
          refine AllL.cons rfl (fun K hK => ?_) AllL.nil
          rw [if_pos (by kernel_rfl)]
          go_simp
          go_at_call 51
          refine (LE.out _).mono ?_
          rintro e ya ⟨rfl, hb⟩
          replace FX := Lib.hid (FX.out.later hb)
          clear hb
          go_simp
          refine hK.out _ _ (.inl ⟨FX.out.box.cell rfl, FX.out.num0.cell rfl⟩) ?_
          clear hK K
          refine wpL_ready (rs := [3]) (by kernel_rfl) (by simp) ?_
          refine AllL.cons rfl (fun K hK => ?_) AllL.nil
          rw [if_pos (by kernel_rfl)]
          go_simp
          have hLt := lit_new ya #[.string (letB n)] 9
          replace FX := Lib.hid (FX.out.later (w_alloc (w_refl ya) (.cells #[.string (letB n)] 9)))
          generalize hy : World.alloc ya (.cells #[.string (letB n)] 9) = yab at *
          clear hy
          have LT := Lib.hid hLt
          clear hLt
          refine hK.out _ _ (.inl ⟨FX.out.box.cell rfl, FX.out.num0.cell rfl⟩) ?_
          clear hK K
          refine wpL_ready (rs := [4]) (by kernel_rfl) (by simp) ?_
          refine AllL.cons rfl (fun K hK => ?_) AllL.nil
          refine step_append_lies _ rfl (.tmp 28) (.tmp 31) 70 rfl w.heap.size 9 i0 (.string ⟨#[]⟩) 1 16 Tryd.underlying70 hi0 hz0 hz1 hz2 rfl (by decide) (.slice q0 Pp.length c0) (Pp.length) (strs (Pp)) (by rfl) FX.out.own.row ⟨ya.heap.size, 0, none⟩ 1 1 [.string (letB n)] (by rfl) rfl LT.out (strs_one [letB n]) (by decide) (by unfold maxLen; omega) (by omega) FX.out.own.bel.size _ rfl ?_
          intro g3 c3 y3 hown hgrow hat hlt
          have KP := Lib.hid (show _ ∧ _ from ⟨FX.out.kept hgrow, FX.out.own.far (w_refl _) hgrow⟩)
          have PU := Lib.hid (FX.out.push (letB n) hown hgrow)
          clear FX hown hgrow hat hlt LT
          refine hK.out _ _ (.inl ⟨KP.out.1.1.cell rfl, KP.out.1.2.1.cell rfl⟩) ?_
          clear hK K
          refine wpL_ready (rs := [5]) (by kernel_rfl) (by simp) ?_
          refine AllL.cons rfl (fun K hK => ?_) AllL.nil
          have e0 := KP.out.1.1.cell (j := 0) rfl
          have e1 := KP.out.1.1.frozen 0
          rw [if_pos (by kernel_rfl)]
          go_simp
          clear e0 e1 KP
          have FX := Lib.hid PU.out
          clear PU
          generalize hy : World.setCell y3 ⟨k1, 0, none⟩ (.slice (some ⟨g3, 0, none⟩) (Pp.length + 1) c3) = z3 at *
          clear hy
          refine hK.out _ _ (.inr (by kernel_rfl)) ?_
          clear hK K
          refine wpL_done (by kernel_rfl) ?_ _
          have hl2 : (Pp ++ [letB n]).length = Pp.length + 1 := by simp
          have s0 := FX.out.seven.cell (j := 0) rfl
          have s1 := FX.out.seven.cell (j := 1) rfl
          have s2 := FX.out.seven.cell (j := 2) rfl
          have l0 := FX.out.last.cell (j := 0) rfl
          have l1 := FX.out.last.cell (j := 1) rfl
          have l2 := FX.out.last.cell (j := 2) rfl
          have f0 := FX.out.last.frozen 0
          have f1 := FX.out.last.frozen 1
          have f2 := FX.out.last.frozen 2
          gi_wp2_with fail
          clear s0 s1 s2 l0 l1 l2 f0 f1 f2
          refine wpIn_region_late (fun W => W.cell? ⟨k1, 0, none⟩ = some (.slice (some ⟨g3, 0, none⟩) (Pp.length + 1) c3) ∧ W.cell? ⟨Bx, 1, none⟩ = some (.int .i64 x2) ∧ W.cell? ⟨1, x2.toNat - 1, none⟩ = some (.string (wordB x2))) [8] (by kernel_rfl) (by kernel_rfl) (by rintro ⟨_, _, h⟩; exact h) ?_
          replace FX := Lib.hid (FX.out.lay.later (w_refl _).drew)
          generalize hy : World.drew (World.setCell _ _ _) = u at *
          clear hy
          refine wpL_load (i := 0) (v := .slice (some ⟨g3, 0, none⟩) (Pp.length + 1) c3) rfl (by kernel_rfl) (by kernel_rfl) (by kernel_rfl) (by kernel_rfl) (by kernel_rfl) (fun _ _ _ h => h) (Or.inl ⟨by kernel_rfl, fun W hW => by (obtain ⟨hA, hB, hC⟩ := hW; go_simp)⟩) ⟨FX.out.box.cell rfl, FX.out.way.cell (j := 1) rfl, TW.out _ FX.out.own.bel⟩ (by kernel_rfl) ?_
          refine wpL_take (i := 1) (v := .pointer (some ⟨Bx, 1, none⟩)) rfl (by kernel_rfl) (by kernel_rfl) (by kernel_rfl) (by kernel_rfl) (fun _ _ _ h => h) (Or.inl ⟨by kernel_rfl, fun _ => by go_simp⟩) (.inl ⟨FX.out.box.cell rfl, FX.out.way.cell (j := 1) rfl, TW.out _ FX.out.own.bel⟩) ?_
          refine wpL_load (i := 2) (v := .int .i64 x2) rfl (by kernel_rfl) (by kernel_rfl) (by kernel_rfl) (by kernel_rfl) (by kernel_rfl) (fun _ _ _ h => h) (Or.inl ⟨by kernel_rfl, fun W hW => by (obtain ⟨hA, hB, hC⟩ := hW; go_simp)⟩) ⟨FX.out.box.cell rfl, FX.out.way.cell (j := 1) rfl, TW.out _ FX.out.own.bel⟩ (by kernel_rfl) ?_
          refine wpL_take (i := 3) (v := .int .i64 (x2 - 1)) rfl (by kernel_rfl) (by kernel_rfl) (by kernel_rfl) (by kernel_rfl) (fun _ _ _ h => h) (Or.inl ⟨by kernel_rfl, fun _ => by go_simp⟩) (.inl ⟨FX.out.box.cell rfl, FX.out.way.cell (j := 1) rfl, TW.out _ FX.out.own.bel⟩) ?_
          refine wpL_take (i := 4) (v := .pointer (some ⟨1, x2.toNat - 1, none⟩)) rfl (by kernel_rfl) (by kernel_rfl) (by kernel_rfl) (by kernel_rfl) (fun _ _ _ h => h) (Or.inl ⟨by kernel_rfl, fun _ => by go_simp⟩) (.inl ⟨FX.out.box.cell rfl, FX.out.way.cell (j := 1) rfl, TW.out _ FX.out.own.bel⟩) ?_
          refine wpL_load (i := 5) (v := .string (wordB x2)) rfl (by kernel_rfl) (by kernel_rfl) (by kernel_rfl) (by kernel_rfl) (by kernel_rfl) (fun _ _ _ h => h) (Or.inl ⟨by kernel_rfl, fun W hW => by (obtain ⟨hA, hB, hC⟩ := hW; go_simp)⟩) ⟨FX.out.box.cell rfl, FX.out.way.cell (j := 1) rfl, TW.out _ FX.out.own.bel⟩ (by kernel_rfl) ?_
          refine wpL_ready (rs := [6]) (by kernel_rfl) (by simp) ?_
          refine AllL.cons rfl (fun K hK => ?_) AllL.nil
          rw [if_pos (by kernel_rfl)]
          go_simp
          have hLt := lit_new u #[.string (wordB x2)] 9
          replace FX := Lib.hid (FX.out.later (w_alloc (w_refl u) (.cells #[.string (wordB x2)] 9)))
          generalize hy : World.alloc u (.cells #[.string (wordB x2)] 9) = ub at *
          clear hy
          have LT := Lib.hid hLt
          clear hLt
          refine hK.out _ _ (.inl ⟨FX.out.box.cell rfl, FX.out.way.cell (j := 1) rfl, TW.out _ FX.out.own.bel⟩) ?_
          clear hK K
          refine wpL_ready (rs := [7]) (by kernel_rfl) (by simp) ?_
          refine AllL.cons rfl (fun K hK => ?_) AllL.nil
          refine step_append_lies _ rfl (.tmp 34) (.tmp 40) 70 rfl w.heap.size 9 i0 (.string ⟨#[]⟩) 1 16 Tryd.underlying70 hi0 hz0 hz1 hz2 rfl (by decide) (.slice (some ⟨g3, 0, none⟩) (Pp.length + 1) c3) (Pp.length + 1) (strs (Pp ++ [letB n])) (by rfl) (by have := FX.out.own.row; rw [hl2] at this; exact this) ⟨u.heap.size, 0, none⟩ 1 1 [.string (wordB x2)] (by rfl) rfl LT.out (strs_one [wordB x2]) (by decide) (by unfold maxLen; omega) (by omega) FX.out.own.bel.size _ rfl ?_
          intro g6 c6 y6 hown hgrow hat hlt
          have KP := Lib.hid (show _ ∧ _ from ⟨FX.out.kept hgrow, FX.out.own.far (w_refl _) hgrow⟩)
          have PU := Lib.hid (FX.out.push (wordB x2) (by rw [hl2]; exact hown) hgrow)
          clear FX hown hgrow hat hlt LT
          refine hK.out _ _ (.inl ⟨KP.out.1.1.cell rfl, KP.out.1.2.2.cell (j := 1) rfl, TW.out _ KP.out.2⟩) ?_
          clear hK K
          refine wpL_ready (rs := [8]) (by kernel_rfl) (by simp) ?_
          refine AllL.cons rfl (fun K hK => ?_) AllL.nil
          have e0 := KP.out.1.1.cell (j := 0) rfl
          have e1 := KP.out.1.1.frozen 0
          rw [if_pos (by kernel_rfl)]
          go_simp
          clear e0 e1 KP
          have FX := Lib.hid PU.out
          clear PU
          generalize hy : World.setCell y6 ⟨k1, 0, none⟩ (.slice (some ⟨g6, 0, none⟩) (Pp.length + 1 + 1) c6) = z6 at *
          clear hy
          refine hK.out _ _ (.inr (by kernel_rfl)) ?_
          clear hK K
          refine wpL_done (by kernel_rfl) ?_ _
          gi_wp2_with fail
          show Mid _ _ _ ∧ _
          dsimp only
          rw [HF.out, hsz]
          exact ⟨FX.out.mid, ⟨⟨_, FX.out.box, FX.out.own⟩, FX.out.last⟩, FX.out.num, FX.out.num0⟩
--END
  case done =>
    rintro D A hD ⟨⟨⟨v, h1, h2⟩, h3⟩, h4, h5⟩ hd
    obtain ⟨i, hi⟩ : ∃ i : Fin 20, (i.val : Int) = n := ⟨⟨n.toNat, by have := HN.out; omega⟩, by have := HN.out; simp only; omega⟩
    obtain ⟨t1, t2, t3, t4⟩ := nm_fin i
    rw [hi] at t1 t2 t3 t4
    have HV := Lib.hid (show (nameV n).1 = (nameAt n 7).1 by unfold nameV; rw [if_pos HN.out])
    have c1 := h1.cell (j := 0) rfl
    have H2 := Lib.hid h2
    have HD := Lib.hid hD
    clear h1 h2 h3 h4 h5 hD
    generalize (nmAll n (waysAtL n)).1 = Pp at *
    obtain ⟨g, cap, cur, rfl, _, hh, hle, _, _, _⟩ := (H2.out.row.2).resolve_left (fun x => by omega)
    have JO := Lib.hid (Tryd.strings_Join g 0 cap Pp ⟨#[32]⟩ A (fun j x hj => by
      obtain ⟨q, c, e, hs⟩ := SlP.of_own H2.out.row (by simp) (strs_one Pp)
      simp only [Value.slice.injEq] at e
      obtain ⟨rfl, _, rfl⟩ := e
      obtain ⟨b, off, e2, _, hc⟩ := hs.at_ t2
      simp only [Option.some.injEq, Addr.mk.injEq, and_true] at e2
      obtain ⟨rfl, rfl⟩ := e2
      exact hc j _ (by rw [List.getElem?_map, hj]; rfl)) (Array.getElem?_eq_some_iff.1 hh).1 (by omega) hle (by exact Nat.le_trans t3 (by decide)))
    rw [show ((⟨#[32]⟩ : ByteArray).data.toList) = [32] from rfl, t1, ← HV.out] at JO
    clear t1 t3 hh
    gi_wp2_with fail
    refine ⟨trivial, (callsIn_wide.2 JO.out).mono ?_⟩
    rintro e y ⟨rfl, hb⟩
    have hd2 := (hb.block D (Array.getElem?_eq_some_iff.1 hd).1).trans hd
    have HB := Lib.hid (w_below H2.out.bel hb)
    clear hb JO
    gi_wp2_with fail
    refine ⟨by simp, .inl ⟨_, _, rfl, run_takeDeferred hd2, ?_⟩⟩
    exact ⟨_, results_tmp2 rfl _ _ _, rfl, HB.out.trans (belowK_b (w := w) (Nat.le_refl _) y D _ _ (by have := HD.out; omega) hd2 rfl rfl)⟩
  case stop =>
    rintro D A hD hx hd
    exact hx.elim

theorem wname_any (n : Int) (w : World) (T : TabG w) : Calls Tryd.prog 18 #[.int .i64 n] w fun e w' => e = .returned (.tuple #[.string (nameV n).1, .int .i64 (nameV n).2]) ∧ Below w.heap.size w w' := by
  by_cases h : 0 ≤ n ∧ n ≤ 19
  · have e : (nameV n).2 = 0 := by unfold nameV; rw [if_pos h]
    rw [e]
    exact wname_ok n h w T
  · have e : nameV n = (⟨#[]⟩, 2) := by unfold nameV; rw [if_neg h]
    rw [e]
    have P := Lib.hid (fun W => wisplace_any n W)
    rw [show decide (0 ≤ n ∧ n ≤ 19) = false from decide_eq_false h] at P
    clear h e T
    go_enter Tryd.func18, Tryd.ntmps18
    go_wp2_with fail
    refine (P.out _).mono ?_
    rintro e w1 ⟨rfl, hb⟩
    have hB := Lib.hid (w_below (w_alloc (w_refl w) _) hb)
    clear hb P
    go_wp2_with fail
    go_ret2
    exact ⟨rfl, hB.out⟩

end Go.Proofs.YtaldbjhalpgkeaaDoor
