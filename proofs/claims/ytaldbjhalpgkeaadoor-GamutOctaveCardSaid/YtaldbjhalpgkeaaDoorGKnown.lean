/- The chapter's examples: GamutKnown. -/
import Derived.Test.YtaldbjhalpgkeaaDoorGLawG
import Derived.Deep.RegionHeld3
import Derived.Deep.DeepCutAuto
namespace Go.Proofs.YtaldbjhalpgkeaaDoor
open Go.RowKit

abbrev flatK : Pi3 := (6, 3, -1)
abbrev sharpK : Pi3 := (3, 4, 1)
abbrev lowK : Pi3 := (3, 2, 0)
/-- The three pitches of the examples stand. -/
structure KW (w W : World) : Prop where
  bel : Below w.heap.size w W
  A : Cell3 W w.heap.size flatK
  B : Cell3 W (w.heap.size + 1) sharpK
  C : Cell3 W (w.heap.size + 1 + 1) lowK
theorem KW.later {w W W' : World} (h : KW w W) (k : Below W.heap.size W W') : KW w W' := ⟨w_below h.bel k, h.A.later k, h.B.later k, h.C.later k⟩
theorem KW.start (w : World) : KW w (((w.alloc (pO flatK)).alloc (pO sharpK)).alloc (pO lowK)) := by
  refine ⟨w_alloc (w_alloc (w_alloc (w_refl w) _) _) _, ((Cell3.made w flatK 23).later (w_alloc (w_refl _) (pO sharpK))).later (w_alloc (w_refl _) (pO lowK)), ?_, ?_⟩
  · have := (Cell3.made (w.alloc (pO flatK)) sharpK 23).later (w_alloc (w_refl _) (pO lowK))
    rwa [World.size_alloc] at this
  · have := Cell3.made ((w.alloc (pO flatK)).alloc (pO sharpK)) lowK 23
    rwa [World.size_alloc, World.size_alloc] at this
def KS (w W : World) : Prop := W.cell? ⟨w.heap.size, 0, none⟩ = some (.int .i64 6) ∧ W.cell? ⟨w.heap.size, 1, none⟩ = some (.int .i64 3) ∧ W.cell? ⟨w.heap.size, 2, none⟩ = some (.int .i64 (-1)) ∧
  W.cell? ⟨w.heap.size + 1, 0, none⟩ = some (.int .i64 3) ∧ W.cell? ⟨w.heap.size + 1, 1, none⟩ = some (.int .i64 4) ∧ W.cell? ⟨w.heap.size + 1, 2, none⟩ = some (.int .i64 1) ∧
  W.cell? ⟨w.heap.size + 1 + 1, 0, none⟩ = some (.int .i64 3) ∧ W.cell? ⟨w.heap.size + 1 + 1, 1, none⟩ = some (.int .i64 2) ∧ W.cell? ⟨w.heap.size + 1 + 1, 2, none⟩ = some (.int .i64 0)
theorem KW.s {w W : World} (h : KW w W) : KS w W := ⟨h.A.c0, h.A.c1, h.A.c2, h.B.c0, h.B.c1, h.B.c2, h.C.c0, h.C.c1, h.C.c2⟩

theorem kn_w0 : waysL (natP 0) = [(1, 1)] := by decide +kernel
theorem kn_w9 : waysL (natP 9) = [(4, 3)] := by decide +kernel
theorem kn_w19 : waysL (natP 19) = [(7, 6)] := by decide +kernel
theorem kn_wf : waysL flatK = [(3, 4)] := by decide +kernel
theorem kn_ws : waysL sharpK = [] := by decide +kernel
theorem kn_wl : waysL lowK = [] := by decide +kernel
theorem kn_ok0 : okP (natP 0) := by decide +kernel
theorem kn_ok9 : okP (natP 9) := by decide +kernel
theorem kn_ok19 : okP (natP 19) := by decide +kernel
theorem kn_okf : okP flatK := by decide +kernel
theorem kn_oks : okP sharpK := by decide +kernel
theorem kn_okl : okP lowK := by decide +kernel

theorem SlP.lit0 (w : World) (l : List Sy) (t : TypeId) (h : l.length ≤ 1000) : SlP ((w.alloc (.cells (flatS l).toArray t))) 2 (some ⟨w.heap.size, 0, none⟩) l.length l.length (flatS l) := SlP.lit w l t h
theorem SlP.nil0 (w : World) : SlP w 2 none ([] : List Sy).length 0 (flatS []) := ⟨rfl, by simp, by omega, fun _ => rfl, by simp [flatS], fun h => by simp at h⟩

/-- sung over a list of one that was just written out. -/
theorem sungL_any (p : Pi3) (s : Sy) (W : World) (hp : okP p) (hw : waysL p = [s]) (tab : TabG W) :
    Calls Tryd.prog 30 #[pv p, .slice (some ⟨W.heap.size, 0, none⟩) 1 1] (W.alloc (.cells #[.int .i64 s.1, .int .i64 s.2] 25)) fun e w' => e = .returned (.bool true) ∧ Below W.heap.size W w' := by
  refine (sung_any p (some ⟨W.heap.size, 0, none⟩) 1 [s] _ hp hw (SlP.lit W [s] 25 (by simp)) (tab.later (w_alloc (w_refl _) _))).mono ?_
  rintro e w' ⟨rfl, hb⟩
  exact ⟨rfl, w_below (w_alloc (w_refl _) _) hb⟩
theorem sungN_any (p : Pi3) (W : World) (hp : okP p) (hw : waysL p = []) (tab : TabG W) :
    Calls Tryd.prog 30 #[pv p, .slice none 0 0] W fun e w' => e = .returned (.bool true) ∧ Below W.heap.size W w' :=
  sung_any p none 0 [] _ hp hw (SlP.nil0 W) tab

theorem SlP.litP (w : World) (l : List Pi3) (t : TypeId) (h : l.length ≤ 1000) : SlP (w.alloc (.cells (flatP l).toArray t)) 3 (some ⟨w.heap.size, 0, none⟩) l.length l.length (flatP l) := by
  refine ⟨flatP_len l, Nat.le_refl _, by omega, fun e => (by cases e), flatP_one l, fun _ => ⟨w.heap.size, 0, rfl, by simp, fun j u hj => ?_⟩⟩
  have := lit_new w (flatP l).toArray t j u (by simpa using hj)
  rwa [add_none] at this
theorem SlP.lit1 (w : World) (l : List Value) (t : TypeId) (h : l.length ≤ 1000) (ho : ∀ u ∈ l, u.oneCell' = true) : SlP (w.alloc (.cells l.toArray t)) 1 (some ⟨w.heap.size, 0, none⟩) l.length l.length l := by
  refine ⟨by omega, Nat.le_refl _, by omega, fun e => (by cases e), ho, fun _ => ⟨w.heap.size, 0, rfl, by simp, fun j u hj => ?_⟩⟩
  have := lit_new w l.toArray t j u (by simpa using hj)
  rwa [add_none] at this

theorem sol_at {l : List Pi3} {m : List Sy} {k : Nat} {er : Int} (h1 : solL l = m) (h2 : movesL m = k) (h3 : solErr l = er) (p : Option Addr) (cap : Nat) (W : World) (h : SlP W 3 p l.length cap (flatP l)) (T : TabG W) :
    Calls Tryd.prog 23 #[.slice p l.length cap] W fun e w' => ∃ q c, e = .returned (.tuple #[.slice q m.length c, .int .i64 k, .int .i64 er]) ∧ SlP w' 2 q m.length c (flatS m) ∧ Below W.heap.size W w' := by
  subst h1 h2 h3
  refine (wsolmize_any p cap l W h T).mono ?_
  rintro e w' ⟨v, rfl, ⟨q, c, rfl, hs⟩, hb⟩
  exact ⟨q, c, rfl, hs, hb⟩
theorem sola_at {l : List Pi3} {m : List Sy} {k : Nat} {er : Int} (h1 : solL l = m) (h2 : movesL m = k) (h3 : solErr l = er) (hl : l.length ≤ 1000) (W : World) (T : TabG W) :
    Calls Tryd.prog 23 #[.slice (some ⟨W.heap.size, 0, none⟩) l.length l.length] (W.alloc (.cells (flatP l).toArray 23)) fun e w' => ∃ q c, e = .returned (.tuple #[.slice q m.length c, .int .i64 k, .int .i64 er]) ∧ SlP w' 2 q m.length c (flatS m) ∧ Below W.heap.size W w' := by
  refine (sol_at h1 h2 h3 _ _ _ (SlP.litP W l 23 hl) (T.later (w_alloc (w_refl _) _))).mono ?_
  rintro e w' ⟨q, c, rfl, hs, hb⟩
  exact ⟨q, c, rfl, hs, w_below (w_alloc (w_refl _) _) hb⟩
theorem samel_at (l : List Sy) (hl : l.length ≤ 1000) (q : Option Addr) (c : Nat) (W : World) (h : SlP W 2 q l.length c (flatS l)) :
    Calls Tryd.prog 15 #[.slice q l.length c, .slice (some ⟨W.heap.size, 0, none⟩) l.length l.length] (W.alloc (.cells (flatS l).toArray 25)) fun e w' => e = .returned (.bool true) ∧ Below W.heap.size W w' := by
  refine (sames_any q _ c _ l _ (h.later (w_alloc (w_refl _) _)) (SlP.lit W l 25 hl)).mono ?_
  rintro e w' ⟨rfl, hb⟩
  exact ⟨rfl, w_below (w_alloc (w_refl _) _) hb⟩
theorem samei_at (z : Int) (q : Option Addr) (c : Nat) (W : World) (h : SlP W 1 q 1 c (ints [z])) :
    Calls Tryd.prog 27 #[.slice q 1 c, .slice (some ⟨W.heap.size, 0, none⟩) 1 1] (W.alloc (.cells #[.int .i64 z] 3)) fun e w' => e = .returned (.bool true) ∧ Below W.heap.size W w' := by
  refine (samei_any q _ c _ [z] _ (h.later (w_alloc (w_refl _) _)) (SlP.lit1 W (ints [z]) 3 (by simp) (by intro u hu; simp at hu; subst hu; rfl))).mono ?_
  rintro e w' ⟨rfl, hb⟩
  exact ⟨rfl, w_below (w_alloc (w_refl _) _) hb⟩
theorem sameb_at (z : Bool) (q : Option Addr) (c : Nat) (W : World) (h : SlP W 1 q 1 c (bools [z])) :
    Calls Tryd.prog 28 #[.slice q 1 c, .slice (some ⟨W.heap.size, 0, none⟩) 1 1] (W.alloc (.cells #[.bool z] 4)) fun e w' => e = .returned (.bool true) ∧ Below W.heap.size W w' := by
  refine (sameb_any q _ c _ [z] _ (h.later (w_alloc (w_refl _) _)) (SlP.lit1 W (bools [z]) 4 (by simp) (by intro u hu; simp at hu; subst hu; rfl))).mono ?_
  rintro e w' ⟨rfl, hb⟩
  exact ⟨rfl, w_below (w_alloc (w_refl _) _) hb⟩
theorem mut_at {l : List Sy} {zs : List Int} {bs : List Bool} (h1 : mutE l = 0) (h2 : mutI l = zs) (h3 : mutB l = bs) (p : Option Addr) (cap : Nat) (W : World) (h : SlP W 2 p l.length cap (flatS l)) (T : TabG W) :
    Calls Tryd.prog 25 #[.slice p l.length cap] W fun e w' => ∃ q c r d, e = .returned (.tuple #[.slice q zs.length c, .slice r bs.length d, .int .i64 0]) ∧ SlP w' 1 q zs.length c (ints zs) ∧ SlP w' 1 r bs.length d (bools bs) ∧ Below W.heap.size W w' := by
  subst h2 h3
  refine (wmutations_any p cap l W h T).mono ?_
  rintro e w' ⟨v, u, rfl, ⟨q, c, rfl, hs⟩, ⟨r, d, rfl, ht⟩, hb⟩
  exact ⟨q, c, r, d, by rw [h1], hs, ht, hb⟩
theorem mutl_at {l : List Sy} {zs : List Int} {bs : List Bool} (h1 : mutE l = 0) (h2 : mutI l = zs) (h3 : mutB l = bs) (hl : l.length ≤ 1000) (W : World) (T : TabG W) :
    Calls Tryd.prog 25 #[.slice (some ⟨W.heap.size, 0, none⟩) l.length l.length] (W.alloc (.cells (flatS l).toArray 25)) fun e w' => ∃ q c r d, e = .returned (.tuple #[.slice q zs.length c, .slice r bs.length d, .int .i64 0]) ∧ SlP w' 1 q zs.length c (ints zs) ∧ SlP w' 1 r bs.length d (bools bs) ∧ Below W.heap.size W w' := by
  refine (mut_at h1 h2 h3 _ _ _ (SlP.lit W l 25 hl) (T.later (w_alloc (w_refl _) _))).mono ?_
  rintro e w' ⟨q, c, r, d, rfl, hs, ht, hb⟩
  exact ⟨q, c, r, d, rfl, hs, ht, w_below (w_alloc (w_refl _) _) hb⟩

theorem kn_n0 : natP 0 = (4, 2, 0) := by decide +kernel
theorem kn_n9 : natP 9 = (6, 3, 0) := by decide +kernel
theorem kn_n13 : natP 13 = (3, 4, 0) := by decide +kernel
theorem kn_n19 : natP 19 = (2, 5, 0) := by decide +kernel
theorem nat_at {n : Int} {p : Pi3} (e : natP n = p) (hn : 0 ≤ n ∧ n ≤ 100) (W : World) : Calls Tryd.prog 31 #[.int .i64 n] W fun e w' => e = .returned (pv p) ∧ Below W.heap.size W w' := by
  rw [← e]; exact natural_any n hn W
theorem place_at {p : Pi3} {a er : Int} (e : placeV p = (a, er)) (W : World) (T : TabG W) : Calls Tryd.prog 11 #[pv p] W fun e w' => e = .returned (.tuple #[.int .i64 a, .int .i64 er]) ∧ Below W.heap.size W w' := by
  have := wplace_any p W T
  rw [e] at this; exact this
theorem pitch_at {s : Sy} {p : Pi3} {er : Int} (e : pitV s = (p, er)) (W : World) (T : TabG W) : Calls Tryd.prog 16 #[sv s] W fun e w' => e = .returned (.tuple #[pv p, .int .i64 er]) ∧ Below W.heap.size W w' := by
  have := wpitch_any s W T
  rw [e] at this; exact this
theorem kn_p0 : placeV (4, 2, 0) = (0, 0) := by decide +kernel
theorem kn_p19 : placeV (2, 5, 0) = (19, 0) := by decide +kernel
theorem kn_pl : placeV lowK = (0, 2) := by decide +kernel
theorem kn_t1 : pitV (3, 4) = (flatK, 0) := by decide +kernel
theorem kn_t2 : pitV (7, 6) = ((2, 5, 0), 0) := by decide +kernel
theorem kn_t3 : pitV (8, 1) = ((0, 0, 0), 2) := by decide +kernel
theorem kn_s1 : solL (fromL 10 6) = [(5, 1), (5, 2), (5, 3), (5, 4), (5, 5), (5, 6)] ∧ movesL [(5, 1), (5, 2), (5, 3), (5, 4), (5, 5), (5, 6)] = 0 ∧ solErr (fromL 10 6) = 0 := by decide +kernel
theorem kn_s2 : solL [(6, 3, 0), (3, 4, 0)] = [(4, 3), (5, 4)] ∧ movesL [(4, 3), (5, 4)] = 1 ∧ solErr [(6, 3, 0), (3, 4, 0)] = 0 := by decide +kernel
theorem kn_s3 : solL [sharpK] = [] ∧ movesL [] = 0 ∧ solErr [sharpK] = 18 := by decide +kernel
theorem kn_s4 : solL [] = [] ∧ movesL [] = 0 ∧ solErr [] = 0 := by decide +kernel
theorem kn_m1 : mutE [(4, 3), (5, 4)] = 0 ∧ mutI [(4, 3), (5, 4)] = [1] ∧ mutB [(4, 3), (5, 4)] = [false] := by decide +kernel
theorem kn_m2 : mutE [(4, 6), (5, 4)] = 0 ∧ mutI [(4, 6), (5, 4)] = [1] ∧ mutB [(4, 6), (5, 4)] = [true] := by decide +kernel

set_option maxRecDepth 100000 in
set_option maxHeartbeats 8000000 in
theorem gknown_any (w : World) (tab : TabG w) : Calls Tryd.prog 6 #[] w fun e w' => e = .returned (.bool true) ∧ Below w.heap.size w w' := by
  have TB := Lib.hid (fun W (b : Below w.heap.size w W) => tab.later b)
  clear tab
  have NAM := Lib.hid (fun W b => named_any W (TB.out W b))
  have SY := Lib.hid (fun a b W => syl_any a b W)
  have NA0 := Lib.hid (fun W => natural_any 0 (by decide) W)
  have NA9 := Lib.hid (fun W => natural_any 9 (by decide) W)
  have NA19 := Lib.hid (fun W => natural_any 19 (by decide) W)
  have SU0 : Hid (∀ W, Below w.heap.size w W → Calls Tryd.prog 30 #[pv (natP 0), .slice (some ⟨W.heap.size, 0, none⟩) 1 1] (W.alloc (.cells #[.int .i64 1, .int .i64 1] 25)) fun e w' => e = .returned (.bool true) ∧ Below W.heap.size W w') := Lib.hid (fun W b => sungL_any (natP 0) (1, 1) W kn_ok0 kn_w0 (TB.out W b))
  have SU9 : Hid (∀ W, Below w.heap.size w W → Calls Tryd.prog 30 #[pv (natP 9), .slice (some ⟨W.heap.size, 0, none⟩) 1 1] (W.alloc (.cells #[.int .i64 4, .int .i64 3] 25)) fun e w' => e = .returned (.bool true) ∧ Below W.heap.size W w') := Lib.hid (fun W b => sungL_any (natP 9) (4, 3) W kn_ok9 kn_w9 (TB.out W b))
  have SU19 : Hid (∀ W, Below w.heap.size w W → Calls Tryd.prog 30 #[pv (natP 19), .slice (some ⟨W.heap.size, 0, none⟩) 1 1] (W.alloc (.cells #[.int .i64 7, .int .i64 6] 25)) fun e w' => e = .returned (.bool true) ∧ Below W.heap.size W w') := Lib.hid (fun W b => sungL_any (natP 19) (7, 6) W kn_ok19 kn_w19 (TB.out W b))
  have SUf : Hid (∀ W, Below w.heap.size w W → Calls Tryd.prog 30 #[.agg #[.int .i64 6, .int .i64 3, .int .i64 (-1)], .slice (some ⟨W.heap.size, 0, none⟩) 1 1] (W.alloc (.cells #[.int .i64 3, .int .i64 4] 25)) fun e w' => e = .returned (.bool true) ∧ Below W.heap.size W w') := Lib.hid (fun W b => sungL_any flatK (3, 4) W kn_okf kn_wf (TB.out W b))
  have SUs : Hid (∀ W, Below w.heap.size w W → Calls Tryd.prog 30 #[.agg #[.int .i64 3, .int .i64 4, .int .i64 1], .slice none 0 0] W fun e w' => e = .returned (.bool true) ∧ Below W.heap.size W w') := Lib.hid (fun W b => sungN_any sharpK W kn_oks kn_ws (TB.out W b))
  have SUl : Hid (∀ W, Below w.heap.size w W → Calls Tryd.prog 30 #[.agg #[.int .i64 3, .int .i64 2, .int .i64 0], .slice none 0 0] W fun e w' => e = .returned (.bool true) ∧ Below W.heap.size W w') := Lib.hid (fun W b => sungN_any lowK W kn_okl kn_wl (TB.out W b))
  generalize natP 0 = p0 at NA0 SU0
  generalize natP 9 = p9 at NA9 SU9
  generalize natP 19 = p19 at NA19 SU19
  have NB0 : Hid (∀ W, Below w.heap.size w W → Calls Tryd.prog 31 #[.int .i64 0] W fun e w' => e = .returned (.agg #[.int .i64 4, .int .i64 2, .int .i64 0]) ∧ Below W.heap.size W w') := Lib.hid (fun W b => nat_at kn_n0 (by decide) W)
  have NB9 : Hid (∀ W, Below w.heap.size w W → Calls Tryd.prog 31 #[.int .i64 9] W fun e w' => e = .returned (.agg #[.int .i64 6, .int .i64 3, .int .i64 0]) ∧ Below W.heap.size W w') := Lib.hid (fun W b => nat_at kn_n9 (by decide) W)
  have NB13 : Hid (∀ W, Below w.heap.size w W → Calls Tryd.prog 31 #[.int .i64 13] W fun e w' => e = .returned (.agg #[.int .i64 3, .int .i64 4, .int .i64 0]) ∧ Below W.heap.size W w') := Lib.hid (fun W b => nat_at kn_n13 (by decide) W)
  have NB19 : Hid (∀ W, Below w.heap.size w W → Calls Tryd.prog 31 #[.int .i64 19] W fun e w' => e = .returned (.agg #[.int .i64 2, .int .i64 5, .int .i64 0]) ∧ Below W.heap.size W w') := Lib.hid (fun W b => nat_at kn_n19 (by decide) W)
  have PL0 : Hid (∀ W, Below w.heap.size w W → Calls Tryd.prog 11 #[.agg #[.int .i64 4, .int .i64 2, .int .i64 0]] W fun e w' => e = .returned (.tuple #[.int .i64 0, .int .i64 0]) ∧ Below W.heap.size W w') := Lib.hid (fun W b => place_at kn_p0 W (TB.out W b))
  have PL19 : Hid (∀ W, Below w.heap.size w W → Calls Tryd.prog 11 #[.agg #[.int .i64 2, .int .i64 5, .int .i64 0]] W fun e w' => e = .returned (.tuple #[.int .i64 19, .int .i64 0]) ∧ Below W.heap.size W w') := Lib.hid (fun W b => place_at kn_p19 W (TB.out W b))
  have PLl : Hid (∀ W, Below w.heap.size w W → Calls Tryd.prog 11 #[.agg #[.int .i64 3, .int .i64 2, .int .i64 0]] W fun e w' => e = .returned (.tuple #[.int .i64 0, .int .i64 2]) ∧ Below W.heap.size W w') := Lib.hid (fun W b => place_at kn_pl W (TB.out W b))
  have PT1 : Hid (∀ W, Below w.heap.size w W → Calls Tryd.prog 16 #[sv (3, 4)] W fun e w' => e = .returned (.tuple #[.agg #[.int .i64 6, .int .i64 3, .int .i64 (-1)], .int .i64 0]) ∧ Below W.heap.size W w') := Lib.hid (fun W b => pitch_at kn_t1 W (TB.out W b))
  have PT2 : Hid (∀ W, Below w.heap.size w W → Calls Tryd.prog 16 #[sv (7, 6)] W fun e w' => e = .returned (.tuple #[.agg #[.int .i64 2, .int .i64 5, .int .i64 0], .int .i64 0]) ∧ Below W.heap.size W w') := Lib.hid (fun W b => pitch_at kn_t2 W (TB.out W b))
  have PT3 : Hid (∀ W, Below w.heap.size w W → Calls Tryd.prog 16 #[sv (8, 1)] W fun e w' => e = .returned (.tuple #[.agg #[.int .i64 0, .int .i64 0, .int .i64 0], .int .i64 2]) ∧ Below W.heap.size W w') := Lib.hid (fun W b => pitch_at kn_t3 W (TB.out W b))
  have FR := Lib.hid (fun W => from_any 10 6 (by decide) W)
  have SO1 : Hid (∀ p cap W, SlP W 3 p 6 cap (flatP (fromL 10 6)) → Below w.heap.size w W → Calls Tryd.prog 23 #[.slice p 6 cap] W fun e w' => ∃ q c, e = .returned (.tuple #[.slice q 6 c, .int .i64 0, .int .i64 0]) ∧ SlP w' 2 q 6 c (flatS [(5, 1), (5, 2), (5, 3), (5, 4), (5, 5), (5, 6)]) ∧ Below W.heap.size W w') := Lib.hid (fun p cap W h b => sol_at kn_s1.1 kn_s1.2.1 kn_s1.2.2 p cap W h (TB.out W b))
  have SO2 : Hid (∀ W, Below w.heap.size w W → Calls Tryd.prog 23 #[.slice (some ⟨W.heap.size, 0, none⟩) 2 2] (W.alloc (.cells #[.int .i64 6, .int .i64 3, .int .i64 0, .int .i64 3, .int .i64 4, .int .i64 0] 23)) fun e w' => ∃ q c, e = .returned (.tuple #[.slice q 2 c, .int .i64 1, .int .i64 0]) ∧ SlP w' 2 q 2 c (flatS [(4, 3), (5, 4)]) ∧ Below W.heap.size W w') := Lib.hid (fun W b => sola_at kn_s2.1 kn_s2.2.1 kn_s2.2.2 (by decide) W (TB.out W b))
  have SO3 : Hid (∀ W, Below w.heap.size w W → Calls Tryd.prog 23 #[.slice (some ⟨W.heap.size, 0, none⟩) 1 1] (W.alloc (.cells #[.int .i64 3, .int .i64 4, .int .i64 1] 23)) fun e w' => ∃ q c, e = .returned (.tuple #[.slice q 0 c, .int .i64 0, .int .i64 18]) ∧ SlP w' 2 q 0 c (flatS []) ∧ Below W.heap.size W w') := Lib.hid (fun W b => sola_at kn_s3.1 kn_s3.2.1 kn_s3.2.2 (by decide) W (TB.out W b))
  have SO4 : Hid (∀ W, Below w.heap.size w W → Calls Tryd.prog 23 #[.slice none 0 0] W fun e w' => ∃ q c, e = .returned (.tuple #[.slice q 0 c, .int .i64 0, .int .i64 0]) ∧ SlP w' 2 q 0 c (flatS []) ∧ Below W.heap.size W w') := Lib.hid (fun W b => sol_at kn_s4.1 kn_s4.2.1 kn_s4.2.2 none 0 W ⟨rfl, by simp, by omega, fun _ => rfl, by simp [flatP], fun h => by simp at h⟩ (TB.out W b))
  have SA6 : Hid (∀ q c W, SlP W 2 q 6 c (flatS [(5, 1), (5, 2), (5, 3), (5, 4), (5, 5), (5, 6)]) → Calls Tryd.prog 15 #[.slice q 6 c, .slice (some ⟨W.heap.size, 0, none⟩) 6 6] (W.alloc (.cells #[.int .i64 5, .int .i64 1, .int .i64 5, .int .i64 2, .int .i64 5, .int .i64 3, .int .i64 5, .int .i64 4, .int .i64 5, .int .i64 5, .int .i64 5, .int .i64 6] 25)) fun e w' => e = .returned (.bool true) ∧ Below W.heap.size W w') := Lib.hid (fun q c W h => samel_at [(5, 1), (5, 2), (5, 3), (5, 4), (5, 5), (5, 6)] (by decide) q c W h)
  have SA2 : Hid (∀ q c W, SlP W 2 q 2 c (flatS [(4, 3), (5, 4)]) → Calls Tryd.prog 15 #[.slice q 2 c, .slice (some ⟨W.heap.size, 0, none⟩) 2 2] (W.alloc (.cells #[.int .i64 4, .int .i64 3, .int .i64 5, .int .i64 4] 25)) fun e w' => e = .returned (.bool true) ∧ Below W.heap.size W w') := Lib.hid (fun q c W h => samel_at [(4, 3), (5, 4)] (by decide) q c W h)
  have MU1 : Hid (∀ p cap W, SlP W 2 p 2 cap (flatS [(4, 3), (5, 4)]) → Below w.heap.size w W → Calls Tryd.prog 25 #[.slice p 2 cap] W fun e w' => ∃ q c r d, e = .returned (.tuple #[.slice q 1 c, .slice r 1 d, .int .i64 0]) ∧ SlP w' 1 q 1 c (ints [1]) ∧ SlP w' 1 r 1 d (bools [false]) ∧ Below W.heap.size W w') := Lib.hid (fun p cap W h b => mut_at kn_m1.1 kn_m1.2.1 kn_m1.2.2 p cap W h (TB.out W b))
  have MU2 : Hid (∀ W, Below w.heap.size w W → Calls Tryd.prog 25 #[.slice (some ⟨W.heap.size, 0, none⟩) 2 2] (W.alloc (.cells #[.int .i64 4, .int .i64 6, .int .i64 5, .int .i64 4] 25)) fun e w' => ∃ q c r d, e = .returned (.tuple #[.slice q 1 c, .slice r 1 d, .int .i64 0]) ∧ SlP w' 1 q 1 c (ints [1]) ∧ SlP w' 1 r 1 d (bools [true]) ∧ Below W.heap.size W w') := Lib.hid (fun W b => mutl_at kn_m2.1 kn_m2.2.1 kn_m2.2.2 (by decide) W (TB.out W b))
  have AW := Lib.hid (fun W b => gwake_any W (TB.out W b))
  have SI := Lib.hid (fun q c W h => samei_at 1 q c W h)
  have SBf := Lib.hid (fun q c W h => sameb_at false q c W h)
  have SBt := Lib.hid (fun q c W h => sameb_at true q c W h)
  have K0 := Lib.hid (KW.start w)
  go_enter Tryd.func6, Tryd.ntmps6
  go_upto_region 4 with (fail)
  go_cut [68] (fun s68 wx => s68 = .bool false ∧ Hid (KW w wx))
  case first =>
    have FY := Lib.hid (K0.out.later (w_refl _).drew)
    go_region_held3 (fun W => W.cell? ⟨w.heap.size, 0, none⟩ = some (.int .i64 6) ∧ W.cell? ⟨w.heap.size, 1, none⟩ = some (.int .i64 3) ∧ W.cell? ⟨w.heap.size, 2, none⟩ = some (.int .i64 (-1)) ∧ W.cell? ⟨w.heap.size + 1, 0, none⟩ = some (.int .i64 3) ∧ W.cell? ⟨w.heap.size + 1, 1, none⟩ = some (.int .i64 4) ∧ W.cell? ⟨w.heap.size + 1, 2, none⟩ = some (.int .i64 1) ∧ W.cell? ⟨w.heap.size + 1 + 1, 0, none⟩ = some (.int .i64 3) ∧ W.cell? ⟨w.heap.size + 1 + 1, 1, none⟩ = some (.int .i64 2) ∧ W.cell? ⟨w.heap.size + 1 + 1, 2, none⟩ = some (.int .i64 0))
      (first
        | exact FY.out.s
        | exact (FY.out.later (w_alloc (w_refl _) _)).s
        | fail)
      (first
        | (go_at_call 29; refine (NAM.out _ FY.out.bel).mono ?_; rintro e wn ⟨rfl, hb⟩; replace FY := Lib.hid (FY.out.later hb); clear hb)
        | (go_at_call 31; refine (NA0.out _).mono ?_; rintro e wn ⟨rfl, hb⟩; replace FY := Lib.hid (FY.out.later hb); clear hb NA0)
        | (go_at_call 31; refine (NA9.out _).mono ?_; rintro e wn ⟨rfl, hb⟩; replace FY := Lib.hid (FY.out.later hb); clear hb NA9)
        | (go_at_call 31; refine (NA19.out _).mono ?_; rintro e wn ⟨rfl, hb⟩; replace FY := Lib.hid (FY.out.later hb); clear hb NA19)
        | (go_at_call 32; refine (SY.out _ _ _).mono ?_; rintro e wn ⟨rfl, hb⟩; replace FY := Lib.hid (FY.out.later hb); clear hb)
        | (go_at_call 30; refine (SU0.out _ FY.out.bel).mono ?_; rintro e wn ⟨rfl, hb⟩; replace FY := Lib.hid (FY.out.later hb); clear hb SU0)
        | (go_at_call 30; refine (SU9.out _ FY.out.bel).mono ?_; rintro e wn ⟨rfl, hb⟩; replace FY := Lib.hid (FY.out.later hb); clear hb SU9)
        | (go_at_call 30; refine (SUf.out _ FY.out.bel).mono ?_; rintro e wn ⟨rfl, hb⟩; replace FY := Lib.hid (FY.out.later hb); clear hb SUf)
        | (go_at_call 30; refine (SU19.out _ FY.out.bel).mono ?_; rintro e wn ⟨rfl, hb⟩; replace FY := Lib.hid (FY.out.later hb); clear hb SU19)
        | (go_at_call 30; refine (SUs.out _ FY.out.bel).mono ?_; rintro e wn ⟨rfl, hb⟩; replace FY := Lib.hid (FY.out.later hb); clear hb SUs)
        | (go_at_call 30; refine (SUl.out _ FY.out.bel).mono ?_; rintro e wn ⟨rfl, hb⟩; replace FY := Lib.hid (FY.out.later hb); clear hb SUl)
        | fail)
    all_goals
      go_wp2_with fail
      go_meet
      exact ⟨rfl, FY⟩
  case rest =>
    obtain ⟨rfl, K1⟩ := hcut
    clear K0 NAM NA0 NA9 NA19 SU0 SU9 SU19 SUf SUs SUl
    go_wp2_with fail
    refine (NB0.out _ K1.out.bel).mono ?_
    rintro e w1 ⟨rfl, hb⟩
    replace K1 := Lib.hid (K1.out.later hb)
    clear hb
    go_wp2_with fail
    refine (PL0.out _ K1.out.bel).mono ?_
    rintro e w2 ⟨rfl, hb⟩
    replace K1 := Lib.hid (K1.out.later hb)
    clear hb
    go_wp2_with fail
    refine (NB19.out _ K1.out.bel).mono ?_
    rintro e w3 ⟨rfl, hb⟩
    replace K1 := Lib.hid (K1.out.later hb)
    clear hb
    go_wp2_with fail
    refine (PL19.out _ K1.out.bel).mono ?_
    rintro e w4 ⟨rfl, hb⟩
    replace K1 := Lib.hid (K1.out.later hb)
    clear hb
    obtain ⟨_, c0, c1, c2, _, _, _⟩ := K1.out.C
    go_wp2_with fail
    clear c0 c1 c2
    refine (PLl.out _ K1.out.bel).mono ?_
    rintro e w5 ⟨rfl, hb⟩
    replace K1 := Lib.hid (K1.out.later hb)
    clear hb
    go_wp2_with fail
    refine (SY.out 3 4 _).mono ?_
    rintro e w6 ⟨rfl, hb⟩
    replace K1 := Lib.hid (K1.out.later hb)
    clear hb
    go_wp2_with fail
    refine (PT1.out _ K1.out.bel).mono ?_
    rintro e w7 ⟨rfl, hb⟩
    replace K1 := Lib.hid (K1.out.later hb)
    clear hb
    have AL := Lib.hid (w_alloc (w_refl w7) (pO flatK))
    go_wp2_with fail
    refine (SY.out 7 6 _).mono ?_
    rintro e w8 ⟨rfl, hb⟩
    have CP := Lib.hid ((Cell3.made w7 flatK 23).later hb)
    replace hb := w_below AL.out hb
    replace K1 := Lib.hid (K1.out.later hb)
    clear hb AL
    go_wp2_with fail
    refine (PT2.out _ K1.out.bel).mono ?_
    rintro e w9 ⟨rfl, hb⟩
    replace K1 := Lib.hid (K1.out.later hb)
    replace CP := Lib.hid (CP.out.later hb)
    clear hb
    have AL := Lib.hid (w_alloc (w_refl w9) (pO (2, 5, 0)))
    go_wp2_with fail
    refine (SY.out 8 1 _).mono ?_
    rintro e w10 ⟨rfl, hb⟩
    have CQ := Lib.hid ((Cell3.made w9 (2, 5, 0) 23).later hb)
    replace hb := w_below AL.out hb
    replace K1 := Lib.hid (K1.out.later hb)
    replace CP := Lib.hid (CP.out.later hb)
    clear hb AL
    go_wp2_with fail
    refine (PT3.out _ K1.out.bel).mono ?_
    rintro e w11 ⟨rfl, hb⟩
    replace K1 := Lib.hid (K1.out.later hb)
    replace CP := Lib.hid (CP.out.later hb)
    replace CQ := Lib.hid (CQ.out.later hb)
    clear hb
    go_wp2_with fail
    go_upto_region 12 with (fail)
    go_cut [138] (fun s138 wx => s138 = .bool false ∧ Hid (KW w wx))
    case first =>
      have FY := Lib.hid (show _ ∧ _ ∧ _ from ⟨K1.out.later (w_alloc (w_refl _) (pO (0, 0, 0))).drew, CP.out.later (w_alloc (w_refl _) (pO (0, 0, 0))).drew, CQ.out.later (w_alloc (w_refl _) (pO (0, 0, 0))).drew⟩)
      clear K1 CP CQ
      go_region_held3 (fun W => W.cell? ⟨w.heap.size, 0, none⟩ = some (.int .i64 6) ∧ W.cell? ⟨w.heap.size, 1, none⟩ = some (.int .i64 3) ∧ W.cell? ⟨w.heap.size, 2, none⟩ = some (.int .i64 (-1)) ∧ W.cell? ⟨w7.heap.size, 0, none⟩ = some (.int .i64 6) ∧ W.cell? ⟨w7.heap.size, 1, none⟩ = some (.int .i64 3) ∧ W.cell? ⟨w7.heap.size, 2, none⟩ = some (.int .i64 (-1)) ∧ W.cell? ⟨w9.heap.size, 0, none⟩ = some (.int .i64 2) ∧ W.cell? ⟨w9.heap.size, 1, none⟩ = some (.int .i64 5) ∧ W.cell? ⟨w9.heap.size, 2, none⟩ = some (.int .i64 0))
        (first
          | exact ⟨FY.out.1.A.c0, FY.out.1.A.c1, FY.out.1.A.c2, FY.out.2.1.c0, FY.out.2.1.c1, FY.out.2.1.c2, FY.out.2.2.c0, FY.out.2.2.c1, FY.out.2.2.c2⟩
          | fail)
        (first
          | (go_at_call 31; refine (NB19.out _ (FY.out.1.bel)).mono ?_; rintro e wn ⟨rfl, hb⟩; replace FY := Lib.hid (show _ ∧ _ ∧ _ from ⟨FY.out.1.later hb, FY.out.2.1.later hb, FY.out.2.2.later hb⟩); clear hb)
          | fail)
      all_goals
        go_wp2_with fail
        go_meet
        exact ⟨rfl, Lib.hid FY.out.1⟩
    case rest => 
      obtain ⟨rfl, K2⟩ := hcut
      clear K1 CP CQ
      go_wp2_with fail
      refine (FR.out _).mono ?_
      rintro e w12 ⟨v, rfl, ⟨q1, c1, rfl, hs1⟩, hb⟩
      replace K2 := Lib.hid (K2.out.later hb)
      have FS := Lib.hid hs1
      clear hb
      go_wp2_with fail
      refine (SO1.out q1 c1 _ FS.out K2.out.bel).mono ?_
      rintro e w13 ⟨q2, c2, rfl, hs2, hb⟩
      replace K2 := Lib.hid (K2.out.later hb)
      have L1 := Lib.hid hs2
      clear FS hs1 hs2
      clear hb
      go_wp2_with fail
      refine (NB9.out _ K2.out.bel).mono ?_
      rintro e w14 ⟨rfl, hb⟩
      replace K2 := Lib.hid (K2.out.later hb)
      replace L1 := Lib.hid (L1.out.later hb)
      clear hb
      go_wp2_with fail
      refine (NB13.out _ K2.out.bel).mono ?_
      rintro e w15 ⟨rfl, hb⟩
      replace K2 := Lib.hid (K2.out.later hb)
      replace L1 := Lib.hid (L1.out.later hb)
      clear hb
      go_wp2_with fail
      refine (SO2.out _ K2.out.bel).mono ?_
      rintro e w16 ⟨q3, c3, rfl, hs3, hb⟩
      replace K2 := Lib.hid (K2.out.later hb)
      replace L1 := Lib.hid (L1.out.later hb)
      have M1 := Lib.hid hs3
      clear hs3
      clear hb
      obtain ⟨_, c0, c1', c2', _, _, _⟩ := K2.out.B
      go_wp2_with fail
      clear c0 c1' c2'
      refine (SO3.out _ K2.out.bel).mono ?_
      rintro e w17 ⟨q4, c4, rfl, hs4, hb⟩
      replace K2 := Lib.hid (K2.out.later hb)
      replace L1 := Lib.hid (L1.out.later hb)
      replace M1 := Lib.hid (M1.out.later hb)
      clear hs4
      clear hb
      go_wp2_with fail
      refine (SO4.out _ K2.out.bel).mono ?_
      rintro e w18 ⟨q5, c5, rfl, hs5, hb⟩
      replace K2 := Lib.hid (K2.out.later hb)
      replace L1 := Lib.hid (L1.out.later hb)
      replace M1 := Lib.hid (M1.out.later hb)
      clear hs5
      clear hb
      go_wp2_with fail
      refine (SY.out 5 1 _).mono ?_
      rintro e w19 ⟨rfl, hb⟩
      replace K2 := Lib.hid (K2.out.later hb)
      replace L1 := Lib.hid (L1.out.later hb)
      replace M1 := Lib.hid (M1.out.later hb)
      clear hb
      go_wp2_with fail
      refine (SY.out 5 2 _).mono ?_
      rintro e w20 ⟨rfl, hb⟩
      replace K2 := Lib.hid (K2.out.later hb)
      replace L1 := Lib.hid (L1.out.later hb)
      replace M1 := Lib.hid (M1.out.later hb)
      clear hb
      go_wp2_with fail
      refine (SY.out 5 3 _).mono ?_
      rintro e w21 ⟨rfl, hb⟩
      replace K2 := Lib.hid (K2.out.later hb)
      replace L1 := Lib.hid (L1.out.later hb)
      replace M1 := Lib.hid (M1.out.later hb)
      clear hb
      go_wp2_with fail
      refine (SY.out 5 4 _).mono ?_
      rintro e w22 ⟨rfl, hb⟩
      replace K2 := Lib.hid (K2.out.later hb)
      replace L1 := Lib.hid (L1.out.later hb)
      replace M1 := Lib.hid (M1.out.later hb)
      clear hb
      go_wp2_with fail
      refine (SY.out 5 5 _).mono ?_
      rintro e w23 ⟨rfl, hb⟩
      replace K2 := Lib.hid (K2.out.later hb)
      replace L1 := Lib.hid (L1.out.later hb)
      replace M1 := Lib.hid (M1.out.later hb)
      clear hb
      go_wp2_with fail
      refine (SY.out 5 6 _).mono ?_
      rintro e w24 ⟨rfl, hb⟩
      replace K2 := Lib.hid (K2.out.later hb)
      replace L1 := Lib.hid (L1.out.later hb)
      replace M1 := Lib.hid (M1.out.later hb)
      clear hb
      go_wp2_with fail
      refine (SA6.out q2 c2 _ L1.out).mono ?_
      rintro e w25 ⟨rfl, hb⟩
      replace K2 := Lib.hid (K2.out.later hb)
      replace L1 := Lib.hid (L1.out.later hb)
      replace M1 := Lib.hid (M1.out.later hb)
      clear hb
      go_wp2_with fail
      refine (SY.out 4 3 _).mono ?_
      rintro e w26 ⟨rfl, hb⟩
      replace K2 := Lib.hid (K2.out.later hb)
      replace L1 := Lib.hid (L1.out.later hb)
      replace M1 := Lib.hid (M1.out.later hb)
      clear hb
      go_wp2_with fail
      refine (SY.out 5 4 _).mono ?_
      rintro e w27 ⟨rfl, hb⟩
      replace K2 := Lib.hid (K2.out.later hb)
      replace L1 := Lib.hid (L1.out.later hb)
      replace M1 := Lib.hid (M1.out.later hb)
      clear hb
      go_wp2_with fail
      refine (SA2.out q3 c3 _ M1.out).mono ?_
      rintro e w28 ⟨rfl, hb⟩
      replace K2 := Lib.hid (K2.out.later hb)
      replace L1 := Lib.hid (L1.out.later hb)
      replace M1 := Lib.hid (M1.out.later hb)
      clear hb
      go_wp2_with fail
      refine (MU1.out q3 c3 _ M1.out K2.out.bel).mono ?_
      rintro e w29 ⟨q6, c6, q7, c7, rfl, hs6, hs7, hb⟩
      replace K2 := Lib.hid (K2.out.later hb)
      replace L1 := Lib.hid (L1.out.later hb)
      replace M1 := Lib.hid (M1.out.later hb)
      have I1 := Lib.hid hs6
      have B1 := Lib.hid hs7
      clear hs6 hs7
      clear hb
      go_wp2_with fail
      refine (SY.out 4 6 _).mono ?_
      rintro e w30 ⟨rfl, hb⟩
      replace K2 := Lib.hid (K2.out.later hb)
      replace L1 := Lib.hid (L1.out.later hb)
      replace M1 := Lib.hid (M1.out.later hb)
      replace I1 := Lib.hid (I1.out.later hb)
      replace B1 := Lib.hid (B1.out.later hb)
      clear hb
      go_wp2_with fail
      refine (SY.out 5 4 _).mono ?_
      rintro e w31 ⟨rfl, hb⟩
      replace K2 := Lib.hid (K2.out.later hb)
      replace L1 := Lib.hid (L1.out.later hb)
      replace M1 := Lib.hid (M1.out.later hb)
      replace I1 := Lib.hid (I1.out.later hb)
      replace B1 := Lib.hid (B1.out.later hb)
      clear hb
      go_wp2_with fail
      refine (MU2.out _ K2.out.bel).mono ?_
      rintro e w32 ⟨q8, c8, q9, c9, rfl, hs8, hs9, hb⟩
      replace K2 := Lib.hid (K2.out.later hb)
      replace L1 := Lib.hid (L1.out.later hb)
      replace M1 := Lib.hid (M1.out.later hb)
      replace I1 := Lib.hid (I1.out.later hb)
      replace B1 := Lib.hid (B1.out.later hb)
      have I2 := Lib.hid hs8
      have B2 := Lib.hid hs9
      clear hs8 hs9
      clear hb
      go_wp2_with fail
      refine (AW.out _ K2.out.bel).mono ?_
      rintro e w33 ⟨rfl, hb⟩
      replace K2 := Lib.hid (K2.out.later hb)
      replace L1 := Lib.hid (L1.out.later hb)
      replace M1 := Lib.hid (M1.out.later hb)
      replace I1 := Lib.hid (I1.out.later hb)
      replace B1 := Lib.hid (B1.out.later hb)
      replace I2 := Lib.hid (I2.out.later hb)
      replace B2 := Lib.hid (B2.out.later hb)
      clear hb
      go_wp2_with fail
      refine (SI.out q6 c6 _ I1.out).mono ?_
      rintro e w34 ⟨rfl, hb⟩
      replace K2 := Lib.hid (K2.out.later hb)
      replace L1 := Lib.hid (L1.out.later hb)
      replace M1 := Lib.hid (M1.out.later hb)
      replace I1 := Lib.hid (I1.out.later hb)
      replace B1 := Lib.hid (B1.out.later hb)
      replace I2 := Lib.hid (I2.out.later hb)
      replace B2 := Lib.hid (B2.out.later hb)
      clear hb
      go_wp2_with fail
      refine (SBf.out q7 c7 _ B1.out).mono ?_
      rintro e w35 ⟨rfl, hb⟩
      replace K2 := Lib.hid (K2.out.later hb)
      replace L1 := Lib.hid (L1.out.later hb)
      replace M1 := Lib.hid (M1.out.later hb)
      replace I1 := Lib.hid (I1.out.later hb)
      replace B1 := Lib.hid (B1.out.later hb)
      replace I2 := Lib.hid (I2.out.later hb)
      replace B2 := Lib.hid (B2.out.later hb)
      clear hb
      go_wp2_with fail
      refine (SI.out q8 c8 _ I2.out).mono ?_
      rintro e w36 ⟨rfl, hb⟩
      replace K2 := Lib.hid (K2.out.later hb)
      replace L1 := Lib.hid (L1.out.later hb)
      replace M1 := Lib.hid (M1.out.later hb)
      replace I1 := Lib.hid (I1.out.later hb)
      replace B1 := Lib.hid (B1.out.later hb)
      replace I2 := Lib.hid (I2.out.later hb)
      replace B2 := Lib.hid (B2.out.later hb)
      clear hb
      go_wp2_with fail
      refine (SBt.out q9 c9 _ B2.out).mono ?_
      rintro e w37 ⟨rfl, hb⟩
      replace K2 := Lib.hid (K2.out.later hb)
      replace L1 := Lib.hid (L1.out.later hb)
      replace M1 := Lib.hid (M1.out.later hb)
      replace I1 := Lib.hid (I1.out.later hb)
      replace B1 := Lib.hid (B1.out.later hb)
      replace I2 := Lib.hid (I2.out.later hb)
      replace B2 := Lib.hid (B2.out.later hb)
      clear hb
      go_wp2_with fail
      go_ret
      exact ⟨rfl, K2.out.bel⟩

end Go.Proofs.YtaldbjhalpgkeaaDoor
