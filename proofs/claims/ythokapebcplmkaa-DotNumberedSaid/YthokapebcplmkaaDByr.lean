/- The program's byRule and the closures of Meanings and Rule. -/
import Derived.Test.YthokapebcplmkaaDChkB
import Derived.Test.YthokapebcplmkaaPcs
namespace Go.Proofs.Ythokapebcplmkaa
open Go.RowKit

/-- A list of the call's own is as it was where a block of another type is written. -/
theorem own_kept2 {A A' : World} {base : Nat} {e t : TypeId} {k : Nat} {v : Value} {n b : Nat} {cs : List Value} {cs' : Array Value} (h : A.ownsRow base e k v n cs) (h1 : HoldsB A b t cs') (hte : t ≠ e) (hg : A.grownBy A' (some b)) : A'.ownsRow base e k v n cs := by
  have hne := own_ne h h1 hte
  refine ⟨h.1, ?_⟩
  rcases h.2 with h2 | ⟨g, cap, cur, rfl, hb, hh, r⟩
  · exact .inl h2
  · exact .inr ⟨g, cap, cur, rfl, hb, (hg.block g (Array.getElem?_eq_some_iff.1 hh).1 (fun e => hne (by rw [← e]; rfl))).trans hh, r⟩
theorem OwnL.kept2 {w A A' : World} {e t : TypeId} {k : Nat} {v : Value} {n b : Nat} {cs : List Value} {cs' : Array Value} (h : OwnL w A e k v n cs) (h1 : HoldsB A b t cs') (hte : t ≠ e) (hg : A.grownBy A' (some b)) (hb : w.heap.size ≤ b) : OwnL w A' e k v n cs :=
  ⟨h.bel.grown hg h.bel.size (fun j e => by injection e with e; omega), own_kept2 h.row h1 hte hg⟩
theorem GrpI.kept2 {w A A' : World} {t : TypeId} {v : Value} {b : Nat} {vs : List Value} {L : List (List Int)} {cs' : Array Value} (h : GrpI w A v vs L) (h1 : HoldsB A b t cs') (hte : t ≠ 32) (hte2 : t ≠ 3) (hg : A.grownBy A' (some b)) (hb : w.heap.size ≤ b) : GrpI w A' v vs L :=
  ⟨h.own.kept2 h1 hte hg hb, h.inn.1, fun k x hx => by obtain ⟨u, e, ho⟩ := h.inn.2 k x hx; exact ⟨u, e, own_kept2 ho h1 hte2 hg⟩⟩

/-- What the next sign is, behind a dot. -/
def NextAt (w : World) (pa : Option Addr) (n : Nat) (x : Option Int) : Prop := (n = 0 ∧ x = none) ∨ (0 < n ∧ ∃ (y : Int) (b off : Nat), x = some y ∧ pa = some ⟨b, off, none⟩ ∧ w.cell? ⟨b, off + 1, none⟩ = some (.int .i64 y))
theorem NextAt.later {w w1 : World} {pa : Option Addr} {n : Nat} {x : Option Int} (h : NextAt w pa n x) (b : Below w.heap.size w w1) : NextAt w1 pa n x := by
  rcases h with h | ⟨h, y, b1, o1, hx, hp, hc⟩
  · exact .inl h
  · exact .inr ⟨h, y, b1, o1, hx, hp, cell_later b hc⟩
theorem next_at {w : World} {p : Option Addr} {cap : Nat} {l : List Sg} (h : SlP w 17 p l.length cap (flatG l)) {k : Nat} (hk : k < l.length) : NextAt w (dropQ p cap (k + 1)) (l.length - (k + 1)) (nextV l k) := by
  by_cases c : k + 1 < l.length
  · have hd := h.dropG (i := k + 1) (by omega)
    have hs : (l.drop (k + 1))[0]? = some l[k + 1] := by rw [List.getElem?_drop]; exact List.getElem?_eq_getElem c
    rw [← List.length_drop] at hd
    obtain ⟨b, off, e, _, hsg⟩ := hd.sg hs
    refine .inr ⟨by omega, l[k + 1].val, b, off, ?_, e, ?_⟩
    · unfold nextV; rw [List.getElem?_eq_getElem c]; rfl
    · have := hsg.e1
      simpa using this
  · refine .inl ⟨by omega, ?_⟩
    unfold nextV; rw [List.getElem?_eq_none (by omega)]; rfl

set_option maxRecDepth 100000 in
set_option maxHeartbeats 1000000 in
theorem pm1_any (q : Q4) (s : Sg) (pa : Option Addr) (n ca : Nat) (w : World) (bm : Nat) (hm : Cell4 w bm q) : Calls Try.prog 44 #[sgv s, .slice pa n ca, .pointer (some ⟨bm, 0, none⟩)] w fun e w' => ∃ v, e = .returned v ∧ OwnL w w' 3 1 v (mns q s).length (ints (mns q s)) := by
  have KM := Lib.hid (hm.later (w_alloc (w_refl w) (sgO s)))
  have SGN := Lib.hid (sg_new w s)
  have B0 := Lib.hid (w_alloc (w_refl w) (sgO s))
  have MN := Lib.hid (fun W => pmean_any q s W)
  clear hm
  generalize mns q s = M at *
  obtain ⟨q1, q2, q3, q4⟩ := q
  go_enter Try.func44, Try.ntmps44
  go_upto_region 1 with (first | (refine wl_box s (by kernel_rfl) ?_) | fail)
  generalize World.alloc w (sgO s) = y at *
  obtain ⟨_, k0, k1, k2, k3, _⟩ := KM.out
  simp only at k0 k1 k2 k3
  go_wp2_with (first | (refine wl_load (x := .tmp 3) w.heap.size 0 s (by kernel_rfl) SGN.out.sg ?_) | fail)
  refine (MN.out _).mono ?_
  rintro e w1 ⟨v, rfl, ho⟩
  obtain ⟨p1, c1, rfl⟩ := ho.val
  have HO := Lib.hid (show OwnL w w1 3 1 (.slice p1 M.length c1) M.length (ints M) from ⟨w_below B0.out ho.bel, own_base ho.row B0.out.size⟩)
  clear ho
  go_wp2_with fail
  go_ret
  exact ⟨_, rfl, HO.out⟩

theorem rul_one {q : Q4} {s : Sg} {x : Option Int} (h : (mns q s).length = 1) : rul q s x = (mns q s).getD 0 0 := if_pos h
theorem rul_own {q : Q4} {s : Sg} {x : Option Int} (h : ¬ (mns q s).length = 1) (k : x = none ∨ ∃ y, x = some y ∧ s.val < y) : rul q s x = ownM q s.val := (if_neg h).trans (if_pos k)
theorem rul_abv {q : Q4} {s : Sg} {x : Option Int} (h : ¬ (mns q s).length = 1) (k : ¬ (x = none ∨ ∃ y, x = some y ∧ s.val < y)) : rul q s x = aboV q s.val := (if_neg h).trans (if_neg k)

set_option maxRecDepth 100000 in
set_option maxHeartbeats 4000000 in
theorem pbyr_any (q : Q4) (s : Sg) (x : Option Int) (pa : Option Addr) (n ca : Nat) (hn : n ≤ 1000) (w : World) (hx : NextAt w pa n x) : Calls Try.prog 49 #[mv q, sgv s, .slice pa n ca] w fun e w' => e = .returned (.int .i64 (rul q s x)) ∧ Below w.heap.size w w' := by
  have KM := Lib.hid ((Cell4.made w q 23).later (w_alloc (w_refl _) (sgO s)))
  have SGN := Lib.hid (sg_new (w.alloc (mO q)) s)
  have B0 := Lib.hid (w_alloc (w_alloc (w_refl w) (mO q)) (sgO s))
  rw [World.size_alloc] at SGN
  have MN := Lib.hid (fun W => pmean_any q s W)
  have OW := Lib.hid (fun W => pown_any q s.val W)
  have AB := Lib.hid (fun W => above_any q s.val W)
  have NX := Lib.hid (show ∀ W : World, Below w.heap.size w W → NextAt W pa n x from fun _ b => hx.later b)
  by_cases hM : (mns q s).length = 1
  · rw [rul_one hM]
    obtain ⟨X, hX⟩ : ∃ X, mns q s = [X] := List.length_eq_one_iff.1 hM
    rw [hX] at MN ⊢
    clear hM hX OW AB hx NX
    obtain ⟨q1, q2, q3, q4⟩ := q
    show Calls _ _ _ _ fun e w' => e = .returned (.int .i64 X) ∧ _
    go_enter Try.func49, Try.ntmps49
    go_upto_region 1 with (first | (refine wl_box (x := .tmp 1) s (by kernel_rfl) ?_) | fail)
    obtain ⟨bs, hbs⟩ : ∃ bs, w.heap.size + 1 = bs := ⟨_, rfl⟩
    rw [hbs] at SGN ⊢
    generalize World.alloc (World.alloc w (.cells #[.int .i64 q1, .int .i64 q2, .int .i64 q3, .int .i64 q4] 23)) (sgO s) = y at *
    clear hbs
    obtain ⟨_, k0, k1, k2, k3, _⟩ := KM.out
    simp only at k0 k1 k2 k3
    go_wp2_with (first | (refine wl_load (x := .tmp 4) bs 0 s (by kernel_rfl) SGN.out.sg ?_) | fail)
    refine (MN.out _).mono ?_
    rintro e w1 ⟨v, rfl, ho⟩
    obtain ⟨p1, c1, rfl⟩ := ho.val
    have HV := Lib.hid (IntV.of_own ho.row)
    have hb := ho.bel
    have B1 := Lib.hid (w_below B0.out hb)
    have KM1 := Lib.hid (KM.out.later hb)
    have SG1 := Lib.hid (SGN.out.later hb)
    clear ho hb k0 k1 k2 k3 KM SGN B0 MN
    obtain ⟨_, k0, k1, k2, k3, _⟩ := KM1.out
    simp only at k0 k1 k2 k3
    have e1 := SG1.out.cell (j := 1) (v := .int .i64 s.val) rfl
    obtain ⟨p2, c2, hpc, hsl⟩ := HV.out
    injection hpc with hp1 _ hc1
    subst hp1 hc1
    obtain ⟨b5, o5, rfl, _, hc⟩ := hsl.at_ (by simp)
    have c5 := hc 0 (.int .i64 X) rfl
    simp at c5
    clear hsl hc HV
    go_wp2_with fail
    go_ret
    exact ⟨rfl, B1.out⟩
  · have hM1 : (((mns q s).length : Int) == 1) = false := by simpa using fun e : ((mns q s).length : Int) = 1 => hM (by omega)
    by_cases hk : x = none ∨ ∃ y, x = some y ∧ s.val < y
    · rw [rul_own hM hk]
      have ways : (n = 0) ∨ (0 < n ∧ ∃ (y : Int) (b off : Nat), s.val < y ∧ pa = some ⟨b, off, none⟩ ∧ w.cell? ⟨b, off + 1, none⟩ = some (.int .i64 y)) := by
        rcases hx with h | ⟨h, y, b1, o1, e, hp, hc⟩
        · exact .inl h.1
        · rcases hk with hk | ⟨z, e2, hz⟩
          · rw [e] at hk; cases hk
          · rw [e] at e2; cases e2; exact .inr ⟨h, y, b1, o1, hz, hp, hc⟩
      clear hM hk hx NX
      generalize mns q s = M at *
      generalize ownM q s.val = R at *
      obtain ⟨q1, q2, q3, q4⟩ := q
      rcases ways with rfl | ⟨hn0, y', b9, o9, hlt, rfl, hc9⟩
      ·
        go_enter Try.func49, Try.ntmps49
        go_upto_region 1 with (first | (refine wl_box (x := .tmp 1) s (by kernel_rfl) ?_) | fail)
        obtain ⟨bs, hbs⟩ : ∃ bs, w.heap.size + 1 = bs := ⟨_, rfl⟩
        rw [hbs] at SGN ⊢
        generalize World.alloc (World.alloc w (.cells #[.int .i64 q1, .int .i64 q2, .int .i64 q3, .int .i64 q4] 23)) (sgO s) = y at *
        clear hbs
        obtain ⟨_, k0, k1, k2, k3, _⟩ := KM.out
        simp only at k0 k1 k2 k3
        go_wp2_with (first | (refine wl_load (x := .tmp 4) bs 0 s (by kernel_rfl) SGN.out.sg ?_) | fail)
        refine (MN.out _).mono ?_
        rintro e w1 ⟨v, rfl, ho⟩
        obtain ⟨p1, c1, rfl⟩ := ho.val
        have HV := Lib.hid (IntV.of_own ho.row)
        have hb := ho.bel
        have B1 := Lib.hid (w_below B0.out hb)
        have KM1 := Lib.hid (KM.out.later hb)
        have SG1 := Lib.hid (SGN.out.later hb)
        clear ho hb k0 k1 k2 k3 KM SGN B0 MN
        obtain ⟨_, k0, k1, k2, k3, _⟩ := KM1.out
        simp only at k0 k1 k2 k3
        have e1 := SG1.out.cell (j := 1) (v := .int .i64 s.val) rfl
        clear HV
        go_wp2_with fail
        go_quiet (fail)
        go_wp2_with fail
        refine (OW.out _).mono ?_
        rintro e w2 ⟨rfl, hb⟩
        have HF := Lib.hid (w_below B1.out (w_below (below_drewN (w_refl w1) _) hb))
        clear hb
        go_wp2_with fail
        go_ret
        exact ⟨rfl, HF.out⟩
      · have NX := Lib.hid (show ∀ W : World, Below w.heap.size w W → W.cell? ⟨b9, o9 + 1, none⟩ = some (.int .i64 y') from fun _ b => cell_later b hc9)
        have hn1 : ((n : Int) == 0) = false := by simp; omega
        have hnp : (0 : Int) < n := by omega
        clear hc9
        go_enter Try.func49, Try.ntmps49
        go_upto_region 1 with (first | (refine wl_box (x := .tmp 1) s (by kernel_rfl) ?_) | fail)
        obtain ⟨bs, hbs⟩ : ∃ bs, w.heap.size + 1 = bs := ⟨_, rfl⟩
        rw [hbs] at SGN ⊢
        generalize World.alloc (World.alloc w (.cells #[.int .i64 q1, .int .i64 q2, .int .i64 q3, .int .i64 q4] 23)) (sgO s) = y at *
        clear hbs
        obtain ⟨_, k0, k1, k2, k3, _⟩ := KM.out
        simp only at k0 k1 k2 k3
        go_wp2_with (first | (refine wl_load (x := .tmp 4) bs 0 s (by kernel_rfl) SGN.out.sg ?_) | fail)
        refine (MN.out _).mono ?_
        rintro e w1 ⟨v, rfl, ho⟩
        obtain ⟨p1, c1, rfl⟩ := ho.val
        have HV := Lib.hid (IntV.of_own ho.row)
        have hb := ho.bel
        have B1 := Lib.hid (w_below B0.out hb)
        have KM1 := Lib.hid (KM.out.later hb)
        have SG1 := Lib.hid (SGN.out.later hb)
        have c9 := NX.out _ (w_below B0.out hb)
        clear ho hb k0 k1 k2 k3 KM SGN B0 MN NX
        obtain ⟨_, k0, k1, k2, k3, _⟩ := KM1.out
        simp only at k0 k1 k2 k3
        have e1 := SG1.out.cell (j := 1) (v := .int .i64 s.val) rfl
        clear HV
        go_wp2_with fail
        go_quiet (fail)
        go_wp2_with fail
        refine (OW.out _).mono ?_
        rintro e w2 ⟨rfl, hb⟩
        have HF := Lib.hid (w_below B1.out (w_below (below_drewN (w_refl w1) _) hb))
        clear hb
        go_wp2_with fail
        go_ret
        exact ⟨rfl, HF.out⟩
    · rw [rul_abv hM hk]
      have ways : 0 < n ∧ ∃ (y : Int) (b off : Nat), ¬ s.val < y ∧ pa = some ⟨b, off, none⟩ ∧ w.cell? ⟨b, off + 1, none⟩ = some (.int .i64 y) := by
        rcases hx with h | ⟨h, y, b1, o1, e, hp, hc⟩
        · exact absurd (.inl h.2) hk
        · exact ⟨h, y, b1, o1, fun hz => hk (.inr ⟨y, e, hz⟩), hp, hc⟩
      clear hM hk hx NX
      generalize mns q s = M at *
      generalize aboV q s.val = R at *
      generalize valE q s.val = R2 at *
      obtain ⟨q1, q2, q3, q4⟩ := q
      obtain ⟨hn0, y', b9, o9, hlt, rfl, hc9⟩ := ways
      have NX := Lib.hid (show ∀ W : World, Below w.heap.size w W → W.cell? ⟨b9, o9 + 1, none⟩ = some (.int .i64 y') from fun _ b => cell_later b hc9)
      have hn1 : ((n : Int) == 0) = false := by simp; omega
      have hnp : (0 : Int) < n := by omega
      clear hc9
      go_enter Try.func49, Try.ntmps49
      go_upto_region 1 with (first | (refine wl_box (x := .tmp 1) s (by kernel_rfl) ?_) | fail)
      obtain ⟨bs, hbs⟩ : ∃ bs, w.heap.size + 1 = bs := ⟨_, rfl⟩
      rw [hbs] at SGN ⊢
      generalize World.alloc (World.alloc w (.cells #[.int .i64 q1, .int .i64 q2, .int .i64 q3, .int .i64 q4] 23)) (sgO s) = y at *
      clear hbs
      obtain ⟨_, k0, k1, k2, k3, _⟩ := KM.out
      simp only at k0 k1 k2 k3
      go_wp2_with (first | (refine wl_load (x := .tmp 4) bs 0 s (by kernel_rfl) SGN.out.sg ?_) | fail)
      refine (MN.out _).mono ?_
      rintro e w1 ⟨v, rfl, ho⟩
      obtain ⟨p1, c1, rfl⟩ := ho.val
      have HV := Lib.hid (IntV.of_own ho.row)
      have hb := ho.bel
      have B1 := Lib.hid (w_below B0.out hb)
      have KM1 := Lib.hid (KM.out.later hb)
      have SG1 := Lib.hid (SGN.out.later hb)
      have c9 := NX.out _ (w_below B0.out hb)
      clear ho hb k0 k1 k2 k3 KM SGN B0 MN NX
      obtain ⟨_, k0, k1, k2, k3, _⟩ := KM1.out
      simp only at k0 k1 k2 k3
      have e1 := SG1.out.cell (j := 1) (v := .int .i64 s.val) rfl
      clear HV
      go_wp2_with fail
      go_quiet (fail)
      go_wp2_with fail
      refine (AB.out _).mono ?_
      rintro e w2 ⟨rfl, hb⟩
      have HF := Lib.hid (w_below B1.out (w_below (below_drewN (w_refl w1) _) hb))
      clear hb
      go_wp2_with fail
      go_ret
      exact ⟨rfl, HF.out⟩

set_option maxRecDepth 100000 in
set_option maxHeartbeats 1000000 in
theorem pr1_any (q : Q4) (s : Sg) (x : Option Int) (pa : Option Addr) (n ca : Nat) (w : World) (bm : Nat) (hn : n ≤ 1000) (hm : Cell4 w bm q) (hx : NextAt w pa n x) : Calls Try.prog 48 #[sgv s, .slice pa n ca, .pointer (some ⟨bm, 0, none⟩)] w fun e w' => e = .returned (.int .i64 (rul q s x)) ∧ Below w.heap.size w w' := by
  have KM := Lib.hid (hm.later (w_alloc (w_refl w) (sgO s)))
  have SGN := Lib.hid (sg_new w s)
  have B0 := Lib.hid (w_alloc (w_refl w) (sgO s))
  have BR := Lib.hid (pbyr_any q s x pa n ca hn _ (hx.later (w_alloc (w_refl w) (sgO s))))
  clear hm hx
  generalize rul q s x = R at *
  obtain ⟨q1, q2, q3, q4⟩ := q
  go_enter Try.func48, Try.ntmps48
  go_upto_region 1 with (first | (refine wl_box s (by kernel_rfl) ?_) | fail)
  generalize World.alloc w (sgO s) = y at *
  obtain ⟨_, k0, k1, k2, k3, _⟩ := KM.out
  simp only at k0 k1 k2 k3
  go_wp2_with (first | (refine wl_load (x := .tmp 3) w.heap.size 0 s (by kernel_rfl) SGN.out.sg ?_) | fail)
  refine BR.out.mono ?_
  rintro e w1 ⟨rfl, hb⟩
  have HF := Lib.hid (w_below B0.out hb)
  clear hb
  go_wp2_with fail
  go_ret
  exact ⟨rfl, HF.out⟩

end Go.Proofs.Ythokapebcplmkaa
