/- The values with a full duration, of the program and of the reference. -/
import Derived.Test.YtflgmeajkflobaaDoorMProgC
namespace Go.Proofs.YtflgmeajkflobaaDoor
open Go.RowKit

/-- The values up to k whose full duration is n divided by d. -/
def fitK (q : Q4) (n d : Int) : Nat → List Int
  | 0 => []
  | k + 1 => fitK q n d k ++ (if minI q ((k + 1 : Nat) : Int) = n ∧ pieI ((k + 1 : Nat) : Int) = d then [((k + 1 : Nat) : Int)] else [])
theorem fit_yes {q : Q4} {n d : Int} {k : Nat} (h : minI q ((k + 1 : Nat) : Int) = n ∧ pieI ((k + 1 : Nat) : Int) = d) : fitK q n d (k + 1) = fitK q n d k ++ [((k + 1 : Nat) : Int)] := by
  show _ ++ (if _ then _ else _) = _; rw [if_pos h]
theorem fit_no {q : Q4} {n d : Int} {k : Nat} (h : ¬ (minI q ((k + 1 : Nat) : Int) = n ∧ pieI ((k + 1 : Nat) : Int) = d)) : fitK q n d (k + 1) = fitK q n d k := by
  show _ ++ (if _ then _ else _) = _; rw [if_neg h, List.append_nil]
theorem fit_len (q : Q4) (n d : Int) : ∀ k, (fitK q n d k).length ≤ k
  | 0 => Nat.le_refl _
  | k + 1 => by
    have := fit_len q n d k
    show (fitK q n d k ++ (if _ then _ else _)).length ≤ k + 1
    rw [List.length_append]
    split <;> simp <;> omega
def fitE (q : Q4) (n d : Int) : Int := if okM q then chk n d else 12
def fitL (q : Q4) (n d : Int) : List Int := if fitE q n d = 0 then fitK q n d 8 else []
theorem fitE_no {q : Q4} {n d : Int} (h : ¬ okM q) : fitE q n d = 12 := if_neg h
theorem fitE_ok {q : Q4} {n d : Int} (h : okM q) : fitE q n d = chk n d := if_pos h
theorem fitL_ok {q : Q4} {n d : Int} (h : fitE q n d = 0) : fitL q n d = fitK q n d 8 := if_pos h
theorem fitL_no {q : Q4} {n d : Int} (h : ¬ fitE q n d = 0) : fitL q n d = [] := if_neg h
def FitPost (q : Q4) (n d : Int) (w : World) (e : Ending) (w' : World) : Prop := ∃ v, e = .returned (.tuple #[v, .int .i64 (fitE q n d)]) ∧ IntV w' v (fitL q n d) ∧ Below w.heap.size w w'
theorem ne2 {a b n d : Int} (h : ¬ (a = n ∧ b = d)) : (a == n) = false ∨ (a = n ∧ (b == d) = false) := by
  by_cases e : a = n
  · exact .inr ⟨e, by simpa using fun x => h ⟨e, x⟩⟩
  · exact .inl (by simpa using e)

set_option maxHeartbeats 8000000 in
theorem fits_any (q : Q4) (n d : Int) (w : World) : Calls Tryd.prog 30 #[mv q, tv n d] w (FitPost q n d w) := by
  have C := Lib.hid (fun W => mcheck_any q W)
  have S := Lib.hid (fun W => check_any n d W)
  have K := Lib.hid ((Cell4.made w q 23).later (w_alloc (w_refl _) (.cells #[.int .i64 n, .int .i64 d] 28)))
  have T := Lib.hid (Own2.made (w.alloc (mO q)) n d 28)
  rw [World.size_alloc] at T
  have hB0 := Lib.hid (w_alloc (w_alloc (w_refl w) (mO q)) (.cells #[.int .i64 n, .int .i64 d] 28))
  unfold FitPost
  by_cases h : okM q
  · rw [chkM_ok h] at C
    by_cases hc : chk n d = 0
    · have hE : fitE q n d = 0 := by rw [fitE_ok h]; exact hc
      rw [fitL_ok hE, hE]
      rw [hc] at S
      have hl8 := fit_len q n d 8
      have F := Lib.hid (fun v (hv : 1 ≤ v ∧ v ≤ 8) W => full_any q v W)
      have F2 := Lib.hid (show ∀ v, 1 ≤ v ∧ v ≤ 8 → fulV q v = (minI q v, pieI v, 0) from fun v hv => fulV_ok (valE_ok h hv))
      have HY := Lib.hid (fun k => fit_yes (q := q) (n := n) (d := d) (k := k))
      have HN := Lib.hid (fun k => fit_no (q := q) (n := n) (d := d) (k := k))
      have hlen := Lib.hid (fun k => fit_len q n d k)
      clear h hc hE
      generalize hfk : fitK q n d = fk at *
      have hf0 : fk 0 = [] := by rw [← hfk]; rfl
      clear hfk
      generalize minI q = mi at *
      generalize hfv : fulV q = fv at *
      obtain ⟨a, b, c, e4⟩ := q
      clear hfv
      obtain ⟨k0, hk0, hx0, hx1, hx2⟩ := info_parts info_int
      go_enter Tryd.func30, Tryd.ntmps30
      go_wp2_with fail
      refine (C.out _).mono ?_
      rintro e w1 ⟨rfl, hb⟩
      have hB := Lib.hid (w_below hB0.out hb)
      replace K := Lib.hid (K.out.later hb)
      replace T := Lib.hid (T.out.later hb)
      clear hb C hB0
      obtain ⟨_, t0, t1, _, _⟩ := T.out
      go_wp2_with fail
      refine (S.out _).mono ?_
      rintro e w2 ⟨rfl, hb⟩
      replace hB := Lib.hid (w_below hB.out hb)
      replace K := Lib.hid (K.out.later hb)
      replace T := Lib.hid (T.out.later hb)
      clear hb S t0 t1
      have hsz : w.heap.size < w2.heap.size ∧ w.heap.size + 1 < w2.heap.size := ⟨K.out.inb, T.out.inb⟩
      go_wp2_with fail
      go_loopw [8, 9] (fun sl sv wr => ∃ k : Nat, k ≤ 8 ∧ sv = .int .i64 ((k + 1 : Nat) : Int) ∧ Hid (Cell4 wr w.heap.size (a, b, c, e4)) ∧ Hid (Own2 wr (w.heap.size + 1) n d) ∧ Hid (OwnL w2 wr 3 1 sl (fk k).length (ints (fk k)))) (fun _ sv _ => (9 - intOf sv).toNat)
      case atStart => exact ⟨0, by omega, rfl, K, T, Lib.hid (by rw [hf0]; exact OwnL.start w2 _ _)⟩
      case round =>
        clear K T
        obtain ⟨k, hk, rfl, K, T, hO⟩ := hrel
        by_cases hlt : k < 8
        · have F1 := Lib.hid (fun W => F.out ((k + 1 : Nat) : Int) (by omega) W)
          rw [F2.out ((k + 1 : Nat) : Int) (by omega)] at F1
          obtain ⟨g, hg⟩ : ∃ g, ((k + 1 : Nat) : Int) = g := ⟨_, rfl⟩
          have hg1 : ((k + 1 + 1 : Nat) : Int) = g + 1 := by omega
          have hgb : g ≤ 8 := by omega
          have hlk := hlen.out k
          have hy := HY.out k
          have hn := HN.out k
          obtain ⟨_, c0, c1, c2, c3, _, _, _, _⟩ := K.out
          simp only at c0 c1 c2 c3
          rw [hg] at F1 hy hn ⊢
          clear F F2 HY HN
          generalize mi g = M at *
          generalize pieI g = D at *
          by_cases hm : M = n ∧ D = d
          · have hfs := Lib.hid (hy hm)
            clear hy hn
            obtain ⟨rfl, rfl⟩ := hm
            go_wp2_with fail
            refine (F1.out _).mono ?_
            rintro e w3 ⟨rfl, hb⟩
            have hb2 := Lib.hid (w_alloc hb (.cells #[.int .i64 M, .int .i64 D] 28))
            have hO1 := Lib.hid (hO.out.later hb2.out)
            have K1 := Lib.hid (K.out.later hb2.out)
            have T1 := Lib.hid (T.out.later hb2.out)
            obtain ⟨_, t0, t1, _, _⟩ := T.out.later hb
            clear hb F1 c0 c1 c2 c3
            obtain ⟨p5, c5, rfl⟩ := hO.out.val
            have hO2 := Lib.hid (hO1.out.later (w_alloc (w_refl _) (.cells #[.int .i64 g] 3)))
            have K2 := Lib.hid (K1.out.later (w_alloc (w_refl _) (.cells #[.int .i64 g] 3)))
            have T2 := Lib.hid (T1.out.later (w_alloc (w_refl _) (.cells #[.int .i64 g] 3)))
            have hLN := Lib.hid (lit_new (w3.alloc (.cells #[.int .i64 M, .int .i64 D] 28)) #[.int .i64 g] 3)
            rw [World.size_alloc] at hLN
            go_wp2_with (at_builtin; refine wpList_append_own _ rfl _ _ 31 rfl w2.heap.size 3 k0 (.int .i64 0) 1 8 Tryd.underlying31 hk0 hx0 hx1 hx2 rfl (by decide) _ (fk k).length (ints (fk k)) rfl hO2.out.row ⟨w3.heap.size + 1, 0, none⟩ 1 1 (ints [g]) rfl rfl hLN.out (ints_one _) (by unfold maxLen; omega) (by omega) hO2.out.bel.size ?_)
            intro v' w4 hown hgrow _
            have hO3 := Lib.hid (show OwnL w2 w4 3 1 v' (fk (k + 1)).length (ints (fk (k + 1))) by
              have := hO1.out.app (w_alloc (w_refl _) (.cells #[.int .i64 g] 3)) hown hgrow
              rw [hfs.out, List.length_append, ints, List.map_append]; exact this)
            have hne : some w.heap.size ≠ (Value.slice p5 (fk k).length c5).ownBlock := fun e => by have := (hO2.out.row.lt _ e.symm).1; omega
            have hne1 : some (w.heap.size + 1) ≠ (Value.slice p5 (fk k).length c5).ownBlock := fun e => by have := (hO2.out.row.lt _ e.symm).1; omega
            have K3 := Lib.hid (K2.out.kept hgrow hne)
            have T3 := Lib.hid (T2.out.kept hgrow hne1)
            clear hown hgrow hO2 hO1 K2 K1 T2 T1 hLN t0 t1
            go_wp2_with fail
            go_roundw
            case rel => exact ⟨k + 1, by omega, by rw [hg1], K3, T3, hO3⟩
            case measure => simp [intOf]; omega
          · have hfs := Lib.hid (hn hm)
            clear hy hn
            rcases ne2 hm with e1 | ⟨rfl, e1⟩
            all_goals
              clear hm
              go_wp2_with fail
              refine (F1.out _).mono ?_
              rintro e w3 ⟨rfl, hb⟩
              have hb2 := Lib.hid (w_alloc hb (.cells #[.int .i64 M, .int .i64 D] 28))
              have hO1 := Lib.hid (show OwnL w2 _ 3 1 _ (fk (k + 1)).length (ints (fk (k + 1))) by rw [hfs.out]; exact hO.out.later hb2.out)
              have K1 := Lib.hid (K.out.later hb2.out)
              have T1 := Lib.hid (T.out.later hb2.out)
              obtain ⟨_, t0, t1, _, _⟩ := T.out.later hb
              clear hb F1 c0 c1 c2 c3
              go_wp2_with fail
              go_roundw
              case rel => exact ⟨k + 1, by omega, by rw [hg1], K1, T1, hO1⟩
              case measure => simp [intOf]; omega
        · obtain rfl : k = 8 := by omega
          have hx := Lib.hid (IntV.of_own hO.out.row)
          clear F F2 HY HN
          go_wp2_with fail
          go_ret2
          exact ⟨_, rfl, hx.out, w_below hB.out hO.out.bel⟩
    · have hE := fitE_ok (n := n) (d := d) h
      have hL := Lib.hid (fitL_no (show ¬ fitE q n d = 0 by rw [hE]; exact hc))
      rw [hL.out, hE]
      have hne : (chk n d != 0) = true := by simp [hc]
      have hne2 : (chk n d == 0) = false := by simp [hc]
      clear hE h hc hL
      generalize chk n d = E at *
      obtain ⟨a, b, c, e4⟩ := q
      go_enter Tryd.func30, Tryd.ntmps30
      go_wp2_with fail
      refine (C.out _).mono ?_
      rintro e w1 ⟨rfl, hb⟩
      have hB := Lib.hid (w_below hB0.out hb)
      obtain ⟨_, t0, t1, _, _⟩ := T.out.later hb
      clear hb C hB0
      go_wp2_with fail
      refine (S.out _).mono ?_
      rintro e w2 ⟨rfl, hb⟩
      replace hB := Lib.hid (w_below hB.out hb)
      clear hb S t0 t1
      go_wp2_with fail
      go_ret2
      exact ⟨_, rfl, IntV.none _, hB.out⟩
  · have hE := fitE_no (n := n) (d := d) h
    have hL := Lib.hid (fitL_no (show ¬ fitE q n d = 0 by rw [hE]; decide))
    rw [hL.out, hE]
    rw [chkM_no h] at C
    clear hE h hL
    obtain ⟨a, b, c, e4⟩ := q
    go_enter Tryd.func30, Tryd.ntmps30
    go_wp2_with fail
    refine (C.out _).mono ?_
    rintro e w1 ⟨rfl, hb⟩
    have hB := Lib.hid (w_below hB0.out hb)
    clear hb C hB0
    go_wp2_with fail
    go_ret2
    exact ⟨_, rfl, IntV.none _, hB.out⟩

set_option maxHeartbeats 8000000 in
theorem rfits_any (q : Q4) (n d : Int) (w : World) : Calls Tryd.prog 31 #[mv q, tv n d] w (FitPost q n d w) := by
  have C := Lib.hid (fun W => rmcheck_any q W)
  have S := Lib.hid (fun W => rcheck_any n d W)
  have K := Lib.hid ((Cell4.made w q 23).later (w_alloc (w_refl _) (.cells #[.int .i64 n, .int .i64 d] 28)))
  have T := Lib.hid (Own2.made (w.alloc (mO q)) n d 28)
  rw [World.size_alloc] at T
  have hB0 := Lib.hid (w_alloc (w_alloc (w_refl w) (mO q)) (.cells #[.int .i64 n, .int .i64 d] 28))
  unfold FitPost
  by_cases h : okM q
  · rw [chkM_ok h] at C
    by_cases hc : chk n d = 0
    · have hE : fitE q n d = 0 := by rw [fitE_ok h]; exact hc
      rw [fitL_ok hE, hE]
      rw [hc] at S
      have hl8 := fit_len q n d 8
      have F := Lib.hid (fun v (hv : 1 ≤ v ∧ v ≤ 8) W => rfull_any q v W)
      have F2 := Lib.hid (show ∀ v, 1 ≤ v ∧ v ≤ 8 → fulV q v = (minI q v, pieI v, 0) from fun v hv => fulV_ok (valE_ok h hv))
      have HY := Lib.hid (fun k => fit_yes (q := q) (n := n) (d := d) (k := k))
      have HN := Lib.hid (fun k => fit_no (q := q) (n := n) (d := d) (k := k))
      have hlen := Lib.hid (fun k => fit_len q n d k)
      clear h hc hE
      generalize hfk : fitK q n d = fk at *
      have hf0 : fk 0 = [] := by rw [← hfk]; rfl
      clear hfk
      generalize minI q = mi at *
      generalize hfv : fulV q = fv at *
      obtain ⟨a, b, c, e4⟩ := q
      clear hfv
      obtain ⟨k0, hk0, hx0, hx1, hx2⟩ := info_parts info_int
      go_enter Tryd.func31, Tryd.ntmps31
      go_wp2_with fail
      refine (C.out _).mono ?_
      rintro e w1 ⟨rfl, hb⟩
      have hB := Lib.hid (w_below hB0.out hb)
      replace K := Lib.hid (K.out.later hb)
      replace T := Lib.hid (T.out.later hb)
      clear hb C hB0
      obtain ⟨_, t0, t1, _, _⟩ := T.out
      go_wp2_with fail
      refine (S.out _).mono ?_
      rintro e w2 ⟨rfl, hb⟩
      replace hB := Lib.hid (w_below hB.out hb)
      replace K := Lib.hid (K.out.later hb)
      replace T := Lib.hid (T.out.later hb)
      clear hb S t0 t1
      have hsz : w.heap.size < w2.heap.size ∧ w.heap.size + 1 < w2.heap.size := ⟨K.out.inb, T.out.inb⟩
      go_wp2_with fail
      go_loopw [7, 8] (fun sl sv wr => ∃ k : Nat, k ≤ 8 ∧ sv = .int .i64 ((k + 1 : Nat) : Int) ∧ Hid (Cell4 wr w.heap.size (a, b, c, e4)) ∧ Hid (Own2 wr (w.heap.size + 1) n d) ∧ Hid (OwnL w2 wr 3 1 sl (fk k).length (ints (fk k)))) (fun _ sv _ => (9 - intOf sv).toNat)
      case atStart => exact ⟨0, by omega, rfl, K, T, Lib.hid (by rw [hf0]; exact OwnL.start w2 _ _)⟩
      case round =>
        clear K T
        obtain ⟨k, hk, rfl, K, T, hO⟩ := hrel
        by_cases hlt : k < 8
        · have F1 := Lib.hid (fun W => F.out ((k + 1 : Nat) : Int) (by omega) W)
          rw [F2.out ((k + 1 : Nat) : Int) (by omega)] at F1
          obtain ⟨g, hg⟩ : ∃ g, ((k + 1 : Nat) : Int) = g := ⟨_, rfl⟩
          have hg1 : ((k + 1 + 1 : Nat) : Int) = g + 1 := by omega
          have hgb : g ≤ 8 := by omega
          have hlk := hlen.out k
          have hy := HY.out k
          have hn := HN.out k
          obtain ⟨_, c0, c1, c2, c3, _, _, _, _⟩ := K.out
          simp only at c0 c1 c2 c3
          rw [hg] at F1 hy hn ⊢
          clear F F2 HY HN
          generalize mi g = M at *
          generalize pieI g = D at *
          by_cases hm : M = n ∧ D = d
          · have hfs := Lib.hid (hy hm)
            clear hy hn
            obtain ⟨rfl, rfl⟩ := hm
            go_wp2_with fail
            refine (F1.out _).mono ?_
            rintro e w3 ⟨rfl, hb⟩
            have hb2 := Lib.hid (w_alloc hb (.cells #[.int .i64 M, .int .i64 D] 28))
            have hO1 := Lib.hid (hO.out.later hb2.out)
            have K1 := Lib.hid (K.out.later hb2.out)
            have T1 := Lib.hid (T.out.later hb2.out)
            obtain ⟨_, t0, t1, _, _⟩ := T.out.later hb
            clear hb F1 c0 c1 c2 c3
            obtain ⟨p5, c5, rfl⟩ := hO.out.val
            have hO2 := Lib.hid (hO1.out.later (w_alloc (w_refl _) (.cells #[.int .i64 g] 3)))
            have K2 := Lib.hid (K1.out.later (w_alloc (w_refl _) (.cells #[.int .i64 g] 3)))
            have T2 := Lib.hid (T1.out.later (w_alloc (w_refl _) (.cells #[.int .i64 g] 3)))
            have hLN := Lib.hid (lit_new (w3.alloc (.cells #[.int .i64 M, .int .i64 D] 28)) #[.int .i64 g] 3)
            rw [World.size_alloc] at hLN
            go_wp2_with (at_builtin; refine wpList_append_own _ rfl _ _ 31 rfl w2.heap.size 3 k0 (.int .i64 0) 1 8 Tryd.underlying31 hk0 hx0 hx1 hx2 rfl (by decide) _ (fk k).length (ints (fk k)) rfl hO2.out.row ⟨w3.heap.size + 1, 0, none⟩ 1 1 (ints [g]) rfl rfl hLN.out (ints_one _) (by unfold maxLen; omega) (by omega) hO2.out.bel.size ?_)
            intro v' w4 hown hgrow _
            have hO3 := Lib.hid (show OwnL w2 w4 3 1 v' (fk (k + 1)).length (ints (fk (k + 1))) by
              have := hO1.out.app (w_alloc (w_refl _) (.cells #[.int .i64 g] 3)) hown hgrow
              rw [hfs.out, List.length_append, ints, List.map_append]; exact this)
            have hne : some w.heap.size ≠ (Value.slice p5 (fk k).length c5).ownBlock := fun e => by have := (hO2.out.row.lt _ e.symm).1; omega
            have hne1 : some (w.heap.size + 1) ≠ (Value.slice p5 (fk k).length c5).ownBlock := fun e => by have := (hO2.out.row.lt _ e.symm).1; omega
            have K3 := Lib.hid (K2.out.kept hgrow hne)
            have T3 := Lib.hid (T2.out.kept hgrow hne1)
            clear hown hgrow hO2 hO1 K2 K1 T2 T1 hLN t0 t1
            go_wp2_with fail
            go_roundw
            case rel => exact ⟨k + 1, by omega, by rw [hg1], K3, T3, hO3⟩
            case measure => simp [intOf]; omega
          · have hfs := Lib.hid (hn hm)
            clear hy hn
            rcases ne2 hm with e1 | ⟨rfl, e1⟩
            all_goals
              clear hm
              go_wp2_with fail
              refine (F1.out _).mono ?_
              rintro e w3 ⟨rfl, hb⟩
              have hb2 := Lib.hid (w_alloc hb (.cells #[.int .i64 M, .int .i64 D] 28))
              have hO1 := Lib.hid (show OwnL w2 _ 3 1 _ (fk (k + 1)).length (ints (fk (k + 1))) by rw [hfs.out]; exact hO.out.later hb2.out)
              have K1 := Lib.hid (K.out.later hb2.out)
              have T1 := Lib.hid (T.out.later hb2.out)
              obtain ⟨_, t0, t1, _, _⟩ := T.out.later hb
              clear hb F1 c0 c1 c2 c3
              go_wp2_with fail
              go_roundw
              case rel => exact ⟨k + 1, by omega, by rw [hg1], K1, T1, hO1⟩
              case measure => simp [intOf]; omega
        · obtain rfl : k = 8 := by omega
          have hx := Lib.hid (IntV.of_own hO.out.row)
          clear F F2 HY HN
          go_wp2_with fail
          go_ret2
          exact ⟨_, rfl, hx.out, w_below hB.out hO.out.bel⟩
    · have hE := fitE_ok (n := n) (d := d) h
      have hL := Lib.hid (fitL_no (show ¬ fitE q n d = 0 by rw [hE]; exact hc))
      rw [hL.out, hE]
      have hne : (chk n d != 0) = true := by simp [hc]
      have hne2 : (chk n d == 0) = false := by simp [hc]
      clear hE h hc hL
      generalize chk n d = E at *
      obtain ⟨a, b, c, e4⟩ := q
      go_enter Tryd.func31, Tryd.ntmps31
      go_wp2_with fail
      refine (C.out _).mono ?_
      rintro e w1 ⟨rfl, hb⟩
      have hB := Lib.hid (w_below hB0.out hb)
      obtain ⟨_, t0, t1, _, _⟩ := T.out.later hb
      clear hb C hB0
      go_wp2_with fail
      refine (S.out _).mono ?_
      rintro e w2 ⟨rfl, hb⟩
      replace hB := Lib.hid (w_below hB.out hb)
      clear hb S t0 t1
      go_wp2_with fail
      go_ret2
      exact ⟨_, rfl, IntV.none _, hB.out⟩
  · have hE := fitE_no (n := n) (d := d) h
    have hL := Lib.hid (fitL_no (show ¬ fitE q n d = 0 by rw [hE]; decide))
    rw [hL.out, hE]
    rw [chkM_no h] at C
    clear hE h hL
    obtain ⟨a, b, c, e4⟩ := q
    go_enter Tryd.func31, Tryd.ntmps31
    go_wp2_with fail
    refine (C.out _).mono ?_
    rintro e w1 ⟨rfl, hb⟩
    have hB := Lib.hid (w_below hB0.out hb)
    clear hb C hB0
    go_wp2_with fail
    go_ret2
    exact ⟨_, rfl, IntV.none _, hB.out⟩

end Go.Proofs.YtflgmeajkflobaaDoor
