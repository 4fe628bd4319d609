/- The reference's Best. -/
import Derived.Test.YteomimeagloofaaDoorCRefE
namespace Go.Proofs.YteomimeagloofaaDoor
open Go.RowKit

theorem bst_yes {l : List Pi3} {j : Nat} (h : nedB (clefN j) l = true) (k : (bestSt l j).2 < 0 ∨ nedV (clefN j) l < (bestSt l j).2) : bestSt l (j + 1) = (clefN j, nedV (clefN j) l) := by
  have e : nedV (clefN j) l = nedS (clefN j) l := if_pos h
  rw [e] at k ⊢
  exact if_pos ⟨h, k⟩
theorem bst_no {l : List Pi3} {j : Nat} (h : ¬ (nedB (clefN j) l = true ∧ ((bestSt l j).2 < 0 ∨ nedV (clefN j) l < (bestSt l j).2))) : bestSt l (j + 1) = bestSt l j := by
  refine if_neg (fun x => h ⟨x.1, ?_⟩)
  rw [show nedV (clefN j) l = nedS (clefN j) l from if_pos x.1]
  exact x.2
def stI (i : Nat) : Int := if i = 0 then 0 else if i = 1 then 3 else 4
theorem clefN_at {i m : Nat} (hi : i < 3) (hm : m < 5) : clefN (5 * i + m) = (stI i, ((m + 1 : Nat) : Int)) := by
  have hall : ∀ i ∈ List.range 3, ∀ m ∈ List.range 5, clefN (5 * i + m) = (stI i, ((m + 1 : Nat) : Int)) := by decide
  exact hall i (List.mem_range.2 hi) m (List.mem_range.2 hm)
def BesPost (k : Int) (l : List Pi3) (w : World) (e : Ending) (w' : World) : Prop := e = .returned (.tuple #[cv (besC k l), .int .i64 (besE k l)]) ∧ Below w.heap.size w w'
theorem bes_key {k : Int} {l : List Pi3} (h : ¬ (0 ≤ k ∧ k ≤ 2)) : besE k l = 2 ∧ besC k l = (0, 0) := by
  have e : besE k l = 2 := if_neg h
  exact ⟨e, if_neg (by rw [e]; decide)⟩
theorem bes_bad {k : Int} {l : List Pi3} (h : 0 ≤ k ∧ k ≤ 2) (hp : ¬ ∀ p ∈ l, okP p) : besE k l = 2 ∧ besC k l = (0, 0) := by
  have e : besE k l = 2 := by unfold besE; rw [if_pos h, if_neg hp]
  exact ⟨e, if_neg (by rw [e]; decide)⟩
theorem bes_none {k : Int} {l : List Pi3} (h : 0 ≤ k ∧ k ≤ 2) (hp : ∀ p ∈ l, okP p) (hn : (bestSt l 15).2 < 0) : besE k l = 18 ∧ besC k l = (0, 0) := by
  have e : besE k l = 18 := by unfold besE; rw [if_pos h, if_pos hp, if_pos hn]
  exact ⟨e, if_neg (by rw [e]; decide)⟩
theorem bes_ok {k : Int} {l : List Pi3} (h : 0 ≤ k ∧ k ≤ 2) (hp : ∀ p ∈ l, okP p) (hn : 0 ≤ (bestSt l 15).2) : besE k l = 0 ∧ besC k l = (bestSt l 15).1 := by
  have e : besE k l = 0 := by unfold besE; rw [if_pos h, if_pos hp, if_neg (by omega)]
  exact ⟨e, if_pos e⟩
/-- Two cells of a result. -/
theorem clef_put {w1 : World} {b : Nat} {t : TypeId} {x0 x1 : Value} (h : HoldsB w1 b t #[x0, x1]) (A B : Value) :
    (w1.setCell ⟨b, 0, none⟩ A).cell? ⟨b, 0, none⟩ = some A ∧ ((w1.setCell ⟨b, 0, none⟩ A).setCell ⟨b, 1, none⟩ B).cell? ⟨b, 1, none⟩ = some B :=
  ⟨(h.set 0 A).cell rfl, ((h.set 0 A).set 1 B).cell rfl⟩

set_option maxHeartbeats 8000000 in
theorem rbest_any (k : Int) (p : Option Addr) (cap : Nat) (l : List Pi3) (hl : l.length ≤ 1000) (w : World) (h : SlP w 3 p l.length cap (flatP l)) :
    Calls Tryd.prog 22 #[.int .i64 k, .slice p l.length cap] w (BesPost k l w) := by
  unfold BesPost
  have f1 := h.fit
  have f2 := h.max
  have HS := Lib.hid h
  have r0 := Lib.hid (HoldsB.new w 23 #[.int .i64 0, .int .i64 0])
  have hB := Lib.hid (w_alloc (w_refl w) (cO (0, 0)))
  by_cases hk : 0 ≤ k ∧ k ≤ 2
  · have CH := Lib.hid (fun q W => rcheck_any q W)
    have hE := Lib.hid (show ∀ j q, l[j]? = some q → ¬ okP q → besE k l = 2 ∧ besC k l = (0, 0) from fun j q hq hn => bes_bad hk (fun hall => hn (hall q (List.mem_of_getElem? hq))))
    have hN := Lib.hid (fun hp hn => bes_none (l := l) hk hp hn)
    have hO := Lib.hid (fun hp hn => bes_ok (l := l) hk hp hn)
    obtain ⟨hk1, hk2⟩ := hk
    clear h
    generalize besE k l = E at *
    generalize besC k l = C at *
    go_enter Tryd.func22, Tryd.ntmps22
    go_wp2_with fail
    go_loopw [6] (fun s6 wr => ∃ j : Nat, j ≤ l.length ∧ s6 = .int .i64 j ∧ Hid (∀ i q, i < j → l[i]? = some q → okP q) ∧ Hid (HoldsB wr w.heap.size 23 #[.int .i64 0, .int .i64 0]) ∧ Hid (Below w.heap.size w wr)) (fun s6 _ => l.length - (intOf s6).toNat)
    case atStart => exact ⟨0, Nat.zero_le _, rfl, Lib.hid (fun i q hi => by omega), r0, hB⟩
    case round =>
      clear r0 hB
      obtain ⟨j, hj, rfl, hall, r0, hbr⟩ := hrel
      by_cases hlt : j < l.length
      · have hlt' : (j : Int) < l.length := by omega
        obtain ⟨q, hq⟩ : ∃ q, l[j]? = some q := ⟨l[j], List.getElem?_eq_getElem hlt⟩
        obtain ⟨bl, off, rfl, _, q0, q1, q2⟩ := (HS.out.later hbr.out).pit hq
        have C1 := Lib.hid (fun W => CH.out q W)
        by_cases hp : okP q
        · rw [chkV_ok hp] at C1
          have hall2 := Lib.hid (show ∀ i q', i < j + 1 → l[i]? = some q' → okP q' from fun i q' hi hq' => by
            by_cases e : i = j
            · subst e; rw [hq] at hq'; injection hq' with hq'; rw [← hq']; exact hp
            · exact hall.out i q' (by omega) hq')
          clear hall hp hq CH hE hN hO
          obtain ⟨s, o, a⟩ := q
          go_wp2_with fail
          refine (C1.out _).mono ?_
          rintro e w2 ⟨rfl, hb⟩
          have r1 := Lib.hid (r0.out.later hb)
          have hB1 := Lib.hid (w_below hbr.out hb)
          clear hb C1 q0 q1 q2
          go_wp2_with fail
          go_roundw
          case rel => exact ⟨j + 1, by omega, by go_num, hall2, r1, hB1⟩
          case measure => simp [intOf]; omega
        · rw [show chkV q = 2 from if_neg hp] at C1
          obtain ⟨e1, e2⟩ := hE.out j q hq hp
          have hfin := Lib.hid (show Ending.returned (Value.tuple #[cv C, .int .i64 E]) = .returned (.tuple #[cv (0, 0), .int .i64 2]) by rw [e1, e2])
          clear hall hp hq CH hE hN hO e1 e2
          obtain ⟨s, o, a⟩ := q
          go_wp2_with fail
          refine (C1.out _).mono ?_
          rintro e w2 ⟨rfl, hb⟩
          have r1 := Lib.hid (r0.out.later hb)
          have hB1 := Lib.hid (w_below hbr.out hb)
          clear hb C1 q0 q1 q2
          obtain ⟨d0, d1⟩ := clef_put r1.out (.int .i64 0) (.int .i64 0)
          have e0 := r1.out.cell (j := 0) rfl
          have e1 := r1.out.cell (j := 1) rfl
          have ef := r1.out.frozen
          go_wp2_with fail
          refine bodyPost_ret (v := .tuple #[cv (0, 0), .int .i64 2]) (by simp [results, Tryd.results22, go_sem, d0, d1]) rfl ⟨hfin.out.symm, ?_⟩
          exact w_put (w_put hB1.out (by omega) _ _) (by omega) _ _
      · have hlt' : ¬ ((j : Int) < l.length) := by omega
        have hok := Lib.hid (show ∀ p ∈ l, okP p from fun p hp => by
          obtain ⟨i, hi, e⟩ := List.getElem_of_mem hp
          exact hall.out i p (by omega) (by rw [List.getElem?_eq_getElem hi, e]))
        have NE := Lib.hid (show ∀ i m, i < 3 → m < 5 → ∀ W, SlP W 3 p l.length cap (flatP l) → Calls Tryd.prog 47 #[.agg #[.int .i64 (stI i), .int .i64 ((m + 1 : Nat) : Int)], .slice p l.length cap] W fun e w' => e = .returned (.tuple #[.int .i64 (nedV (clefN (5 * i + m)) l), .bool (nedB (clefN (5 * i + m)) l)]) ∧ Below W.heap.size W w' from fun i m hi hm W hs => by
          have := rned_any (clefN (5 * i + m)) (clefN_ok _ (by omega)) p cap l hl hok.out W hs
          unfold NedPost at this
          rw [show cv (clefN (5 * i + m)) = .agg #[.int .i64 (stI i), .int .i64 ((m + 1 : Nat) : Int)] by rw [clefN_at hi hm]] at this
          exact this)
        have HY := Lib.hid (fun j => bst_yes (l := l) (j := j))
        have HZ := Lib.hid (fun j => bst_no (l := l) (j := j))
        have hfN := Lib.hid (show (bestSt l 15).2 < 0 → Ending.returned (Value.tuple #[cv C, .int .i64 E]) = .returned (.tuple #[cv (0, 0), .int .i64 18]) from fun hn => by rw [(hN.out hok.out hn).1, (hN.out hok.out hn).2])
        have hfO := Lib.hid (show 0 ≤ (bestSt l 15).2 → Ending.returned (Value.tuple #[cv C, .int .i64 E]) = .returned (.tuple #[cv (bestSt l 15).1, .int .i64 0]) from fun hn => by rw [(hO.out hok.out hn).1, (hO.out hok.out hn).2])
        clear hall CH hE hN hO hok hl
        generalize hst : bestSt l = st at *
        have hst0 : st 0 = ((0, 0), -1) := by rw [← hst]; rfl
        clear hst
        rename World => wA
        have s1 := Lib.hid ((HoldsB.new wA 3 #[.int .i64 0, .int .i64 3, .int .i64 4]).al (cO (0, 0)))
        have b1 := Lib.hid (HoldsB.new (wA.alloc (.cells #[.int .i64 0, .int .i64 3, .int .i64 4] 3)) 23 #[.int .i64 0, .int .i64 0])
        rw [World.size_alloc] at b1
        have r1 := Lib.hid ((r0.out.al (.cells #[.int .i64 0, .int .i64 3, .int .i64 4] 3)).al (cO (0, 0)))
        have hB1 := Lib.hid (w_alloc (w_alloc hbr.out (.cells #[.int .i64 0, .int .i64 3, .int .i64 4] 3)) (cO (0, 0)))
        have hlw : w.heap.size < wA.heap.size := r0.out.lt
        clear r0 hbr
        go_wp2_with fail
        go_loopw [10, 11] (fun s10 s11 wq => ∃ i : Nat, i ≤ 3 ∧ s11 = .int .i64 i ∧ s10 = .int .i64 (st (5 * i)).2 ∧ Hid (HoldsB wq (wA.heap.size + 1) 23 #[.int .i64 (st (5 * i)).1.1, .int .i64 (st (5 * i)).1.2]) ∧ Hid (HoldsB wq wA.heap.size 3 #[.int .i64 0, .int .i64 3, .int .i64 4]) ∧ Hid (HoldsB wq w.heap.size 23 #[.int .i64 0, .int .i64 0]) ∧ Hid (Below w.heap.size w wq)) (fun _ s11 _ => (3 - intOf s11).toNat)
        case atStart => exact ⟨0, by omega, rfl, by rw [hst0], Lib.hid (by rw [hst0]; exact b1.out), s1, r1, hB1⟩
        case round =>
          clear s1 b1 r1 hB1 hst0
          rename World => wq
          obtain ⟨i, hi, rfl, rfl, b1, s1, r1, hB1⟩ := hrel
          by_cases hi3 : i < 3
          · have hi0 : (0 : Int) ≤ i := by omega
            have hi1 : (i : Int) < 3 := by omega
            have hcell := Lib.hid (show (#[Value.int .i64 0, .int .i64 3, .int .i64 4] : Array Value)[i]? = some (.int .i64 (stI i)) by
              have c : i = 0 ∨ i = 1 ∨ i = 2 := by omega
              rcases c with rfl | rfl | rfl <;> rfl)
            clear hfN hfO
            go_wp2_with fail
            go_loopw [10, 12] (fun s10 s12 wz => ∃ m : Nat, m ≤ 5 ∧ s12 = .int .i64 ((m + 1 : Nat) : Int) ∧ s10 = .int .i64 (st (5 * i + m)).2 ∧ Hid (HoldsB wz (wA.heap.size + 1) 23 #[.int .i64 (st (5 * i + m)).1.1, .int .i64 (st (5 * i + m)).1.2]) ∧ Hid (HoldsB wz wA.heap.size 3 #[.int .i64 0, .int .i64 3, .int .i64 4]) ∧ Hid (HoldsB wz w.heap.size 23 #[.int .i64 0, .int .i64 0]) ∧ Hid (Below w.heap.size w wz)) (fun _ s12 _ => (6 - intOf s12).toNat)
            case atStart => exact ⟨0, by omega, rfl, rfl, b1, s1, r1, hB1⟩
            case round =>
              clear b1 s1 r1 hB1
              rename World => wz
              obtain ⟨m, hm, rfl, rfl, b1, s1, r1, hB1⟩ := hrel
              by_cases hm5 : m < 5
              · have N1 := Lib.hid (fun W hs => NE.out i m hi3 hm5 W hs)
                have hy := HY.out (5 * i + m)
                have hz := HZ.out (5 * i + m)
                have hce := clefN_at hi3 hm5
                rw [hce] at hy
                rw [hce] at hz N1
                obtain ⟨g, hg⟩ : ∃ g, ((m + 1 : Nat) : Int) = g := ⟨_, rfl⟩
                have hg1 : ((m + 1 + 1 : Nat) : Int) = g + 1 := by omega
                have hgb : g ≤ 5 := by omega
                have cI := s1.out.cell hcell.out
                rw [hg] at hy hz N1 ⊢
                have hnl := Lib.hid (show st (5 * i + (m + 1)) = st (5 * i + m + 1) from rfl)
                generalize nedV (stI i, g) l = V at *
                generalize nedB (stI i, g) l = Bv at *
                generalize st (5 * i + m) = T at *
                obtain ⟨⟨T0, T1⟩, T2⟩ := T
                simp only at hy hz b1
                clear HY HZ NE hce hcell
                go_wp2_with fail
                refine (N1.out _ (HS.out.later (w_alloc hB1.out (cO (stI i, g))))).mono ?_
                rintro e w2 ⟨rfl, hb⟩
                have hb9 := w_below (w_alloc (w_refl wz) (cO (stI i, g))) hb
                have b2 := Lib.hid (b1.out.later hb9)
                have s2 := Lib.hid (s1.out.later hb9)
                have r2 := Lib.hid (r1.out.later hb9)
                have n2 := Lib.hid ((HoldsB.new wz 23 #[.int .i64 (stI i), .int .i64 g]).later hb)
                have hB2 := Lib.hid (w_below hB1.out hb9)
                have hlz : wA.heap.size + 1 < wz.heap.size := b1.out.lt
                clear hb hb9 N1 cI b1 s1 r1 hB1
                cases Bv with
                | false =>
                  have hnx := Lib.hid (hnl.out.trans (hz (fun x => by cases x.1)))
                  clear hy hz hnl
                  go_wp2_with fail
                  go_roundw
                  case rel => exact ⟨m + 1, by omega, by rw [hg1], by rw [hnx.out], Lib.hid (by rw [hnx.out]; exact b2.out), s2, r2, hB2⟩
                  case measure => simp [intOf]; omega
                | true =>
                  by_cases h1 : T2 < 0
                  · have hnx := Lib.hid (hnl.out.trans (hy rfl (.inl h1)))
                    clear hy hz hnl
                    have k0 := b2.out.cell (j := 0) rfl
                    have k1 := b2.out.cell (j := 1) rfl
                    have kf := b2.out.frozen
                    have c0 := n2.out.cell (j := 0) rfl
                    have c1 := n2.out.cell (j := 1) rfl
                    go_wp2_with fail
                    go_roundw
                    case rel => exact ⟨m + 1, by omega, by rw [hg1], by rw [hnx.out], Lib.hid (by rw [hnx.out]; exact (b2.out.set 0 (.int .i64 (stI i))).set 1 (.int .i64 g)), Lib.hid ((s2.out.other (by omega) 0 _).other (by omega) 1 _), Lib.hid ((r2.out.other (by omega) 0 _).other (by omega) 1 _), Lib.hid (w_put (w_put hB2.out (by omega) 0 _) (by omega) 1 _)⟩
                    case measure => simp [intOf]; omega
                  · by_cases h2 : V < T2
                    · have hnx := Lib.hid (hnl.out.trans (hy rfl (.inr h2)))
                      clear hy hz hnl
                      have k0 := b2.out.cell (j := 0) rfl
                      have k1 := b2.out.cell (j := 1) rfl
                      have kf := b2.out.frozen
                      have c0 := n2.out.cell (j := 0) rfl
                      have c1 := n2.out.cell (j := 1) rfl
                      go_wp2_with fail
                      go_roundw
                      case rel => exact ⟨m + 1, by omega, by rw [hg1], by rw [hnx.out], Lib.hid (by rw [hnx.out]; exact (b2.out.set 0 (.int .i64 (stI i))).set 1 (.int .i64 g)), Lib.hid ((s2.out.other (by omega) 0 _).other (by omega) 1 _), Lib.hid ((r2.out.other (by omega) 0 _).other (by omega) 1 _), Lib.hid (w_put (w_put hB2.out (by omega) 0 _) (by omega) 1 _)⟩
                      case measure => simp [intOf]; omega
                    · have hnx := Lib.hid (hnl.out.trans (hz (fun x => x.2.elim h1 h2)))
                      clear hy hz hnl
                      go_wp2_with fail
                      go_roundw
                      case rel => exact ⟨m + 1, by omega, by rw [hg1], by rw [hnx.out], Lib.hid (by rw [hnx.out]; exact b2.out), s2, r2, hB2⟩
                      case measure => simp [intOf]; omega
              · obtain rfl : m = 5 := by omega
                clear HY HZ NE hcell
                go_wp2_with fail
                go_roundw
                case rel => exact ⟨i + 1, by omega, by go_num, rfl, b1, s1, r1, hB1⟩
                case measure => simp [intOf]; omega
          · obtain rfl : i = 3 := by omega
            have e15 : (5 * 3 : Nat) = 15 := rfl
            rw [e15] at b1 ⊢
            clear HY HZ NE
            by_cases hn : (st 15).2 < 0
            · have hfin := Lib.hid (hfN.out hn)
              clear hfN hfO
              generalize st 15 = T at *
              obtain ⟨⟨T0, T1⟩, T2⟩ := T
              simp only at hn
              obtain ⟨d0, d1⟩ := clef_put r1.out (.int .i64 0) (.int .i64 0)
              have e0 := r1.out.cell (j := 0) rfl
              have e1 := r1.out.cell (j := 1) rfl
              have ef := r1.out.frozen
              go_wp2_with fail
              refine bodyPost_ret (v := .tuple #[cv (0, 0), .int .i64 18]) (by simp [results, Tryd.results22, go_sem, d0, d1]) rfl ⟨hfin.out.symm, ?_⟩
              exact w_put (w_put hB1.out (by omega) _ _) (by omega) _ _
            · have hfin := Lib.hid (hfO.out (by omega))
              clear hfN hfO
              generalize st 15 = T at *
              obtain ⟨⟨T0, T1⟩, T2⟩ := T
              simp only at hn
              obtain ⟨d0, d1⟩ := clef_put r1.out (.int .i64 T0) (.int .i64 T1)
              have k0 := b1.out.cell (j := 0) rfl
              have k1 := b1.out.cell (j := 1) rfl
              have e0 := r1.out.cell (j := 0) rfl
              have e1 := r1.out.cell (j := 1) rfl
              have ef := r1.out.frozen
              go_wp2_with fail
              refine bodyPost_ret (v := .tuple #[cv (T0, T1), .int .i64 0]) (by simp [results, Tryd.results22, go_sem, d0, d1]) rfl ⟨hfin.out.symm, ?_⟩
              exact w_put (w_put hB1.out (by omega) _ _) (by omega) _ _
  · obtain ⟨e1, e2⟩ := bes_key (l := l) hk
    rw [e1, e2]
    clear e1 e2 h
    by_cases h1 : k < 0
    · clear hk
      go_enter Tryd.func22, Tryd.ntmps22
      go_wp2_with fail
      refine bodyPost_ret (v := .tuple #[cv (0, 0), .int .i64 2]) (by simp [results, Tryd.results22, go_sem]) rfl ⟨rfl, ?_⟩
      exact hB.out
    · have h2 : 2 < k := by omega
      clear hk
      go_enter Tryd.func22, Tryd.ntmps22
      go_wp2_with fail
      refine bodyPost_ret (v := .tuple #[cv (0, 0), .int .i64 2]) (by simp [results, Tryd.results22, go_sem]) rfl ⟨rfl, ?_⟩
      exact hB.out

end Go.Proofs.YteomimeagloofaaDoor
