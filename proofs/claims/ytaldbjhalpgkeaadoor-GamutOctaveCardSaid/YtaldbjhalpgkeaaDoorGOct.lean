/- GamutOctave: an octave higher a melody has at most as many mutations. -/
import Derived.Test.YtaldbjhalpgkeaaDoorGSolO
import Derived.Test.YtaldbjhalpgkeaaDoorGOwn4
namespace Go.Proofs.YtaldbjhalpgkeaaDoor
open Go.RowKit

/-! ### Lists that are written element by element -/
def mixL {α : Type} (f : α → α) (l : List α) (k : Nat) : List α := (l.take k).map f ++ l.drop k
theorem mix_zero {α : Type} (f : α → α) (l : List α) : mixL f l 0 = l := by simp [mixL]
theorem mix_end {α : Type} (f : α → α) (l : List α) {n : Nat} (h : l.length = n) : mixL f l n = l.map f := by subst h; simp [mixL]
theorem mix_next {α : Type} (f : α → α) {l : List α} {k : Nat} {s : α} (h : l[k]? = some s) : (mixL f l k).set k (f s) = mixL f l (k + 1) ∧ (mixL f l k)[k]? = some s := by
  obtain ⟨hlt, e⟩ := List.getElem?_eq_some_iff.1 h
  have hd : l.drop k = s :: l.drop (k + 1) := by rw [← e]; exact List.drop_eq_getElem_cons hlt
  have hl : ((l.take k).map f).length = k := by rw [List.length_map, List.length_take]; omega
  unfold mixL
  rw [hd]
  constructor
  · rw [List.set_append_right _ _ (by omega), hl, Nat.sub_self, List.take_add_one, h, List.map_append]
    simp
  · rw [List.getElem?_append_right (by omega), hl, Nat.sub_self]; rfl
theorem flatS_set : ∀ (l : List Sy) (k : Nat) (s : Sy) (a : Int), l[k]? = some s → (flatS l).set (k * 2) (.int .i64 a) = flatS (l.set k (a, s.2))
  | [], k, s, a, h => by simp at h
  | x :: t, 0, s, a, h => by simp at h; subst h; rfl
  | x :: t, k + 1, s, a, h => by
    have := flatS_set t k s a (by simpa using h)
    rw [show (k + 1) * 2 = k * 2 + 1 + 1 by omega]
    simp [flatS, this]
theorem flatP_set : ∀ (l : List Pi3) (k : Nat) (s : Pi3) (a : Int), l[k]? = some s → (flatP l).set (k * 3 + 1) (.int .i64 a) = flatP (l.set k (s.1, a, s.2.2))
  | [], k, s, a, h => by simp at h
  | x :: t, 0, s, a, h => by simp at h; subst h; rfl
  | x :: t, k + 1, s, a, h => by
    have := flatP_set t k s a (by simpa using h)
    rw [show (k + 1) * 3 + 1 = k * 3 + 1 + 1 + 1 + 1 by omega]
    simp [flatP, this]
theorem OwnL.put {w0 w : World} {e : TypeId} {k g n c : Nat} {cs : List Value} (h : OwnL w0 w e k (.slice (some ⟨g, 0, none⟩) n c) n cs) (j : Nat) (u : Value) :
    OwnL w0 (w.setCell ⟨g, j, none⟩ u) e k (.slice (some ⟨g, 0, none⟩) n c) n (cs.set j u) :=
  ⟨h.bel.setCell (p := ⟨g, j, none⟩) (h.row.lt g rfl).1 u, (h.row.stored j u).1⟩
theorem own_blk4 {w : World} {base k n c : Nat} {e : TypeId} {q : Option Addr} {cs : List Value} (h : w.ownsRow base e k (.slice q n c) n cs) (hn : 0 < n) :
    ∃ g, q = some ⟨g, 0, none⟩ ∧ base ≤ g ∧ g < w.heap.size := by
  rcases h.2 with ⟨e1, e2⟩ | ⟨g, cap, cur, e1, hb, hg, _⟩
  · omega
  · simp only [Value.slice.injEq, true_and] at e1
    exact ⟨g, e1.1, hb, (Array.getElem?_eq_some_iff.1 hg).1⟩

def lowS (s : Sy) : Sy := (1 + s.1 % 4, s.2)
theorem low_ok {s : Sy} (h : okS s) : okS (lowS s) := by unfold okS lowS at *; simp only; omega
theorem made_bd {s : Sy} (h : okS s) : 0 ≤ (madeS s).2.1 ∧ (madeS s).2.1 ≤ 100 := by
  obtain ⟨⟨h1, h2⟩, h3, h4⟩ := h
  have hb : 0 ≤ beginI s.1 ∧ beginI s.1 ≤ 14 := by unfold beginI; repeat' split; all_goals omega
  unfold madeS placeS; simp only; omega

set_option maxRecDepth 100000 in
set_option maxHeartbeats 4000000 in
theorem goct_any (p : Option Addr) (cp : Nat) (zs : List Int) (w : World) (h : SlP w 1 p zs.length cp (ints zs))
    (hz : ∀ z ∈ zs, -9223372036854775808 ≤ z ∧ z ≤ 9223372036854775807) (tab : TabG w)
    (KN : ∀ W, Below w.heap.size w W → Calls Tryd.prog 6 #[] W fun e w' => e = .returned (.bool true) ∧ Below W.heap.size W w') :
    Calls Tryd.prog 10 #[.slice p zs.length cp] w fun e w' => e = .returned (.bool true) ∧ Below w.heap.size w w' := by
  have TB := Lib.hid (fun W (b : Below w.heap.size w W) => tab.later b)
  have KK := Lib.hid KN
  have MZ := Lib.hid (fun W (b : Below w.heap.size w W) => made4_own p cp zs W (h.later b) hz)
  have hM := madeL_ok zs
  have hM30 := madeL_len zs
  clear h hz tab KN
  generalize madeL zs = M at *
  obtain ⟨N, hN⟩ : ∃ N, M.map lowS = N := ⟨_, rfl⟩
  obtain ⟨L, hL⟩ : ∃ L, N.map madeS = L := ⟨_, rfl⟩
  obtain ⟨n, hn⟩ : ∃ n, M.length = n := ⟨_, rfl⟩
  have hNn : N.length = n := by rw [← hN, List.length_map, hn]
  have hLn : L.length = n := by rw [← hL, List.length_map, hNn]
  have hNok : ∀ s ∈ N, okS s := by
    intro s hs
    rw [← hN, List.mem_map] at hs
    obtain ⟨t, ht, rfl⟩ := hs
    exact low_ok (hM t ht)
  have sz : Sings L N := ⟨hL, hNok⟩
  have LB := Lib.hid (fun (k : Nat) (q : Pi3) (hq : L[k]? = some q) => (show 0 ≤ q.2.1 ∧ q.2.1 ≤ 100 by
    have := List.mem_of_getElem? hq
    rw [← hL, List.mem_map] at this
    obtain ⟨t, ht, rfl⟩ := this
    exact made_bd (hNok t ht)))
  rw [hn] at MZ hM30
  have ME := Lib.hid (fun q c W (hh : SlP W 2 q n c (flatS N)) b => (show Calls Tryd.prog 36 #[.slice q n c] W fun e w' => ∃ v, e = .returned (.tuple #[v, .bool true]) ∧ OwnL W w' 23 3 v n (flatP L) by
    have := melody_own q c N W (by rw [hNn]; exact hh) hNok (by omega) (TB.out W b)
    rw [hL, hNn] at this
    exact this))
  have bl := (best_sings sz.sung).len
  rw [hLn] at bl
  have SO := Lib.hid (fun q c W (hh : SlP W 3 q n c (flatP L)) b => (show Calls Tryd.prog 23 #[.slice q n c] W fun e w' => ∃ v, e = .returned (.tuple #[v, .int .i64 (fewL L), .int .i64 0]) ∧ w'.ownsRow W.heap.size 25 2 v n (flatS (bestL L)) ∧ Below W.heap.size W w' by
    have := (wsolmize_own q c L W (by rw [hLn]; exact hh) (TB.out W b)).mono fun e w' x => x.sung sz (by omega)
    rw [hLn, bl] at this
    exact this))
  have UP := Lib.hid (fun (k : ∀ s ∈ bestL L, s.1 ≤ 4) q c W (hh : SlP W 3 q n c (flatP (L.map upP))) b => (show Calls Tryd.prog 23 #[.slice q n c] W fun e w' => ∃ v, e = .returned (.tuple #[v, .int .i64 (fewL (L.map upP)), .int .i64 0]) ∧ Below W.heap.size W w' by
    have hu := few_up sz.sung k
    have hl : (L.map upP).length = n := by rw [List.length_map, hLn]
    have := (wsolmize_any q c (L.map upP) W (by rw [hl]; exact hh) (TB.out W b)).mono fun e w' x => x.sung (best_sings hu.1) (by omega)
    rw [hl] at this
    exact this.mono fun e w' ⟨v, h1, _, h3⟩ => ⟨v, h1, h3⟩))
  have LE := Lib.hid (fun (k : ∀ s ∈ bestL L, s.1 ≤ 4) => (few_up sz.sung k).2)
  have HM := Lib.hid (show _ ∧ _ from ⟨hM, hn⟩)
  have HN := Lib.hid hN
  have HL := Lib.hid hLn
  have HB := Lib.hid bl
  clear hM hn hN hL hNn hLn hNok sz bl
  generalize bestL L = A at *
  generalize fewL L = a at *
  go_enter Tryd.func10, Tryd.ntmps10
  go_wp2_with fail
  refine (KK.out _ (w_refl w)).mono ?_
  rintro e w1 ⟨rfl, hb⟩
  have B1 := Lib.hid hb
  clear hb KK
  go_wp2_with fail
  refine (MZ.out _ B1.out).mono ?_
  rintro e w2 ⟨v, rfl, ho⟩
  obtain ⟨q2, c2, rfl⟩ := ho.val
  have O2 := Lib.hid ho
  clear ho MZ
  go_wp2_with fail
  go_loopw [5] (fun i wr => ∃ k : Nat, k ≤ n ∧ i = .int .i64 k ∧ Hid (OwnL w1 wr 25 2 (.slice q2 n c2) n (flatS (mixL lowS M k)))) (fun i _ => n - (intOf i).toNat)
  case atStart => exact ⟨0, by omega, rfl, by rw [mix_zero]; exact O2⟩
  case round =>
    obtain ⟨k, hk, rfl, ho⟩ := hrel
    clear O2
    by_cases hlt : k < n
    · have hlt' : (k : Int) < n := by omega
      obtain ⟨s, hs⟩ : ∃ s, M[k]? = some s := ⟨M[k]'(by rw [HM.out.2]; exact hlt), List.getElem?_eq_getElem _⟩
      have hok := HM.out.1 s (List.mem_of_getElem? hs)
      obtain ⟨m1, m2⟩ := mix_next lowS hs
      obtain ⟨c0, _⟩ := flatS_at _ k s m2
      obtain ⟨g, rfl, hg1, hg2⟩ := own_blk4 ho.out.row (by omega)
      have d0 : wr.cell? ⟨g, k * 2, none⟩ = some (.int .i64 s.1) := by rw [ho.out.row.cellAt (k * 2) (by omega)]; exact c0
      have f0 := ho.out.row.frozenAt (k * 2)
      have NX := Lib.hid (show OwnL w1 (wr.setCell ⟨g, k * 2, none⟩ (.int .i64 (1 + s.1 % 4))) 25 2 (.slice (some ⟨g, 0, none⟩) n c2) n (flatS (mixL lowS M (k + 1))) by
        have := ho.out.put (k * 2) (.int .i64 (1 + s.1 % 4))
        rw [flatS_set _ k s _ m2, show ((1 + s.1 % 4, s.2) : Sy) = lowS s from rfl, m1] at this
        exact this)
      obtain ⟨⟨s1, s2⟩, _, _⟩ := hok
      have t1 : s.1.tmod 4 = s.1 % 4 := Int.tmod_eq_emod_of_nonneg (by omega)
      have x1 : IntKind.i64.wrap (s.1 % 4) = s.1 % 4 := IntWalk.i64_in _ (by omega)
      have x2 : IntKind.i64.wrap (1 + s.1 % 4) = 1 + s.1 % 4 := IntWalk.i64_in _ (by omega)
      have x3 : IntKind.i64.wrap ((k : Int) + 1) = (k : Int) + 1 := IntWalk.i64_in _ (by omega)
      clear hs m1 m2 c0 ho
      go_wp2_with fail
      go_roundw
      case rel => exact ⟨k + 1, by omega, by go_num, NX⟩
      case measure => simp [intOf]; omega
    · obtain rfl : n = k := by omega
      have hs0 := SlP.of_own ho.out.row (by rw [mix_end lowS M HM.out.2, flatS_len, List.length_map, HM.out.2]) (flatS_one _)
      obtain ⟨q2', c2', e2, hs⟩ := hs0
      simp only [Value.slice.injEq, true_and] at e2
      obtain ⟨rfl, rfl⟩ := e2
      rw [mix_end lowS M HM.out.2, HN.out] at hs
      have B2 := Lib.hid (w_below B1.out ho.out.bel)
      have S2 := Lib.hid hs
      clear hs ho hlt
      rename World => wL
      go_wp2_with fail
      refine (ME.out _ _ _ S2.out B2.out).mono ?_
      rintro e w3 ⟨v, rfl, ho⟩
      obtain ⟨q3, c3, rfl⟩ := ho.val
      have hs3 := SlP.of_own ho.row (by rw [flatP_len, HL.out]) (flatP_one _)
      obtain ⟨q3', c3', e3, hs3⟩ := hs3
      simp only [Value.slice.injEq, true_and] at e3
      obtain ⟨rfl, rfl⟩ := e3
      have O3 := Lib.hid ho
      have S3 := Lib.hid hs3
      have B3 := Lib.hid (w_below B2.out ho.bel)
      clear hs3 ho ME S2
      go_wp2_with fail
      refine (SO.out _ _ _ S3.out B3.out).mono ?_
      rintro e w4 ⟨v, rfl, hrow, hb⟩
      obtain ⟨q4, c4, rfl⟩ : ∃ q4 c4, v = .slice q4 n c4 := by
        rcases hrow.2 with ⟨rfl, h0⟩ | ⟨g, c, _, rfl, _⟩
        · rw [h0]; exact ⟨_, _, rfl⟩
        · exact ⟨_, _, rfl⟩
      have O4 := Lib.hid (show _ ∧ _ from ⟨O3.out.later hb, hrow⟩)
      have G3 := Lib.hid (fun g (e : q3 = some ⟨g, 0, none⟩) => (O3.out.row.lt g (by rw [e]; rfl)).2)
      clear hb hrow O3 S3 SO
      go_wp2_with fail
      go_loopw [11] (fun i wx => ∃ k : Nat, k ≤ n ∧ i = .int .i64 k ∧ Hid (OwnL wL wx 23 3 (.slice q3 n c3) n (flatP (mixL upP L k)) ∧ wx.ownsRow w3.heap.size 25 2 (.slice q4 n c4) n (flatS A) ∧ ∀ s ∈ A.take k, s.1 ≤ 4)) (fun i _ => n - (intOf i).toNat)
      case atStart => exact ⟨0, by omega, rfl, Lib.hid ⟨by rw [mix_zero]; exact O4.out.1, O4.out.2, by simp⟩⟩
      case round =>
        obtain ⟨k, hk, rfl, ho⟩ := hrel
        clear O4
        have BX := Lib.hid (w_below B2.out ho.out.1.bel)
        by_cases hlt : k < n
        · have hlt' : (k : Int) < n := by omega
          obtain ⟨q, hq⟩ : ∃ q, L[k]? = some q := ⟨L[k]'(by rw [HL.out]; exact hlt), List.getElem?_eq_getElem _⟩
          obtain ⟨s, hs⟩ : ∃ s, A[k]? = some s := ⟨A[k]'(by rw [HB.out]; exact hlt), List.getElem?_eq_getElem _⟩
          obtain ⟨m1, m2⟩ := mix_next upP hq
          obtain ⟨c0, c1, _⟩ := flatP_at _ k q m2
          obtain ⟨a0, _⟩ := flatS_at _ k s hs
          obtain ⟨g, rfl, hg1, hg2⟩ := own_blk4 ho.out.1.row (by omega)
          obtain ⟨g4, rfl, hg3, hg4⟩ := own_blk4 ho.out.2.1 (by omega)
          have hgg := G3.out g rfl
          have d1 : wr.cell? ⟨g, k * 3 + 1, none⟩ = some (.int .i64 q.2.1) := by rw [ho.out.1.row.cellAt (k * 3 + 1) (by omega)]; exact c1
          have f1 := ho.out.1.row.frozenAt (k * 3 + 1)
          have d0 : wr.cell? ⟨g4, k * 2, none⟩ = some (.int .i64 s.1) := by rw [ho.out.2.1.cellAt (k * 2) (by omega)]; exact a0
          have x3 : IntKind.i64.wrap ((k : Int) + 1) = (k : Int) + 1 := IntWalk.i64_in _ (by omega)
          by_cases h4 : 4 < s.1
          · clear c0 c1 a0 m1 m2 hq hs ho
            go_wp2_with fail
            go_ret
            exact ⟨rfl, BX.out⟩
          · have hq2 := LB.out k q hq
            have x1 : IntKind.i64.wrap (q.2.1 + 1) = q.2.1 + 1 := IntWalk.i64_in _ (by omega)
            have NX := Lib.hid (show OwnL wL (wr.setCell ⟨g, k * 3 + 1, none⟩ (.int .i64 (q.2.1 + 1))) 23 3 (.slice (some ⟨g, 0, none⟩) n c3) n (flatP (mixL upP L (k + 1))) ∧ (wr.setCell ⟨g, k * 3 + 1, none⟩ (.int .i64 (q.2.1 + 1))).ownsRow w3.heap.size 25 2 (.slice (some ⟨g4, 0, none⟩) n c4) n (flatS A) ∧ ∀ s ∈ A.take (k + 1), s.1 ≤ 4 from by
              refine ⟨?_, own_put ho.out.2.1 (by intro e; injection e with e; subst e; omega) _ _, ?_⟩
              · have := ho.out.1.put (k * 3 + 1) (.int .i64 (q.2.1 + 1))
                rw [flatP_set _ k q _ m2, show ((q.1, q.2.1 + 1, q.2.2) : Pi3) = upP q from rfl, m1] at this
                exact this
              · intro t ht
                rw [List.take_add_one, hs] at ht
                rcases List.mem_append.1 ht with ht | ht
                · exact ho.out.2.2 t ht
                · simp at ht; subst ht; omega)
            clear c0 c1 a0 m1 m2 hq hs ho hq2
            go_wp2_with fail
            go_roundw
            case rel => exact ⟨k + 1, by omega, by go_num, NX⟩
            case measure => simp [intOf]; omega
        · obtain rfl : n = k := by omega
          have hall : ∀ s ∈ A, s.1 ≤ 4 := by
            have := ho.out.2.2
            rwa [List.take_of_length_le (by rw [HB.out]; exact Nat.le_refl _)] at this
          have hle := LE.out hall
          have hs0 := SlP.of_own ho.out.1.row (by rw [mix_end upP L HL.out, flatP_len, List.length_map, HL.out]) (flatP_one _)
          obtain ⟨q3', c3', e3, hs⟩ := hs0
          simp only [Value.slice.injEq, true_and] at e3
          obtain ⟨rfl, rfl⟩ := e3
          rw [mix_end upP L HL.out] at hs
          have C := Lib.hid (UP.out hall q3 c3 _ hs BX.out)
          have hle2 : decide (fewL (L.map upP) ≤ a) = true := decide_eq_true hle
          clear hall hs ho UP LE
          generalize fewL (L.map upP) = u at *
          go_wp2_with fail
          refine C.out.mono ?_
          rintro e w5 ⟨v, rfl, hb⟩
          have B5 := Lib.hid (w_below BX.out hb)
          clear hb C
          go_wp2_with fail
          go_ret
          exact ⟨rfl, B5.out⟩

end Go.Proofs.YtaldbjhalpgkeaaDoor
