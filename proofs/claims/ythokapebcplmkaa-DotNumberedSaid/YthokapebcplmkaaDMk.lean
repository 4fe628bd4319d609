/- Cuts and additions: plain facts, and two lists side by side in memory. -/
import Derived.Test.YthokapebcplmkaaDSpec
import Derived.Test.YthokapebcplmkaaDMem
import Derived.Test.YthokapebcplmkaaDSort
import Derived.Test.YthokapebcplmkaaDKit
import Derived.Test.YthokapebcplmkaaDPost
namespace Go.Proofs.Ythokapebcplmkaa
open Go.RowKit

theorem mk_cnt (q : Q4) (l : List Sg) (ch : List Int) : ∀ k, (mkP l ch k).2.2 = (mnP q l k).length
  | 0 => rfl
  | k + 1 => by
    have ih := mk_cnt q l ch k
    by_cases h : (l.getD k zS).kind = 3
    · have e : mkP l ch (k + 1) = _ := if_pos h
      rw [e, mnP_dot h, List.length_append, ← ih]; rfl
    · have e : mkP l ch (k + 1) = _ := if_neg h
      rw [e, mnP_not h, ← ih]
theorem mnP_mono (q : Q4) (l : List Sg) {i j : Nat} (h : i ≤ j) : (mnP q l i).length ≤ (mnP q l j).length := by
  induction j with
  | zero => obtain rfl : i = 0 := by omega
            exact Nat.le_refl _
  | succ j ih =>
    by_cases e : i = j + 1
    · rw [e]; exact Nat.le_refl _
    · refine Nat.le_trans (ih (by omega)) ?_
      by_cases h : (l.getD j zS).kind = 3
      · rw [mnP_dot h, List.length_append]; exact Nat.le_add_right _ _
      · rw [mnP_not h]; exact Nat.le_refl _
theorem mk_lt (q : Q4) (l : List Sg) (ch : List Int) {k : Nat} (hk : k < l.length) (h : (l.getD k zS).kind = 3) : (mkP l ch k).2.2 < (mnP q l l.length).length := by
  rw [mk_cnt q]
  have := mnP_mono q l (show k + 1 ≤ l.length from hk)
  rw [mnP_dot h, List.length_append] at this
  exact this
theorem mk_not {l : List Sg} {ch : List Int} {k : Nat} (h : (l.getD k zS).kind ≠ 3) : mkP l ch (k + 1) = ((mkP l ch k).1 ++ [0], (mkP l ch k).2.1 ++ [false], (mkP l ch k).2.2) := if_neg h
theorem setZ_app {α : Type} (A : List α) (x y : α) : setZ (A ++ [x]) y = A ++ [y] := by
  unfold setZ
  rw [List.length_append, show A.length + [x].length - 1 = A.length from rfl, List.set_append_right _ _ (Nat.le_refl _), Nat.sub_self]; rfl
/-- At a dot of a valid run: what was last becomes what the dot says. -/
theorem mk_dot {l : List Sg} {ch : List Int} {j : Nat} (hj : (l.getD j zS).kind ≠ 3) (h : (l.getD (j + 1) zS).kind = 3) :
    mkP l ch (j + 1) = ((mkP l ch j).1 ++ [0], (mkP l ch j).2.1 ++ [false], (mkP l ch j).2.2) ∧
      mkP l ch (j + 1 + 1) = ((mkP l ch j).1 ++ [ch.getD (mkP l ch j).2.2 0], (mkP l ch j).2.1 ++ [decide (ch.getD (mkP l ch j).2.2 0 = 0)], (mkP l ch j).2.2 + 1) := by
  have e := mk_not (ch := ch) hj
  refine ⟨e, ?_⟩
  have e2 : mkP l ch (j + 1 + 1) = (setZ (mkP l ch (j + 1)).1 (ch.getD (mkP l ch (j + 1)).2.2 0), setZ (mkP l ch (j + 1)).2.1 (decide (ch.getD (mkP l ch (j + 1)).2.2 0 = 0)), (mkP l ch (j + 1)).2.2 + 1) := if_pos h
  rw [e2, e, setZ_app, setZ_app]
theorem mk_len (l : List Sg) (ch : List Int) : ∀ k, (mkP l ch k).1.length ≤ k ∧ (mkP l ch k).2.1.length = (mkP l ch k).1.length ∧ (mkP l ch k).2.2 ≤ k
  | 0 => ⟨Nat.le_refl _, rfl, Nat.le_refl _⟩
  | k + 1 => by
    obtain ⟨h1, h2, h3⟩ := mk_len l ch k
    by_cases h : (l.getD k zS).kind = 3
    · have e : mkP l ch (k + 1) = _ := if_pos h
      rw [e]
      simp only [setZ, List.length_set]
      omega
    · rw [mk_not h]
      simp only [List.length_append, List.length_cons, List.length_nil]
      omega

/-! ### Two lists side by side -/
theorem own_two {A : World} {b1 b2 : Nat} {e1 e2 : TypeId} {k1 k2 n1 n2 g c : Nat} {x1 x2 : List Value} {v2 : Value} (h1 : A.ownsRow b1 e1 k1 (.slice (some ⟨g, 0, none⟩) n1 c) n1 x1) (h2 : A.ownsRow b2 e2 k2 v2 n2 x2) (hne : e2 ≠ e1) (j : Nat) (u : Value) :
    (A.setCell ⟨g, j, none⟩ u).ownsRow b2 e2 k2 v2 n2 x2 := own_far h1 h2 hne (grow_set (grown_bel (w_refl A)) j u)
structure CutL (w0 w : World) (v u : Value) (cs : List Int) (bs : List Bool) : Prop where
  bel : Below w0.heap.size w0 w
  r1 : w.ownsRow w0.heap.size 3 1 v cs.length (ints cs)
  r2 : w.ownsRow w0.heap.size 4 1 u bs.length (bools bs)
theorem CutL.start (w : World) : CutL w w (.slice none 0 0) (.slice none 0 0) [] [] := ⟨w_refl w, World.ownsRow_nil _ _ _ _, World.ownsRow_nil _ _ _ _⟩
theorem CutL.later {w0 w w1 : World} {v u : Value} {cs : List Int} {bs : List Bool} (h : CutL w0 w v u cs bs) (b : Below w.heap.size w w1) : CutL w0 w1 v u cs bs := ⟨w_below h.bel b, own_keep h.r1 b (Nat.le_refl _), own_keep h.r2 b (Nat.le_refl _)⟩
theorem CutL.app1 {w0 w w2 : World} {v v' u : Value} {cs : List Int} {bs : List Bool} {x : Int} {m : Nat} (h : CutL w0 w v u cs bs) (hown : w2.ownsRow w0.heap.size 3 1 v' m (ints cs ++ ints [x])) (hm : m = cs.length + 1) (hg : w.grownBy w2 v.ownBlock) : CutL w0 w2 v' u (cs ++ [x]) bs := by
  subst hm
  refine ⟨h.bel.grown hg h.bel.size fun j e => (h.r1.lt j e).1, ?_, own_far h.r1 h.r2 (by decide) hg⟩
  rw [List.length_append, show ints (cs ++ [x]) = ints cs ++ ints [x] from List.map_append ..]
  exact hown
theorem CutL.app2 {w0 w w2 : World} {v v' u : Value} {cs : List Int} {bs : List Bool} {x : Bool} {m : Nat} (h : CutL w0 w v u cs bs) (hown : w2.ownsRow w0.heap.size 4 1 v' m (bools bs ++ bools [x])) (hm : m = bs.length + 1) (hg : w.grownBy w2 u.ownBlock) : CutL w0 w2 v v' cs (bs ++ [x]) := by
  subst hm
  refine ⟨h.bel.grown hg h.bel.size fun j e => (h.r2.lt j e).1, own_far h.r2 h.r1 (by decide) hg, ?_⟩
  rw [List.length_append, show bools (bs ++ [x]) = bools bs ++ bools [x] from List.map_append ..]
  exact hown
theorem CutL.set1 {w0 w : World} {g c : Nat} {u : Value} {cs : List Int} {bs : List Bool} {x y : Int} {n : Nat} (h : CutL w0 w (.slice (some ⟨g, 0, none⟩) n c) u (cs ++ [x]) bs) (hn : n = cs.length + 1) : CutL w0 (w.setCell ⟨g, cs.length, none⟩ (.int .i64 y)) (.slice (some ⟨g, 0, none⟩) n c) u (cs ++ [y]) bs := by
  subst hn
  have hl : (cs ++ [x]).length = cs.length + 1 := by simp
  have r := h.r1
  rw [hl] at r
  have s := own_set r cs.length (.int .i64 y)
  refine ⟨w_put h.bel (r.lt g rfl).1 _ _, ?_, own_two r h.r2 (by decide) _ _⟩
  have e : (ints (cs ++ [x])).set cs.length (.int .i64 y) = ints (cs ++ [y]) := by
    rw [show ints (cs ++ [x]) = ints cs ++ ints [x] from List.map_append .., show ints (cs ++ [y]) = ints cs ++ ints [y] from List.map_append .., List.set_append_right _ _ (by simp), show cs.length - (ints cs).length = 0 by simp]; rfl
  rw [e] at s
  rw [List.length_append]
  exact s
theorem CutL.set2 {w0 w : World} {g c : Nat} {v : Value} {cs : List Int} {bs : List Bool} {x y : Bool} {n : Nat} (h : CutL w0 w v (.slice (some ⟨g, 0, none⟩) n c) cs (bs ++ [x])) (hn : n = bs.length + 1) : CutL w0 (w.setCell ⟨g, bs.length, none⟩ (.bool y)) v (.slice (some ⟨g, 0, none⟩) n c) cs (bs ++ [y]) := by
  subst hn
  have hl : (bs ++ [x]).length = bs.length + 1 := by simp
  have r := h.r2
  rw [hl] at r
  have s := own_set r bs.length (.bool y)
  refine ⟨w_put h.bel (r.lt g rfl).1 _ _, own_two r h.r1 (by decide) _ _, ?_⟩
  have e : (bools (bs ++ [x])).set bs.length (.bool y) = bools (bs ++ [y]) := by
    rw [show bools (bs ++ [x]) = bools bs ++ bools [x] from List.map_append .., show bools (bs ++ [y]) = bools bs ++ bools [y] from List.map_append .., List.set_append_right _ _ (by simp), show bs.length - (bools bs).length = 0 by simp]; rfl
  rw [e] at s
  rw [List.length_append]
  exact s
theorem CutL.v1 {w0 w : World} {v u : Value} {cs : List Int} {bs : List Bool} (h : CutL w0 w v u cs bs) : ∃ q c, v = .slice q cs.length c := own_val h.r1
theorem CutL.v2 {w0 w : World} {v u : Value} {cs : List Int} {bs : List Bool} (h : CutL w0 w v u cs bs) : ∃ q c, u = .slice q bs.length c := own_val h.r2
/-- The rest of a list of ints. -/
theorem SlP.tailI {W : World} {b o n c : Nat} {x : Int} {zs : List Int} (h : SlP W 1 (some ⟨b, o, none⟩) (n + 1) c (ints (x :: zs))) {pd : Option Addr} (hif : (if c = 1 then (some ⟨b, o, none⟩ : Option Addr) else some ⟨b, o + 1, none⟩) = pd) : SlP W 1 pd n (c - 1) (ints zs) := by
  have f := h.fit
  have m := h.max
  have l := h.len
  refine ⟨?_, by omega, by omega, fun e => ?_, ints_one _, fun h0 => ?_⟩
  · simp at l ⊢; omega
  · subst hif
    split at e <;> cases e
  · obtain ⟨b', o', e, hb, hc⟩ := h.at_ (by omega)
    injection e with e
    injection e with e1 e2 _
    subst e1 e2
    refine ⟨b, o + 1, by rw [← hif, if_neg (by omega)], hb, fun j u hj => ?_⟩
    have := hc (j + 1) u hj
    rwa [show o + (j + 1) = o + 1 + j by omega] at this
theorem drop_get {ch : List Int} {d : Nat} (h : d < ch.length) : ch.drop d = ch.getD d 0 :: ch.drop (d + 1) := by
  rw [List.drop_eq_getElem_cons h, List.getD_eq_getElem?_getD, List.getElem?_eq_getElem h]; rfl

end Go.Proofs.Ythokapebcplmkaa

/- The library's EqualFunc and Contains, as the program's Marks calls them. -/
namespace Go.Proofs.Ythokapebcplmkaa
open Go.RowKit

set_option maxHeartbeats 1000000 in
theorem pidx_any (p : Option Addr) (cap : Nat) (l : List Int) (x : Int) (w : World) (h : SlP w 1 p l.length cap (ints l)) :
    Calls Try.prog 68 #[.slice p l.length cap, .int .i64 x] w fun e w' => (∃ r : Int, e = .returned (.int .i64 r) ∧ decide (0 ≤ r) = decide (x ∈ l)) ∧ w = w' := by
  have f1 := h.fit
  have f2 := h.max
  have HS := Lib.hid h
  have HY := Lib.hid (show ∀ k : Nat, l[k]? = some x → decide (x ∈ l) = true from fun k hk => decide_eq_true (List.mem_of_getElem? hk))
  have HZ := Lib.hid (show (∀ (k : Nat) (z : Int), k < l.length → l[k]? = some z → z ≠ x) → decide (x ∈ l) = false from fun hn => decide_eq_false (fun hm => by
    obtain ⟨k, hk, e⟩ := List.getElem_of_mem hm
    exact hn k x hk (by rw [List.getElem?_eq_getElem hk, e]) rfl))
  clear h
  generalize decide (x ∈ l) = B at *
  go_enter Try.func68, Try.ntmps68
  go_wp2_with fail
  go_loopw [5, 8] (fun _ i wr => ∃ k : Nat, k ≤ l.length ∧ i = .int .i64 k ∧ Hid (∀ (j : Nat) (z : Int), j < k → l[j]? = some z → z ≠ x) ∧ w = wr) (fun _ i _ => l.length - (intOf i).toNat)
  case atStart => exact ⟨0, by omega, rfl, Lib.hid (fun j z hj => by omega), rfl⟩
  case round =>
    obtain ⟨k, hk, rfl, hall, rfl⟩ := hrel
    by_cases hlt : k < l.length
    · have hlt' : (k : Int) < l.length := by omega
      obtain ⟨s, hs⟩ : ∃ s, l[k]? = some s := ⟨l[k], List.getElem?_eq_getElem hlt⟩
      obtain ⟨b, off, rfl, _, hc⟩ := HS.out.at_ (by omega)
      have c0 := hc k (.int .i64 s) (by rw [List.getElem?_map, hs]; rfl)
      clear hc
      by_cases e : s = x
      · have hB := Lib.hid (HY.out k (by rw [hs, e]))
        have q : (x == s) = true := by simp [e]
        clear HY HZ hall hs e
        go_wp2_with fail
        go_ret
        exact ⟨⟨(k : Int), rfl, by rw [hB.out]; exact decide_eq_true (by omega)⟩, rfl⟩
      · have q : (x == s) = false := by simp; exact fun h => e h.symm
        have hall2 := Lib.hid (show ∀ (j : Nat) (z : Int), j < k + 1 → l[j]? = some z → z ≠ x from fun j z hj hz => by
          by_cases ej : j = k
          · subst ej; rw [hs] at hz; injection hz with hz; rw [← hz]; exact e
          · exact hall.out j z (by omega) hz)
        clear HY HZ hall hs e
        go_wp2_with fail
        exact ⟨⟨k + 1, by omega, by go_num, hall2, trivial⟩, by simp [intOf]; omega⟩
    · obtain rfl : k = l.length := by omega
      have hB := Lib.hid (HZ.out hall.out)
      clear HY HZ hall
      go_wp2_with fail
      go_ret
      exact ⟨⟨-1, rfl, by rw [hB.out]; rfl⟩, rfl⟩
theorem pcont_any (p : Option Addr) (cap : Nat) (l : List Int) (x : Int) (w : World) (h : SlP w 1 p l.length cap (ints l)) :
    Calls Try.prog 58 #[.slice p l.length cap, .int .i64 x] w fun e w' => e = .returned (.bool (decide (x ∈ l))) ∧ w = w' := by
  have IX := Lib.hid (pidx_any p cap l x w h)
  clear h
  generalize decide (x ∈ l) = B at *
  go_enter Try.func58, Try.ntmps58
  go_wp2_with fail
  refine IX.out.mono ?_
  rintro e w1 ⟨⟨r, rfl, hr⟩, rfl⟩
  clear IX
  go_wp2_with fail
  go_ret
  exact ⟨by rw [← hr]; rfl, rfl⟩

theorem okC_more {L : List (List Int)} {ch : List Int} (h : ch.length = L.length) (hall : ∀ i, i < L.length → ch.getD i 0 ∈ L.getD i []) : decide (okC L ch) = true := decide_eq_true ⟨h, hall⟩
theorem okC_no {L : List (List Int)} {ch : List Int} {i : Nat} (hi : i < L.length) (h : ¬ ch.getD i 0 ∈ L.getD i []) : decide (okC L ch) = false := decide_eq_false fun k => h (k.2 i hi)
theorem okC_len {L : List (List Int)} {ch : List Int} (h : ¬ ch.length = L.length) : decide (okC L ch) = false := decide_eq_false fun k => h k.1

set_option maxRecDepth 100000 in
set_option maxHeartbeats 2000000 in
theorem peq_any (L : List (List Int)) (ch : List Int) (hL : L.length ≤ 1000) (p q : Option Addr) (cp cq : Nat) (vs : List Value) (w : World) (h : LstI w p cp vs L) (h2 : SlP w 1 q ch.length cq (ints ch)) :
    Calls Try.prog 57 #[.slice p L.length cp, .slice q ch.length cq, .func (.func 58) #[] #[]] w fun e w' => e = .returned (.bool (decide (okC L ch))) ∧ w = w' := by
  have f1 := h.sl.fit
  have f2 := h.sl.max
  have g1 := h2.fit
  have g2 := h2.max
  have HL := Lib.hid h
  have HC := Lib.hid h2
  have CT := Lib.hid (fun p cap l x W hh => pcont_any p cap l x W hh)
  clear h h2
  by_cases hlen : ch.length = L.length
  · have OM := Lib.hid (fun hall => okC_more hlen hall)
    have ON := Lib.hid (fun i hi h => okC_no (L := L) (ch := ch) (i := i) hi h)
    have hlen1 : ((L.length : Int) != (ch.length : Int)) = false := by simp; omega
    have hlen2 := Lib.hid hlen
    generalize decide (okC L ch) = R at *
    clear hlen
    go_enter Try.func57, Try.ntmps57
    go_wp2_with fail
    go_loopw [7, 8, 9, 17] (fun _ _ _ i wr => ∃ k : Nat, k ≤ L.length ∧ i = .int .i64 k ∧ Hid (∀ i, i < k → ch.getD i 0 ∈ L.getD i []) ∧ w = wr) (fun _ _ _ i _ => L.length - (intOf i).toNat)
    case atStart => exact ⟨0, by omega, rfl, Lib.hid (fun j hj => by omega), rfl⟩
    case round =>
      obtain ⟨k, hk, rfl, hall, rfl⟩ := hrel
      by_cases hlt : k < L.length
      · have hlt' : (k : Int) < L.length := by omega
        have hk0 : (0 : Int) ≤ k := by omega
        have hkc : k < ch.length := by rw [hlen2.out]; exact hlt
        have hkc' : (k : Int) < ch.length := by omega
        obtain ⟨b, off, rfl, _, _⟩ := HL.out.sl.at_ (by omega)
        obtain ⟨b2, off2, rfl, _, _⟩ := HC.out.at_ (by omega)
        obtain ⟨u, hu, pu, cu, rfl, hus⟩ := HL.out.at_ k _ (List.getElem?_eq_getElem hlt)
        have c0 := cell_at HL.out.sl hu
        have c1 := int_at HC.out hkc
        have hgD : L.getD k [] = L[k] := by rw [List.getD_eq_getElem?_getD, List.getElem?_eq_getElem hlt]; rfl
        have C1 := Lib.hid (CT.out pu cu L[k] (ch.getD k 0) w hus)
        have hALL := Lib.hid (show ch.getD k 0 ∈ L[k] → ∀ i, i < k + 1 → ch.getD i 0 ∈ L.getD i [] from fun hin i hi => by
          by_cases e : i = k
          · rw [e, hgD]; exact hin
          · exact hall.out i (by omega))
        have hNO := Lib.hid (fun h => ON.out k hlt (by rw [hgD]; exact h))
        clear hu hus hgD CT
        obtain ⟨x, hx⟩ : ∃ x, ch.getD k 0 = x := ⟨_, rfl⟩
        rw [hx] at c1 C1 hALL hNO
        clear hx hkc
        generalize L[k] = X at *
        by_cases hin : x ∈ X
        · have hall2 := Lib.hid (hALL.out hin)
          have hd : decide (x ∈ X) = true := decide_eq_true hin
          rw [hd] at C1
          clear hALL hNO hin hd OM ON
          generalize X.length = xl at *
          go_wp2_with fail
          refine C1.out.mono ?_
          rintro e w1 ⟨rfl, rfl⟩
          clear C1
          go_wp2_with fail
          exact ⟨⟨k + 1, by omega, by go_num, hall2, trivial⟩, by simp [intOf]; omega⟩
        · have hfin := Lib.hid (hNO.out hin)
          have hd : decide (x ∈ X) = false := decide_eq_false hin
          rw [hd] at C1
          clear hALL hNO hin hd OM ON
          generalize X.length = xl at *
          go_wp2_with fail
          refine C1.out.mono ?_
          rintro e w1 ⟨rfl, rfl⟩
          clear C1
          go_wp2_with fail
          go_ret
          exact ⟨by rw [hfin.out]; rfl, rfl⟩
      · obtain rfl : k = L.length := by omega
        have hfin := Lib.hid (OM.out hall.out)
        clear OM ON hall
        go_wp2_with fail
        go_ret
        exact ⟨by rw [hfin.out]; rfl, rfl⟩
  · rw [okC_len hlen]
    have hlen1 : ((L.length : Int) != (ch.length : Int)) = true := by simp; omega
    clear CT
    go_enter Try.func57, Try.ntmps57
    go_wp2_with fail
    go_ret
    exact ⟨rfl, rfl⟩

def MkPost (q : Q4) (l : List Sg) (ch : List Int) (w : World) (e : Ending) (w' : World) : Prop := ∃ v u, e = .returned (.tuple #[v, u, .int .i64 (mkE q l ch)]) ∧ IntV w' v (mkC q l ch) ∧ BoolV w' u (mkA q l ch) ∧ Below w.heap.size w w'
theorem mkE_err {q : Q4} {l : List Sg} {ch : List Int} (h : ¬ chkD q l = 0) : mkE q l ch = chkD q l ∧ mkC q l ch = [] ∧ mkA q l ch = [] := by
  have e : mkE q l ch = chkD q l := if_neg h
  exact ⟨e, if_neg (by rw [e]; exact h), if_neg (by rw [e]; exact h)⟩
theorem mkE_no {q : Q4} {l : List Sg} {ch : List Int} (h : chkD q l = 0) (k : ¬ okC (mnD q l) ch) : mkE q l ch = 2 ∧ mkC q l ch = [] ∧ mkA q l ch = [] := by
  have e : mkE q l ch = 2 := (if_pos h).trans (if_neg k)
  exact ⟨e, if_neg (by rw [e]; decide), if_neg (by rw [e]; decide)⟩
theorem mkE_ok {q : Q4} {l : List Sg} {ch : List Int} (h : chkD q l = 0) (k : okC (mnD q l) ch) : mkE q l ch = 0 ∧ mkC q l ch = (mkP l ch l.length).1 ∧ mkA q l ch = (mkP l ch l.length).2.1 := by
  have e : mkE q l ch = 0 := (if_pos h).trans (if_pos k)
  exact ⟨e, if_pos e, if_pos e⟩

end Go.Proofs.Ythokapebcplmkaa
