/- The program's lineWords: the words of a line, or its first fault, for every line. -/
import Derived.Test.YtdjkgnganbeonaaDoorNext
import Derived.Test.YtdjkgnganbeonaaDoorWLines
namespace Go.Proofs.YtdjkgnganbeonaaDoor
open Go.RowKit

theorem own_weaken {w : World} {B B' size : Nat} {e : TypeId} {v : Value} {n : Nat} {xs : List Value} (h : w.ownsRow B e size v n xs) (hB : B' ≤ B) : w.ownsRow B' e size v n xs := by
  refine ⟨h.1, ?_⟩
  rcases h.2 with x | ⟨g, cap, cur, hv, hb, rest⟩
  · exact .inl x
  · exact .inr ⟨g, cap, cur, hv, Nat.le_trans hB hb, rest⟩

theorem own_set {w : World} {B size b j : Nat} {e : TypeId} {v u : Value} {n : Nat} {xs : List Value} (h : w.ownsRow B e size v n xs) (hb : b < B) : (w.setCell ⟨b, j, none⟩ u).ownsRow B e size v n xs := by
  refine h.kept (g_row (g_refl w (some b)) j u) (.inr fun e => ?_)
  have := (h.lt _ e).1
  omega

/-- What lineWords hands back. -/
def LinePost (s : ByteArray) (f : Int) (w : World) (e : Ending) (w' : World) : Prop :=
  Below w.heap.size w w' ∧ ((1000 < s.size ∧ e = .returned (.tuple #[.slice none 0 0, .agg #[.int .i64 4, .int .i64 f]])) ∨
    (s.size ≤ 1000 ∧ ∃ ws b, Cuts s f 0 ws b ∧ ws.length ≤ s.size ∧
      match b with
      | none => ∃ v, e = .returned (.tuple #[v, .agg #[.int .i64 0, .int .i64 0]]) ∧ w'.ownsRow w.heap.size 53 3 v ws.length (flatW ws)
      | some j => e = .returned (.tuple #[.slice none 0 0, .agg #[.int .i64 3, .int .i64 (f + (j : Nat))]]) ∧ j < s.size))

/-- The words so far, at a place of the line. -/
structure LInv (s : ByteArray) (f : Int) (w wr : World) (i : Nat) (acc : List Wd) (v : Value) : Prop where
  own : wr.ownsRow (w.heap.size + 3) 53 3 v acc.length (flatW acc)
  bel : Below w.heap.size w wr
  cuts : ∀ ws b, Cuts s f i ws b → Cuts s f 0 (acc ++ ws) b
  big : w.heap.size + 3 ≤ wr.heap.size
  place : wr.cell? ⟨w.heap.size + 1 + 1, 0, none⟩ = some (.int .i64 i)
  free : wr.frozen? ⟨w.heap.size + 1 + 1, 0, none⟩ = false
  line : wr.cell? ⟨w.heap.size + 1, 0, none⟩ = some (.string s)
  fault : Cell2 wr w.heap.size 0 0

theorem Cell2.block {w w1 : World} {b : Nat} {n d : Int} (h : Cell2 w b n d) (hk : w1.heap[b]? = w.heap[b]?) (hs : w.heap.size ≤ w1.heap.size) : Cell2 w1 b n d :=
  ⟨Nat.lt_of_lt_of_le h.inb hs, (World.cell?_of_block (w := w) hk).trans h.c0, (World.cell?_of_block (w := w) hk).trans h.c1, (World.frozen?_of_block (w := w) hk).trans h.f0, (World.frozen?_of_block (w := w) hk).trans h.f1⟩

/-- Where the place's cell stands. -/
def placeOf (w : World) (b : Nat) : Nat := match w.cell? ⟨b, 0, none⟩ with | some (.int _ n) => n.toNat | _ => 0
theorem placeOf_eq {w : World} {b i : Nat} (h : w.cell? ⟨b, 0, none⟩ = some (.int .i64 i)) : placeOf w b = i := by unfold placeOf; rw [h]; simp

/-- Behind a call of the made function. -/
theorem LInv.next {s : ByteArray} {f : Int} {w wr w1 : World} {i : Nat} {acc : List Wd} {v : Value} (h : LInv s f w wr i acc v) (hg : wr.grownBy w1 (some (w.heap.size + 1 + 1)))
    :
    w1.ownsRow (w.heap.size + 3) 53 3 v acc.length (flatW acc) ∧ Below w.heap.size w w1 ∧ w.heap.size + 3 ≤ w1.heap.size ∧ w1.cell? ⟨w.heap.size + 1, 0, none⟩ = some (.string s) ∧ Cell2 w1 w.heap.size 0 0 := by
  have hb := h.big
  refine ⟨h.own.kept hg ?_, h.bel.grown hg h.bel.size (fun k e => by cases e; omega), Nat.le_trans h.big hg.size, ?_, h.fault.block (hg.block _ (by omega) (by simp; omega)) hg.size⟩
  · right
    intro e
    have := (h.own.lt _ e).1
    omega
  · exact (World.cell?_of_block (w := wr) (a := ⟨w.heap.size + 1, 0, none⟩) (hg.block _ (by show w.heap.size + 1 < _; omega) (by simp))).trans h.line

set_option maxRecDepth 100000 in
set_option maxHeartbeats 4000000 in
theorem wfinder_any (s : ByteArray) (w : World) : Calls Tryd.prog 50 #[.string s] w fun e w' =>
    e = .returned (.func (.func 64) #[] #[.pointer (some ⟨w.heap.size + 1, 0, none⟩), .pointer (some ⟨w.heap.size, 0, none⟩)]) ∧ w' = (w.alloc (.cells #[.string s] 9)).alloc (.cells #[.int .i64 0] 3) := by
  have hmf : ∀ (fn : Fn) (first cap : Array Value) (w : World), (Instr.makeFunc fn first cap).run Tryd.prog w = .ok (.func fn first cap) w := fun _ _ _ _ => rfl
  go_enter Tryd.func50, Tryd.ntmps50
  go_wp2_with fail
  go_ret
  exact ⟨rfl, rfl⟩

set_option maxRecDepth 100000 in
set_option maxHeartbeats 4000000 in
theorem wline_any (s : ByteArray) (f : Int) (w : World) (hs : s.size ≤ 1000000) (f0 : 0 ≤ f) (f1 : f ≤ 1000000) : Calls Tryd.prog 33 #[.string s, .int .i64 f] w (LinePost s f w) := by
  obtain ⟨i0, hi0, hz0, hz1, hz2⟩ := info_parts info_word
  obtain ⟨ii, o0, o1, o2, o3⟩ := Cell2.made w 0 0 26
  by_cases hbig : 1000 < s.size
  · have hbig' : (1000 : Int) < s.size := by omega
    go_enter Tryd.func33, Tryd.ntmps33
    go_wp2_with fail
    refine bodyPost_ret (v := .tuple #[.slice none 0 0, .agg #[.int .i64 4, .int .i64 f]]) (by simp [results, Tryd.results33, go_sem]) rfl ⟨?_, .inl ⟨hbig, rfl⟩⟩
    exact w_alloc (w_refl w) _
  · have hbig' : ¬ (1000 : Int) < s.size := by omega
    have F := Lib.hid (fun W => wfinder_any s W)
    go_enter Tryd.func33, Tryd.ntmps33
    go_wp2_with fail
    refine (F.out _).mono ?_
    rintro e w1 ⟨rfl, hw⟩
    have hinv := Lib.hid (show LInv s f w w1 0 [] (.slice none 0 0) from by
      subst hw
      refine ⟨World.ownsRow_nil _ _ _ _, w_alloc (w_alloc (w_alloc (w_refl w) _) _) _, fun ws b t => t, by simp, by go_simp, by go_simp, by go_simp, ?_⟩
      exact (Cell2.made w 0 0 26).below (w_alloc (w_alloc (w_refl _) _) _) (by simp))
    clear hw o0 o1 o2 o3 ii F
    go_wp2_with fail
    go_loopw [6] (fun v wr => ∃ (i : Nat) (acc : List Wd), i ≤ s.size ∧ acc.length ≤ i ∧ Hid (LInv s f w wr i acc v)) (fun _ wr => s.size - placeOf wr (w.heap.size + 1 + 1))
    case atStart => exact ⟨0, [], by omega, by simp, hinv⟩
    case round =>
      obtain ⟨i, acc, hi, hacc, hL⟩ := hrel
      have hbg := hL.out.big
      have N := Lib.hid (wnext_any s i (w.heap.size + 1 + 1) (w.heap.size + 1) wr hs hi (by omega) (by omega) (by omega) hL.out.place hL.out.free hL.out.line)
      clear hinv hbg
      go_wp2_with fail
      refine N.out.mono ?_
      rintro e w2 ⟨hg, x, st, k, rfl, hnx, hp, hfz⟩
      clear N
      obtain ⟨own2, bel2, big2, line2, fault2⟩ := hL.out.next hg
      rcases hnx with ⟨rfl, rfl, rfl, hc⟩ | ⟨rfl, rfl, b, hbs, rfl, hc⟩ | ⟨rfl, hik, hks, b, hbk, hxa, hc⟩
      · have fz := Lib.hid (fault2.below (w_alloc (w_refl w2) (.cells #[.int .i64 f, .string ⟨#[]⟩, .bool false] 53)) fault2.inb)
        obtain ⟨_, o0, o1, o2, o3⟩ := fz.out
        have hcut := Lib.hid (show Cuts s f 0 acc none by have := hL.out.cuts [] none (hc f); rwa [List.append_nil] at this)
        have hown := Lib.hid own2
        have hbel := Lib.hid bel2
        have w0 : IntKind.i64.wrap (0 + f) = f := by rw [IntWalk.i64_in _ (by omega)]; omega
        clear hc hL own2 bel2 fault2 hp hfz line2 hg
        simp only [noWd]
        go_wp2_with fail
        refine bodyPost_ret (v := .tuple #[u6, .agg #[.int .i64 0, .int .i64 0]]) (by simp [results, Tryd.results33, go_sem, o0, o1]) rfl ⟨?_, .inr ⟨by omega, acc, none, hcut.out, by omega, u6, rfl, ?_⟩⟩
        · exact w_set (w_set (w_alloc hbel.out _) (Nat.le_refl _) _) (Nat.le_refl _) _
        · exact own_weaken (own_set (own_set (hown.out.alloc _) (by omega)) (by omega)) (by omega)
      · have fz := Lib.hid (fault2.below (w_alloc (w_refl w2) (.cells #[.int .i64 (f + b), .string ⟨#[]⟩, .bool false] 53)) fault2.inb)
        obtain ⟨_, o0, o1, o2, o3⟩ := fz.out
        have hcut := Lib.hid (show Cuts s f 0 acc (some b) by have := hL.out.cuts [] (some b) (hc f); rwa [List.append_nil] at this)
        have hbel := Lib.hid bel2
        have w0 : IntKind.i64.wrap ((b : Int) + f) = f + b := by rw [IntWalk.i64_in _ (by omega)]; omega
        have w0' : (b : Int) + f = f + b := by omega
        clear hc hL own2 bel2 fault2 hp hfz line2 hg
        go_wp2_with fail
        go_region
        all_goals
          go_wp2_with fail
          refine bodyPost_ret (v := .tuple #[.slice none 0 0, .agg #[.int .i64 3, .int .i64 (f + b)]]) (by simp [results, Tryd.results33, go_sem, o0, o1]) rfl ⟨?_, .inr ⟨by omega, acc, some b, hcut.out, by omega, rfl, hbs⟩⟩
          first
            | exact w_set (w_set (w_alloc hbel.out _) (Nat.le_refl _) _) (Nat.le_refl _) _
            | exact (w_set (w_set (w_alloc hbel.out _) (Nat.le_refl _) _) (Nat.le_refl _) _).drew
            | exact w_set (w_set (w_alloc hbel.out _).drew (Nat.le_refl _) _) (Nat.le_refl _) _
      · obtain ⟨xa, xt, xq⟩ := x
        simp only at hxa hc ⊢
        subst hxa
        have w0 : IntKind.i64.wrap ((b : Int) + f) = f + b := by rw [IntWalk.i64_in _ (by omega)]; omega
        have w0' : (b : Int) + f = f + b := by omega
        have hown := Lib.hid ((own2.alloc (.cells #[.int .i64 (f + b), .string xt, .bool xq] 53)).alloc (.cells #[.int .i64 (f + b), .string xt, .bool xq] 53))
        have hlts := Lib.hid own2.lt
        have hG := Lib.hid hg
        have hL2 := Lib.hid (fun ws bb h => hL.out.cuts (⟨f + b, xt, xq⟩ :: ws) bb (hc f ws bb h))
        have hbel := Lib.hid (w_alloc (w_alloc bel2 (.cells #[.int .i64 (f + b), .string xt, .bool xq] 53)) (.cells #[.int .i64 (f + b), .string xt, .bool xq] 53))
        have hb2 := Lib.hid (w_alloc (w_alloc (w_refl w2) (.cells #[.int .i64 (f + b), .string xt, .bool xq] 53)) (.cells #[.int .i64 (f + b), .string xt, .bool xq] 53))
        have hpp := Lib.hid hp
        have hff := Lib.hid hfz
        have hll := Lib.hid line2
        have hfa := Lib.hid fault2
        have hpl := Lib.hid (placeOf_eq hL.out.place)
        clear hc hL own2 bel2 fault2 hp hfz line2 hg
        go_wp2_with (at_builtin; refine wpList_append_own _ rfl _ _ 42 rfl (w.heap.size + 3) 53 i0 (.agg #[.int .i64 0, .string ⟨#[]⟩, .bool false]) 3 32 Tryd.underlying42 hi0 hz0 hz1 hz2 rfl (by decide) _ acc.length (flatW acc) rfl hown.out ⟨w2.heap.size + 1, 0, none⟩ 1 1 (flatW [⟨f + b, xt, xq⟩]) rfl rfl ?c1 (flatW_one _) (by unfold maxLen; omega) (by omega) ?c2 ?_)
        case c1 => have := new_word (w2.alloc (.cells #[.int .i64 (f + b), .string xt, .bool xq] 53)) (f + b) xt xq 53; simpa using this
        case c2 => simp; omega
        intro v' w3 hown3 hgrow _
        have hblk : ∀ q, q < w.heap.size + 3 → w3.heap[q]? = w2.heap[q]? := fun q hq => (hgrow.block q (by simp; omega) (fun e => by have := (hlts.out _ e.symm).1; omega)).trans (hb2.out.block q (by omega))
        have hnew := Lib.hid (show LInv s f w w3 k (acc ++ [⟨f + b, xt, xq⟩]) v' from
          ⟨by rw [flatW_app, List.length_append]; exact hown3, hbel.out.grown hgrow (by simp; omega) (fun q hq => by have := (hlts.out q hq).1; omega),
           fun ws bb t => by rw [List.append_assoc]; exact hL2.out ws bb t, by have := hgrow.size; simp at this; omega,
           (World.cell?_of_block (w := w2) (a := ⟨w.heap.size + 1 + 1, 0, none⟩) (hblk _ (by show w.heap.size + 1 + 1 < _; omega))).trans hpp.out,
           (World.frozen?_of_block (w := w2) (a := ⟨w.heap.size + 1 + 1, 0, none⟩) (hblk _ (by show w.heap.size + 1 + 1 < _; omega))).trans hff.out,
           (World.cell?_of_block (w := w2) (a := ⟨w.heap.size + 1, 0, none⟩) (hblk _ (by show w.heap.size + 1 < _; omega))).trans hll.out,
           hfa.out.block (hblk _ (by omega)) (by have := hgrow.size; simp at this; omega)⟩)
        clear hblk hown hlts hown3 hgrow hbel hb2 hpp hff hll hfa hL2 hG
        go_wp2_with fail
        go_roundw
        case rel => exact ⟨k, _, by omega, by rw [List.length_append]; simp; omega, hnew⟩
        case measure => rw [hpl.out, placeOf_eq hnew.out.place]; omega

end Go.Proofs.YtdjkgnganbeonaaDoor
