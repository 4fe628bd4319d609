/- The program's count: how many lines have a word or a fault: a number, for every text. -/
import Derived.Test.YtdjkgnganbeonaaDoorLoop
import Derived.Scope
namespace Go.Proofs.YtdjkgnganbeonaaDoor
open Go.RowKit Go.Shelf
attribute [local go_sem] Oper.semAt_some

/-! A scope through which the run goes without a goto, inside a fence. -/
section
variable {P : Program} {F : Fence} {n : Nat} {b : Frame} {a : Act} {k : List Item} {cs : List Frame} {w : World} {Q : Exit → Act → World → Prop} {c : Code}
theorem stepR_scope : step P (lone (b.atR a (.code (.scope c) :: k)) cs w) = .next (lone (b.atR a (.code c :: .inScope c :: k)) cs w) := step_lone_go (by simp [stepG, stepG.exec, Frame.atR])
theorem stepR_inScope : step P (lone (b.atR a (.inScope c :: k)) cs w) = .next (lone (b.atR a k) cs w) := step_lone_go (by simp [stepG, stepG.exec, Frame.atR])
theorem wpIn_scope (h : c.wpIn F n P (Exit.noGoto Q) a w) : (Code.scope c).wpIn F n P Q a w := by
  intro b k cs hro hb hr
  have first : (lone (b.atR a (.code (.scope c) :: k)) cs w).fenced P F := fenced_calm hb hr rfl
  obtain ⟨e, a₁, w₁, hq, harr⟩ := h b (.inScope c :: k) cs hro hb hr
  have out : ∀ id, exitTo id (.inScope c :: k) = exitTo id k := fun id => by simp [exitTo]
  cases e with
  | normal => exact ⟨.normal, a₁, w₁, hq, .head first stepR_scope (StepsIn.trans harr (.one (fenced_calm hb hr rfl) stepR_inScope))⟩
  | exit id =>
    refine ⟨.exit id, a₁, w₁, hq, fun k' hk => .head first stepR_scope (harr.1 k' (by rw [out]; exact hk)), fun hr' hk => ?_⟩
    obtain ⟨k₁, h1, h2⟩ := harr.2 hr' (by rw [out]; exact hk)
    exact ⟨k₁, h1, .head first stepR_scope h2⟩
  | goto l => exact hq.elim
  | ret => exact ⟨.ret, a₁, w₁, hq, .of_steps (.one first stepR_scope) harr⟩
  | panic ch => exact ⟨.panic ch, a₁, w₁, hq, .of_steps (.one first stepR_scope) harr⟩
  | outgrown => exact ⟨.outgrown, a₁, w₁, hq, .of_steps (.one first stepR_scope) harr⟩
end

theorem Cells3.other {T : ByteArray} {B p b j : Nat} {W : World} (h : Cells3 T B p W) (v : Value) (h0 : b ≠ B) (h1 : b ≠ B + 1) (h2 : b ≠ B + 1 + 1) : Cells3 T B p (W.setCell ⟨b, j, none⟩ v) := by
  have o : ∀ q, q ≠ b → (W.setCell ⟨b, j, none⟩ v).heap[q]? = W.heap[q]? := fun q hq => Below.heap_setCell W _ v q hq
  exact ⟨(World.cell?_of_block (w := W) (a := ⟨B, 0, none⟩) (o B h0.symm)).trans h.s, (World.frozen?_of_block (w := W) (a := ⟨B, 0, none⟩) (o B h0.symm)).trans h.free,
    (World.cell?_of_block (w := W) (a := ⟨B + 1, 0, none⟩) (o (B + 1) h1.symm)).trans h.sep, (World.cell?_of_block (w := W) (a := ⟨B + 1 + 1, 0, none⟩) (o (B + 1 + 1) h2.symm)).trans h.save⟩

/-- The count so far. -/
structure CountI (w : World) (p : Nat) (W : World) : Prop where
  num : ∃ k : Nat, W.cell? ⟨w.heap.size, 0, none⟩ = some (.int .i64 k) ∧ k ≤ p
  free : W.frozen? ⟨w.heap.size, 0, none⟩ = false
  bel : Below w.heap.size w W

set_option maxRecDepth 100000 in
set_option maxHeartbeats 2000000 in
theorem wcount_any (T : ByteArray) (w : World) (hT : T.size ≤ 1000000) : Calls Tryd.prog 31 #[.string T] w fun e w' => (∃ n : Nat, e = .returned (.int .i64 n) ∧ n ≤ T.size + 1) ∧ Below w.heap.size w w' := by
  have S := Lib.hid (fun W => (callsIn_wide (n := 5)).2 (wsplitseq_any T ⟨#[10]⟩ W))
  refine (callsIn_wide (n := 6)).1 ?_
  refine callsIn_of_wp_marks Tryd.func31 rfl trivial ?_ rfl
  simp only [Tryd.ntmps31, List.size_toArray, List.length_cons, List.length_nil, Nat.reduceAdd, Nat.reduceSub, Array.replicate_succ, Array.replicate_zero, List.push_toArray, List.append_toArray, List.nil_append, List.cons_append]
  gi_wp2
  refine wpIn_scope ?_
  gi_wp2
  refine wpIn_label ?_
  gi_wp2_with (refine ⟨trivial, ?_⟩; gi_at_call 32; refine (S.out _).mono ?_; rintro e w1 ⟨rfl, rfl⟩)
  have hcells := Cells3.made T (w.alloc (.cells #[.int .i64 0] 3))
  rw [World.size_alloc] at hcells
  have hstart : CountI w 0 ((((w.alloc (.cells #[.int .i64 0] 3)).alloc (.cells #[.string T] 9)).alloc (.cells #[.string ⟨#[10]⟩] 9)).alloc (.cells #[.int .i64 0] 3)) :=
    ⟨⟨0, by go_simp, Nat.le_refl _⟩, by go_simp, w_alloc (w_alloc (w_alloc (w_alloc (w_refl w) _) _) _) _⟩
  refine wpIn_split (T := T) (B := w.heap.size + 1) hT (by omega) rfl rfl (by simp) hcells (fun p W => CountI w p W) (fun _ => False) ?hI (fun _ _ h _ => h) hstart
    (fun x => { tmps := #[.string T, undef, .int .i64 0, .pointer (some ⟨w.heap.size, 0, none⟩), .string x, undef, .string T, .func (.func 61) #[] #[.pointer (some ⟨w.heap.size + 1 + 1, 0, none⟩), .pointer (some ⟨w.heap.size + 1, 0, none⟩), .pointer (some ⟨w.heap.size + 1 + 1 + 1, 0, none⟩)], .string x, undef, undef, undef, undef, undef, undef, undef, undef, undef, undef, undef, undef, undef, undef, undef, undef, undef], defers := [] }) ?assign ?body ?done ?stop
  case hI =>
    rintro p A C ⟨⟨k, hk, hkp⟩, hf, hb⟩ ht
    exact ⟨⟨k, ht.cell hk (by simp), hkp⟩, (ht.frozen hk (by simp)).trans hf, ht.below hb (by simp; omega) (by omega)⟩
  case assign =>
    intro l x W K hK
    gi_wp2
    exact hK
  case body =>
    rintro l p t W hline ⟨⟨k, hk, hkp⟩, hf, hb⟩ hc hsz
    have hle := hline.le
    have hfit := hline.fits
    obtain ⟨x, hx⟩ : ∃ x, T.extract p t = x := ⟨_, rfl⟩
    have hxs : x.size ≤ 1000000 := by rw [← hx, ByteArray.size_extract]; omega
    rw [hx]
    clear hx
    have hgo := Lib.hid (show KeepsFrom (w.heap.size + 1 + 1 + 1 + 1) W W ∧ Cells3 T (w.heap.size + 1) p W ∧ CountI w (t + 1) W from ⟨KeepsFrom.refl _ _, hc, ⟨⟨k, hk, by omega⟩, hf, hb⟩⟩)
    have hmore := Lib.hid (show KeepsFrom (w.heap.size + 1 + 1 + 1 + 1) W (W.setCell ⟨w.heap.size, 0, none⟩ (.int .i64 ((k + 1 : Nat) : Int))) ∧ Cells3 T (w.heap.size + 1) p (W.setCell ⟨w.heap.size, 0, none⟩ (.int .i64 ((k + 1 : Nat) : Int))) ∧ CountI w (t + 1) (W.setCell ⟨w.heap.size, 0, none⟩ (.int .i64 ((k + 1 : Nat) : Int))) from
      ⟨(KeepsOthers.setCell _ _ _).from _, hc.other _ (by omega) (by omega) (by omega), ⟨⟨k + 1, World.cell?_setCell_same' _ _ _ (by rw [hk]; rfl), by omega⟩, by rw [World.frozen?_setCell]; exact hf, w_set hb (Nat.le_refl _) _⟩⟩)
    have hk1 : k ≤ 1000000 := by omega
    clear hc hb
    gi_wp2
    gi_loop [11] (fun i => ∃ q : Nat, q ≤ x.size ∧ i = .int .i64 q) (fun i => x.size - (intOf i).toNat)
    case atStart => exact ⟨0, by omega, rfl⟩
    case round =>
      obtain ⟨q, hq, rfl⟩ := hrel
      by_cases hlt : q < x.size
      · have hcl := cls_lit x[q].toNat x[q].toNat_lt x[q].toNat_lt
        have h256 : (x[q].toNat : Int) < 256 := by have := x[q].toNat_lt; omega
        cases e32 : (clsI (x[q].toNat : Int) == 32) with
        | true =>
          gi_wp2
          exact ⟨⟨q + 1, by omega, by go_num⟩, by simp [intOf]; omega⟩
        | false =>
          cases e59 : (clsI (x[q].toNat : Int) == 59) with
          | true =>
            gi_wp2
            exact hgo.out
          | false =>
            gi_wp2
            exact hmore.out
      · obtain rfl : q = x.size := by omega
        gi_wp2
        exact hgo.out
  case done =>
    rintro D W hD ⟨⟨k, hk, hkp⟩, hf, hb⟩ hK
    gi_wp2
    refine ⟨by simp, .inl ⟨_, _, rfl, run_takeDeferred hK, ?_⟩⟩
    exact ⟨_, results_tmp rfl _ _ _, ⟨k, rfl, hkp⟩, hb.trans (belowK_b (w := w) (Nat.le_refl _) W D _ _ (by simp at hD; omega) hK rfl rfl)⟩
  case stop =>
    rintro D W hD h hK
    exact h.elim

end Go.Proofs.YtdjkgnganbeonaaDoor
