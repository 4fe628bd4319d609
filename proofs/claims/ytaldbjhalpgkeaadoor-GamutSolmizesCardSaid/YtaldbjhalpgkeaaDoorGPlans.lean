/- The program's plansFor: the table of plans. -/
import Derived.Test.YtaldbjhalpgkeaaDoorGBefore
namespace Go.Proofs.YtaldbjhalpgkeaaDoor
open Go.RowKit Go.Shelf
attribute [local go_sem] Oper.semAt_some

theorem firstMin_congr {α : Type} {f g : α → Co} : ∀ {l : List α}, (∀ b ∈ l, f b = g b) → firstMin f l = firstMin g l
  | [], _ => rfl
  | a :: t, h => by
    have ih := firstMin_congr (f := f) (g := g) (l := t) (fun b hb => h b (by simp [hb]))
    unfold firstMin
    rw [ih]
    cases hm : firstMin g t with
    | none => rfl
    | some b =>
      simp only
      rw [h a (by simp), h b (by simp [(firstMin_spec hm).1])]
theorem minP_congr {α : Type} {f g : α → Co} {z : α} {l : List α} (h : ∀ b ∈ l, f b = g b) : minP f z l = minP g z l := by
  unfold minP
  rw [firstMin_congr h]
  cases hm : firstMin g l with
  | none => rfl
  | some b => simp only; rw [h b (firstMin_spec hm).1]
/-- The plan behind a way, if these pitches follow. -/
def planS (t : List Pi3) (a : Sy) : Pl := match t with
  | [] => ((0, 0), (0, 0))
  | q :: t' => minP (fun b => addC (costS a b) (restC t' b)) (0, 0) (waysL q)
theorem planS_fst (t : List Pi3) (a : Sy) : (planS t a).1 = restC t a := by
  cases t with
  | nil => rfl
  | cons q t =>
    rw [rest_cons]
    unfold planS minP minC
    simp only
    cases firstMin (fun b => addC (costS a b) (restC t b)) (waysL q) <;> rfl
theorem planS_cons {q : Pi3} {t : List Pi3} {a : Sy} {L : Nat → Pl} (ha : a.1 ≠ 0) (h : ∀ b ∈ waysL q, (L b.1.toNat).1 = restC t b) : minP (stepL L a) (0, 0) (waysL q) = planS (q :: t) a := by
  unfold planS
  refine minP_congr fun b hb => ?_
  unfold stepL
  rw [if_neg ha, h b hb]

/-- The cells of a table of n rows, of eight plans each. -/
structure TabC (n : Nat) (F : Nat → Nat → Pl) (cur : Array Value) : Prop where
  size : cur.size = n * 32
  at_ : ∀ j h c, j < n → h < 8 → c < 4 → cur[j * 32 + h * 4 + c]? = (plC (F j h))[c]?
def updF (F : Nat → Nat → Pl) (i h : Nat) (p : Pl) : Nat → Nat → Pl := fun j k => if j = i ∧ k = h then p else F j k
abbrev set4 (cur : Array Value) (o : Nat) (p : Pl) : Array Value := (((cur.setIfInBounds o (.int .i64 p.1.1)).setIfInBounds (o + 1) (.int .i64 p.1.2)).setIfInBounds (o + 2) (.int .i64 p.2.1)).setIfInBounds (o + 3) (.int .i64 p.2.2)
theorem set4_at {cur : Array Value} {o : Nat} {p : Pl} (h : o + 3 < cur.size) (k : Nat) : (set4 cur o p)[k]? = if k = o then some (.int .i64 p.1.1) else if k = o + 1 then some (.int .i64 p.1.2) else if k = o + 2 then some (.int .i64 p.2.1) else if k = o + 3 then some (.int .i64 p.2.2) else cur[k]? := by
  unfold set4
  simp only [Array.getElem?_setIfInBounds, Array.size_setIfInBounds]
  by_cases h3 : k = o + 3
  · subst h3
    rw [if_pos rfl, if_pos (by omega), if_neg (by omega), if_neg (by omega), if_neg (by omega), if_pos rfl]
  · rw [if_neg (fun e => h3 e.symm)]
    by_cases h2 : k = o + 2
    · subst h2
      rw [if_pos rfl, if_pos (by omega), if_neg (by omega), if_neg (by omega), if_pos rfl]
    · rw [if_neg (fun e => h2 e.symm)]
      by_cases h1 : k = o + 1
      · subst h1
        rw [if_pos rfl, if_pos (by omega), if_neg (by omega), if_pos rfl]
      · rw [if_neg (fun e => h1 e.symm)]
        by_cases h0 : k = o
        · subst h0
          rw [if_pos rfl, if_pos (by omega), if_pos rfl]
        · rw [if_neg (fun e => h0 e.symm), if_neg h0, if_neg h1, if_neg h2, if_neg h3]
theorem TabC.put {n : Nat} {F : Nat → Nat → Pl} {cur : Array Value} (h : TabC n F cur) {i k : Nat} (hi : i < n) (hk : k < 8) (p : Pl) : TabC n (updF F i k p) (set4 cur (i * 32 + k * 4) p) := by
  have hs : i * 32 + k * 4 + 3 < cur.size := by rw [h.size]; omega
  refine ⟨by unfold set4; simp [h.size], fun j m c hj hm hc => ?_⟩
  rw [set4_at hs]
  by_cases e : j = i ∧ m = k
  · obtain ⟨rfl, rfl⟩ := e
    rw [show updF F j m p j m = p from if_pos ⟨rfl, rfl⟩]
    have hc' : c = 0 ∨ c = 1 ∨ c = 2 ∨ c = 3 := by omega
    rcases hc' with rfl | rfl | rfl | rfl
    · rw [if_pos (by omega)]; rfl
    · rw [if_neg (by omega), if_pos rfl]; rfl
    · rw [if_neg (by omega), if_neg (by omega), if_pos rfl]; rfl
    · rw [if_neg (by omega), if_neg (by omega), if_neg (by omega), if_pos rfl]; rfl
  · rw [show updF F i k p j m = F j m from if_neg e, if_neg (by omega), if_neg (by omega), if_neg (by omega), if_neg (by omega)]
    exact h.at_ j m c hj hm hc

/-! ### The marks of loops over iterators -/
def mark (D : Nat) : Deferred := { target := .collected D, args := #[] }
theorem leaves_marks {fn : Func} {tmps : Array Value} {R : Ending → World → Prop} {u : FrameMode} (hu : u ≠ .run) {B : Nat} {J : World → Prop} (hJ : OwnFrom B (fun (_ : Unit) A => J A)) (hR : ∀ A, J A → LeavesInM Fence.wide 1 Tryd.prog fn tmps R [] u A) :
    ∀ (Ds : List Nat) (A : World), Ds.Nodup → (∀ D ∈ Ds, B ≤ D ∧ A.heap[D]? = some (.deferred (some []))) → J A → LeavesInM Fence.wide 1 Tryd.prog fn tmps R (Ds.map mark) u A
  | [], A, _, _, hj => hR A hj
  | D :: Ds, A, hn, hd, hj => by
    obtain ⟨hB, h0⟩ := hd D (by simp)
    rw [List.nodup_cons] at hn
    refine ⟨hu, .inl ⟨D, _, rfl, run_takeDeferred h0, ?_⟩⟩
    refine leaves_marks hu hJ hR Ds _ hn.2 (fun E hE => ?_) (OwnFrom.putObj (s := ()) hJ _ hj hB h0 rfl)
    obtain ⟨hB', h1⟩ := hd E (by simp [hE])
    exact ⟨hB', (World.putObj_heap_other (fun e => hn.1 (by rw [← e]; exact hE))).trans h1⟩

end Go.Proofs.YtaldbjhalpgkeaaDoor
