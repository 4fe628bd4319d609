/- The program's Shape. -/
import Derived.Test.YtedkcnphplpacaaLgProgL
import Derived.Test.YtedkcnphplpacaaLgMathA
import Derived.Test.YtedkcnphplpacaaLgAwake
namespace Go.Proofs.Ytedkcnphplpacaa
open Go.RowKit Go.Shelf
attribute [local go_sem] Oper.semAt_some

/-- The first shape with the least rank. -/
def stepB (o : Option (List Sg)) (x : List Sg) : Option (List Sg) := match o with
  | none => some x
  | some b => if cmpL (rkG x) (rkG b) < 0 then some x else some b
def bstP (xs : List (List Sg)) : Option (List Sg) := xs.foldl stepB none
def errO (o : Option (List Sg)) : Int := match o with
  | none => 18
  | some _ => 0
theorem bstP_snoc (xs : List (List Sg)) (x : List Sg) : bstP (xs ++ [x]) = stepB (bstP xs) x := by unfold bstP; rw [List.foldl_append]; rfl

/-- The variables best and least. -/
def BsI (k base : Nat) (st : Option (List Sg)) (A : World) : Prop := match st with
  | none => HoldsB A k 23 #[.slice none 0 0] ∧ HoldsB A (k + 1) 22 #[.slice none 0 0]
  | some b => ∃ a c g, HoldsB A k 23 #[.slice (some ⟨a, 0, none⟩) b.length c] ∧ A.ownsRow base 30 17 (.slice (some ⟨a, 0, none⟩) b.length c) b.length (flatG b) ∧ HoldsB A (k + 1) 22 #[.slice (some ⟨g, 0, none⟩) 3 3] ∧ base ≤ g ∧ HoldsB A g 3 (ints (rkG b)).toArray
theorem BsI.later {k base : Nat} {st : Option (List Sg)} {A B : World} (h : BsI k base st A) (b : Below A.heap.size A B) : BsI k base st B := by
  cases st with
  | none => exact ⟨h.1.later b, h.2.later b⟩
  | some x =>
    obtain ⟨a, c, g, h1, h2, h3, h4, h5⟩ := h
    exact ⟨a, c, g, h1.later b, own_keep h2 b (Nat.le_refl _), h3.later b, h4, h5.later b⟩
theorem BsI.off {k base n K : Nat} {st : Option (List Sg)} {A B : World} (h : BsI k base st A) (hk : k + 1 < n) (hb : n + K ≤ base) (o : Off n K A B) : BsI k base st B := by
  cases st with
  | none => exact ⟨o.keepB (.inl (by omega)) h.1, o.keepB (.inl hk) h.2⟩
  | some x =>
    obtain ⟨a, c, g, h1, h2, h3, h4, h5⟩ := h
    exact ⟨a, c, g, o.keepB (.inl (by omega)) h1, o.ownK hb h2, o.keepB (.inl hk) h3, h4, o.keepB (.inr (by omega)) h5⟩
theorem BsI.own {k base : Nat} {st : Option (List Sg)} {A A' : World} {row : Option Nat} (h : BsI k base st A) (hg : A.grownBy A' row) (hr : ∀ r, row = some r → ∃ o : Obj, A.heap[r]? = some o ∧ o.isCells = false) : BsI k base st A' := by
  have K : ∀ {b : Nat} {t : TypeId} {cs : Array Value}, HoldsB A b t cs → HoldsB A' b t cs := fun h => holds_own _ _ (fun (_ : Unit) => _) () A A' row h hg hr
  cases st with
  | none => exact ⟨K h.1, K h.2⟩
  | some x =>
    obtain ⟨a, c, g, h1, h2, h3, h4, h5⟩ := h
    exact ⟨a, c, g, K h1, ownsRow_kept h2 hg hr, K h3, h4, K h5⟩
theorem BsI.take {k base : Nat} {st : Option (List Sg)} {A B : World} (h : BsI k base st A) (hkb : k + 1 < base) {x : List Sg} {v : Value} {g : Nat} (hx : 0 < x.length) (hb : Below A.heap.size A B) (hv : B.ownsRow base 30 17 v x.length (flatG x)) (hg : base ≤ g) (hr : HoldsB B g 3 (ints (rkG x)).toArray) :
    BsI k base (some x) ((B.setCell ⟨k, 0, none⟩ v).setCell ⟨k + 1, 0, none⟩ (.slice (some ⟨g, 0, none⟩) 3 3)) := by
  obtain ⟨w1, w2, h1, h2⟩ : ∃ w1 w2, HoldsB B k 23 #[w1] ∧ HoldsB B (k + 1) 22 #[w2] := by
    cases st with
    | none => exact ⟨_, _, h.1.later hb, h.2.later hb⟩
    | some y =>
      obtain ⟨a, c, g, h1, h2, h3, h4, h5⟩ := h
      exact ⟨_, _, h1.later hb, h3.later hb⟩
  obtain ⟨q, c, rfl⟩ : ∃ q c, v = .slice q x.length c := by
    rcases hv.2 with ⟨rfl, e⟩ | ⟨g', c, _, rfl, _⟩
    · omega
    · exact ⟨_, c, rfl⟩
  obtain ⟨a, rfl, ha, _⟩ := own_some hv hx
  refine ⟨a, c, g, ((h1.set 0 _).other (by omega) 0 _), ?_, (h2.other (by omega) 0 _).set 0 _, hg, (hr.other (by omega) 0 _).other (by omega) 0 _⟩
  exact own_put (own_put hv (fun e => by have e' : k = a := Option.some.inj e; omega) 0 _) (fun e => by have e' : k + 1 = a := Option.some.inj e; omega) 0 _

def shpR (ps vs : List Int) : Option (List Sg) := bstP (pAll ps vs ps.length [])
def shpE (ps vs : List Int) : Int := if askE ps vs = 0 then errO (shpR ps vs) else askE ps vs
def shpS (ps vs : List Int) : List Sg := if askE ps vs = 0 then (shpR ps vs).getD [] else []
def ShpP (ps vs : List Int) (w : World) (e : Ending) (w' : World) : Prop := ∃ v, e = .returned (.tuple #[v, .int .i64 (shpE ps vs)]) ∧ OwnL w w' 30 17 v (shpS ps vs).length (flatG (shpS ps vs))

set_option maxRecDepth 100000 in
set_option maxHeartbeats 1000000 in
theorem pshp0_any (ps vs : List Int) (n : Nat) (hn : ps.length = n) (hn2 : 2 ≤ n) (hn12 : n ≤ 12) (p q : Option Addr) (cp cq : Nat) (w : World) (hp : SlP w 1 p n cp (ints ps)) (hq : SlP w 1 q n cq (ints vs)) (hask : askE ps vs = 0) (hvn : vs.length = n) :
    Calls Try.prog 24 #[.slice p n cp, .slice q n cq] w fun e w' => ∃ v, e = .returned (.tuple #[v, .int .i64 (errO (bstP (pAll ps vs n [])))]) ∧ OwnL w w' 30 17 v ((bstP (pAll ps vs n [])).getD []).length (flatG ((bstP (pAll ps vs n [])).getD [])) := by
  refine (callsIn_wide (n := 1)).1 ?_
  have f1 := hp.fit
  have f2 := hp.max
  have CK := Lib.hid (show ∀ m, CallsIn Fence.wide m Try.prog 46 #[.slice p n cp, .slice q n cq] w fun e w' => e = .returned (.int .i64 0) ∧ w' = w from fun m => callsIn_wide.2 (by
    have := pask_any ps vs p q cp cq w (by rw [hn]; exact hp) (by rw [hvn]; exact hq)
    rw [hn, hvn, hask] at this
    exact this))
  have SH := Lib.hid (fun m W => callsIn_wide (n := m) |>.2 (pshapes_any (.slice p n cp) (.slice q n cq) n n cp cq p q rfl rfl W))
  have GV := Lib.hid (fun bp bv => shapes_gives n bp bv hn2 hn12 ps vs hn p cp q cq)
  have HP := Lib.hid hp
  have HQ := Lib.hid hq
  have HLN := Lib.hid (show ∀ x ∈ pAll ps vs n [], x.length = n from fun x hx => by
    rw [← hn] at hx
    obtain ⟨c, hc, _, hL, _⟩ := (mem_all ps vs x).1 hx
    rw [hL, bldP_len, hc, hn])
  clear hp hq hask hn hvn
  generalize pAll ps vs n [] = xs at *
  have FE0 := Lib.hid (show bstP xs = none → errO (bstP xs) = 18 ∧ (bstP xs).getD [] = [] from fun h => by rw [h]; exact ⟨rfl, rfl⟩)
  have FE1 := Lib.hid (show ∀ b, bstP xs = some b → errO (bstP xs) = 0 ∧ (bstP xs).getD [] = b from fun b h => by rw [h]; exact ⟨rfl, rfl⟩)
  generalize errO (bstP xs) = ER at *
  generalize (bstP xs).getD [] = SR at *
  refine callsIn_of_wp_marks Try.func24 rfl trivial ?_ rfl
  simp only [Try.ntmps24, List.size_toArray, List.length_cons, List.length_nil, Nat.reduceAdd, Nat.reduceSub, Array.replicate_succ, Array.replicate_zero, List.push_toArray, List.append_toArray, List.nil_append, List.cons_append]
  gi_wp2_with fail
  refine ⟨trivial, (CK.out _).mono ?_⟩
  rintro e w0 ⟨rfl, rfl⟩
  clear CK
  gi_wp2_with fail
  refine ⟨trivial, (SH.out _ _).mono ?_⟩
  rintro e w3 ⟨rfl, rfl⟩
  clear SH
  gi_wp2_with fail
  have HK := Lib.hid (show BsI w0.heap.size ((((((w0.alloc (.cells #[.slice none 0 0] 23)).alloc (.cells #[.slice none 0 0] 22)).alloc (.cells #[.slice p n cp] 22)).alloc (.cells #[.slice q n cq] 22))).heap.size + 2 + 6) none (((((w0.alloc (.cells #[.slice none 0 0] 23)).alloc (.cells #[.slice none 0 0] 22)).alloc (.cells #[.slice p n cp] 22)).alloc (.cells #[.slice q n cq] 22))) from by
    have h1 := ((HoldsB.new ((w0.alloc (.cells #[.slice none 0 0] 23))) 22 #[.slice none 0 0]).al (.cells #[.slice p n cp] 22)).al (.cells #[.slice q n cq] 22)
    simp only [World.size_alloc] at h1
    exact ⟨(((HoldsB.new w0 _ _).al _).al _).al _, h1⟩)
  have HB := Lib.hid (show BxL w0 (w0.heap.size + 1 + 1) (w0.heap.size + 1 + 1 + 1) (.slice p n cp) (.slice q n cq) (((((w0.alloc (.cells #[.slice none 0 0] 23)).alloc (.cells #[.slice none 0 0] 22)).alloc (.cells #[.slice p n cp] 22)).alloc (.cells #[.slice q n cq] 22))) from by
    have h1 := (HoldsB.new (((w0.alloc (.cells #[.slice none 0 0] 23)).alloc (.cells #[.slice none 0 0] 22))) 22 #[.slice p n cp]).al (.cells #[.slice q n cq] 22)
    have h2 := HoldsB.new ((((w0.alloc (.cells #[.slice none 0 0] 23)).alloc (.cells #[.slice none 0 0] 22)).alloc (.cells #[.slice p n cp] 22))) 22 #[.slice q n cq]
    simp only [World.size_alloc] at h1 h2
    exact ⟨w_alloc (w_alloc (w_alloc (w_alloc (w_refl w0) _) _) _) _, h1, h2⟩)
  have hsz : (((((w0.alloc (.cells #[.slice none 0 0] 23)).alloc (.cells #[.slice none 0 0] 22)).alloc (.cells #[.slice p n cp] 22)).alloc (.cells #[.slice q n cq] 22))).heap.size = w0.heap.size + 4 := by simp only [World.size_alloc]
  generalize ((((w0.alloc (.cells #[.slice none 0 0] 23)).alloc (.cells #[.slice none 0 0] 22)).alloc (.cells #[.slice p n cp] 22)).alloc (.cells #[.slice q n cq] 22)) = w3 at *
  refine wpIn_givesS (GV.out _ _) rfl (enters_of Try.func62 (by kernel_rfl) rfl) rfl
    (fun pre A => BsI w0.heap.size (w3.heap.size + 2 + 6) (bstP pre) A ∧ BxL w0 (w0.heap.size + 1 + 1) (w0.heap.size + 1 + 1 + 1) (.slice p n cp) (.slice q n cq) A)
    (fun _ => False) ?hC ?hI ?hIo ?hIxo ?hIx ?h0
    (fun v _ a' _ => a' = { tmps := #[.slice p n cp, .slice q n cq, undef, undef, .slice none 0 0, .int .i64 0, .int .i64 0, .pointer (some ⟨w0.heap.size, 0, none⟩), .pointer (some ⟨w0.heap.size + 1, 0, none⟩), v, undef, .slice p n cp, .slice q n cq, .int .i64 0, .int .i64 0, .bool false, undef, .slice p n cp, .slice q n cq, (.func (.func 62) #[] #[.pointer (some ⟨w0.heap.size + 1 + 1, 0, none⟩), .pointer (some ⟨w0.heap.size + 1 + 1 + 1, 0, none⟩)]), v, undef, undef, undef, undef, undef, undef, undef, undef, undef, undef, undef, undef, undef, undef, undef, undef], defers := [] })
    ?hAx ?assign ?body ?done ?stop
  case hC =>
    rintro pre A ⟨_, h2⟩
    exact h2.plc HP.out HQ.out
  case hI =>
    rintro pre A A' row ⟨h1, h2⟩ hg hr
    exact ⟨h1.own hg (fun r e => (hr r e).2), BxL.from_ (by omega) () A A' row h2 hg hr⟩
  case hIo =>
    rintro pre A B ⟨h1, h2⟩ o
    exact ⟨h1.off (by omega) (by omega) o, h2.off (by omega) (by omega) (by omega) o⟩
  case hIxo => exact fun _ _ h _ => h
  case hIx => exact fun _ _ _ _ h _ _ => h
  case h0 => exact ⟨HK.out, HB.out⟩
  case hAx =>
    rintro v x a' s A A' row e hg hr
    exact e
  case assign =>
    rintro m2 l2 pre v x A K hle hs ⟨h1, h2⟩ hK
    obtain ⟨sq, scap, sn, rfl, ss, s0, scs, sh⟩ := hs
    gi_wp2_with fail
    exact hK _ _ (Mid.refl _ _) ⟨h1, h2⟩ (by kernel_rfl)
  case body =>
    rintro m2 l2 pre v x post a' A hx hle hs ⟨h1, h2⟩ rfl
    obtain ⟨sq, scap, sn, rfl, ss, s0, scs, sh⟩ := hs
    have hxl : x.length = n := HLN.out x (by rw [hx]; simp)
    have HRK := Lib.hid (show CallsIn (Fence.wide.inRound l2) (m2 - 1) Try.prog 48 #[.slice (some ⟨sq, 0, none⟩) x.length scap] A _ from CallsIn.inRound l2 (callsIn_wide (n := m2 - 1) |>.2 (rank_any x s0 (by omega) _ scap A ss)))
    have HCL := Lib.hid (show ∀ W, Below A.heap.size A W → CallsIn (Fence.wide.inRound l2) (m2 - 1) Try.prog 50 #[.slice (some ⟨sq, 0, none⟩) x.length scap] W _ from fun W b => CallsIn.inRound l2 (callsIn_wide (n := m2 - 1) |>.2 (clone_any _ scap x s0 (by omega) W (ss.later b))))
    have hstep := bstP_snoc pre x
    have HS := Lib.hid h1
    have HX := Lib.hid h2
    clear h1 h2 ss sh hx hxl
    generalize bstP pre = st at *
    obtain ⟨st', hst'⟩ : ∃ st', bstP (pre ++ [x]) = st' := ⟨_, rfl⟩
    rw [hst'] at hstep
    have HST := Lib.hid hst'
    clear hst'
    have heqn := fun W => run_eql_snil W 23 30 none 0 0 Try.underlying23
    rw [show (none : Option Addr).isNone = true from rfl] at heqn
    gi_wp2_with fail
    refine ⟨trivial, (fun h => by cases h), HRK.out.mono ?_⟩
    rintro e A1 ⟨g, hgA, rfl, hb, hrk⟩
    have HR := Lib.hid hrk
    have HB1 := Lib.hid hb
    clear hrk hb HRK
    cases st with
    | none =>
      have c1 := (HS.out.later HB1.out).1.cell (j := 0) rfl
      gi_wp2_with fail
      refine ⟨trivial, ?_⟩
      gi_wp2_with fail
      clear c1 heqn
      refine ⟨trivial, (fun h => by cases h), (HCL.out _ HB1.out).mono ?_⟩
      rintro e A2 ⟨v, rfl, ho⟩
      have hb2 := w_below HB1.out ho.bel
      have hst : st' = some x := hstep
      have HN := Lib.hid (HS.out.take (B := A2) (by omega) s0 hb2 (own_base ho.row (by have := HB1.out.size; omega)) (by omega) (HR.out.later ho.bel))
      have HN2 := Lib.hid (((HX.out.later hb2).put (b := w0.heap.size) (Nat.le_refl _) (by omega) (by omega) 0 v).put (b := w0.heap.size + 1) (by omega) (by omega) (by omega) 0 (.slice (some ⟨g, 0, none⟩) 3 3))
      have HM := Lib.hid (((Mid.bel w3.heap.size hb2).trans (Mid.set _ A2 (c := w0.heap.size) (by omega) 0 v)).trans (Mid.set _ _ (c := w0.heap.size + 1) (by omega) 0 (.slice (some ⟨g, 0, none⟩) 3 3)))
      have e1 := (HS.out.later hb2).1.cell (j := 0) rfl
      have ef := (HS.out.later hb2).1.frozen 0
      have HS2 := (HS.out.later hb2).2.other (c := w0.heap.size) (by omega) 0 v
      have e2 := HS2.cell (j := 0) rfl
      have ef2 := HS2.frozen 0
      obtain ⟨qv, cv, rfl⟩ := ho.val
      clear HCL HS HX HR HB1 ho hb2 HS2 hstep
      gi_wp2_with fail
      show Mid _ _ _ ∧ _
      dsimp only
      rw [HST.out, hst]
      exact ⟨HM.out, HN.out, HN2.out⟩
    | some b =>
      obtain ⟨ba, bc, bg, k1, k2, k3, k4, k5⟩ := HS.out.later HB1.out
      have heqs := fun W => run_eql_snil W 23 30 (some ⟨ba, 0, none⟩) b.length bc Try.underlying23
      rw [show (some (⟨ba, 0, none⟩ : Addr)).isNone = false from rfl] at heqs
      have HCM := Lib.hid (show CallsIn (Fence.wide.inRound l2) (m2 - 1) Try.prog 49 #[.slice (some ⟨g, 0, none⟩) 3 3, .slice (some ⟨bg, 0, none⟩) 3 3] A1 fun e w' => e = .returned (.int .i64 (cmpL (rkG x) (rkG b))) ∧ w' = A1 from CallsIn.inRound l2 (callsIn_wide (n := m2 - 1) |>.2 (cmpl_any (rkG x) (rkG b) rfl (show 3 ≤ 1000 by decide) _ _ 3 3 A1 (sl_lit HR.out (show 3 ≤ 1000 by decide)) (sl_lit k5 (show 3 ≤ 1000 by decide)))))
      have c1 := k1.cell (j := 0) rfl
      have c3 := k3.cell (j := 0) rfl
      have hst : st' = if cmpL (rkG x) (rkG b) < 0 then some x else some b := hstep
      clear k1 k2 k3 k4 k5 heqn hstep
      generalize cmpL (rkG x) (rkG b) = cm at *
      gi_wp2_with fail
      refine ⟨trivial, (fun h => by cases h), HCM.out.mono ?_⟩
      rintro e A1' ⟨rfl, rfl⟩
      clear c1 c3 heqs HCM
      by_cases hlt : cm < 0
      · rw [if_pos hlt] at hst
        gi_wp2_with fail
        refine ⟨trivial, (fun h => by cases h), (HCL.out _ HB1.out).mono ?_⟩
        rintro e A2 ⟨v, rfl, ho⟩
        have hb2 := w_below HB1.out ho.bel
        have HN := Lib.hid (HS.out.take (B := A2) (by omega) s0 hb2 (own_base ho.row (by have := HB1.out.size; omega)) (by omega) (HR.out.later ho.bel))
        have HN2 := Lib.hid (((HX.out.later hb2).put (b := w0.heap.size) (Nat.le_refl _) (by omega) (by omega) 0 v).put (b := w0.heap.size + 1) (by omega) (by omega) (by omega) 0 (.slice (some ⟨g, 0, none⟩) 3 3))
        have HM := Lib.hid (((Mid.bel w3.heap.size hb2).trans (Mid.set _ A2 (c := w0.heap.size) (by omega) 0 v)).trans (Mid.set _ _ (c := w0.heap.size + 1) (by omega) 0 (.slice (some ⟨g, 0, none⟩) 3 3)))
        obtain ⟨ba2, bc2, bg2, k1, k2, k3, k4, k5⟩ := HS.out.later hb2
        have e1 := k1.cell (j := 0) rfl
        have ef := k1.frozen 0
        have HS2 := k3.other (c := w0.heap.size) (by omega) 0 v
        have e2 := HS2.cell (j := 0) rfl
        have ef2 := HS2.frozen 0
        obtain ⟨qv, cv, rfl⟩ := ho.val
        clear HCL HS HX HR HB1 ho hb2 HS2 k1 k2 k3 k4 k5
        gi_wp2_with fail
        show Mid _ _ _ ∧ _
        dsimp only
        rw [HST.out, hst]
        exact ⟨HM.out, HN.out, HN2.out⟩
      · rw [if_neg hlt] at hst
        have HN := Lib.hid (HS.out.later HB1.out)
        have HN2 := Lib.hid (HX.out.later HB1.out)
        have HM := Lib.hid (Mid.bel w3.heap.size HB1.out)
        clear HCL HS HX HR HB1
        gi_wp2_with fail
        show Mid _ _ _ ∧ _
        dsimp only
        rw [HST.out, hst]
        exact ⟨HM.out, HN.out, HN2.out⟩
  case done =>
    rintro D A hD ⟨h1, h2⟩ hd
    have hdd := Lib.hid hd
    have hB5 := Lib.hid h2.bel
    have HBD := Lib.hid (fun o (ho : Obj.isCells o = false) (_ : Obj.isWalk (.deferred (some [])) = false) => hB5.out.trans (belowK_b (w := w0) (Nat.le_refl _) A D _ o (by omega) hd rfl rfl))
    clear h2 hd
    cases hst : bstP xs with
    | none =>
      rw [hst] at h1
      obtain ⟨g1, g2⟩ := FE0.out hst
      have HF := Lib.hid (show _ ∧ _ from ⟨g1, g2⟩)
      clear g1 g2 hst
      have c1 := h1.1.cell (j := 0) rfl
      have heqn := fun W => run_eql_snil W 23 30 none 0 0 Try.underlying23
      rw [show (none : Option Addr).isNone = true from rfl] at heqn
      clear h1
      gi_wp2_with fail
      refine ⟨by simp, .inl ⟨_, _, rfl, run_takeDeferred hdd.out, ?_⟩⟩
      refine ⟨.tuple #[.slice none 0 0, .int .i64 18], (by simp [results, Try.results24, go_sem]), _, by rw [HF.out.1], ?_⟩
      rw [HF.out.2]
      exact ⟨hB5.out.trans (belowK_b (w := w0) (Nat.le_refl _) A D _ _ (by omega) hdd.out rfl rfl), World.ownsRow_nil _ _ _ _⟩
    | some b =>
      rw [hst] at h1
      obtain ⟨g1, g2⟩ := FE1.out b hst
      have HF := Lib.hid (show _ ∧ _ from ⟨g1, g2⟩)
      clear g1 g2 hst
      obtain ⟨ba, bc, bg, k1, k2, k3, k4, k5⟩ := h1
      have heqs := fun W => run_eql_snil W 23 30 (some ⟨ba, 0, none⟩) b.length bc Try.underlying23
      rw [show (some (⟨ba, 0, none⟩ : Addr)).isNone = false from rfl] at heqs
      have c1 := k1.cell (j := 0) rfl
      have HO := Lib.hid k2
      clear k1 k2 k3 k4 k5
      gi_wp2_with fail
      refine ⟨by simp, .inl ⟨_, _, rfl, run_takeDeferred hdd.out, ?_⟩⟩
      refine ⟨.tuple #[.slice (some ⟨ba, 0, none⟩) b.length bc, .int .i64 0], (by simp [results, Try.results24, go_sem]), _, by rw [HF.out.1], ?_⟩
      rw [HF.out.2]
      exact ⟨hB5.out.trans (belowK_b (w := w0) (Nat.le_refl _) A D _ _ (by omega) hdd.out rfl rfl), own_base (ownsRow_kept HO.out (grownBy_putObj' A D _) (fun r e => by cases e; exact ⟨_, hdd.out, rfl⟩)) (by omega)⟩
  case stop =>
    rintro D A hD hx hd
    exact hx.elim

theorem pshape_any (ps vs : List Int) (p q : Option Addr) (cp cq : Nat) (w : World) (hp : SlP w 1 p ps.length cp (ints ps)) (hq : SlP w 1 q vs.length cq (ints vs)) :
    Calls Try.prog 24 #[.slice p ps.length cp, .slice q vs.length cq] w (ShpP ps vs w) := by
  unfold ShpP
  by_cases h : askE ps vs = 0
  · obtain ⟨hl, hv⟩ := ask_len h
    have hq' := hq
    rw [hv] at hq' ⊢
    have := pshp0_any ps vs ps.length rfl hl.1 hl.2 p q cp cq w hp hq' h hv
    unfold shpE shpS
    rw [if_pos h, if_pos h]
    exact this
  · unfold shpE shpS
    rw [if_neg h, if_neg h]
    have CK := Lib.hid (pask_any ps vs p q cp cq w hp hq)
    have e1 : (askE ps vs == 0) = false := beq_eq_false_iff_ne.2 h
    have e2 : (askE ps vs != 0) = true := by simp [h]
    clear hp hq h
    generalize askE ps vs = E at *
    go_enter Try.func24, Try.ntmps24
    go_wp2_with fail
    refine CK.out.mono ?_
    rintro e w1 ⟨rfl, rfl⟩
    clear CK
    go_wp2_with fail
    go_ret2
    exact ⟨_, rfl, OwnL.start _ _ _⟩

end Go.Proofs.Ytedkcnphplpacaa
