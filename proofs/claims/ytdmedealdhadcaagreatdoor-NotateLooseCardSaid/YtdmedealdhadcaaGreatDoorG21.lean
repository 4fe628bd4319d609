/- The text of a part is read back as the part: plain mathematics. A region that draws its order, in a round of a loop over an iterator: the plain walk's rules serve there too. The program's test of a ligature's signs, and its check of a part. The program's Text: what stands in its loop over the pieces. -/
import Derived.Test.YtdmedealdhadcaaGreatDoorG20
import Derived.Test.YtdmedealdhadcaaGreatDoorG08
import Derived.OrdersIn
import Derived.OrdersHeld
import Derived.Test.YtdmedealdhadcaaGreatDoorG02
import Derived.Test.YtdmedealdhadcaaGreatDoorG03
import Derived.Test.YtdmedealdhadcaaGreatDoorG13
import Derived.Test.YtdmedealdhadcaaGreatDoorG05
import Derived.Test.YtdmedealdhadcaaGreatDoorG16

namespace Go.Proofs.YtdmedealdhadcaaGreatDoor
open Go.RowKit
theorem sgnV_word {s : Sg} (h : oneE s = 0) : signV (wordT s) = (s, 0) := by
  unfold signV
  rw [word_read h]
  exact if_pos h
theorem word_sign {l : List UInt8} {s : Sg} (h : signV l = (s, 0)) : oneE s = 0 ∧ wordT s = l := by
  unfold signV at h
  cases hr : readS l with
  | none => rw [hr] at h; simp at h
  | some t =>
    rw [hr] at h
    by_cases ho : oneE t = 0
    · replace h := (if_pos ho).symm.trans h
      injection h with h1 h2
      subst h1
      exact ⟨ho, read_word hr ho⟩
    · replace h := (if_neg ho).symm.trans h
      injection h with h1 h2
      exact absurd h2 ho
theorem wd_ok {s : Sg} (h : oneE s = 0) : wdT s = wordT s := if_pos h
theorem sgw_bare {x : Wd} {s : Sg} (h : oneE s = 0) (e1 : x.text = bytes (wdT s)) (e2 : x.quoted = false) : sgnW x = (s, 0) := by
  rw [sgw_plain e2, e1, bytes_data, wd_ok h, sgnV_word h]
theorem map_sg : ∀ (p : List Sg) (ws : List Wd), (∀ s ∈ p, oneE s = 0) → bareW ws = bareW (p.map wrdW) → badW ws = none ∧ (ws.map fun x => (sgnW x).1) = p
  | [], ws, _, e => by
    have : ws = [] := by simpa [bareW] using e
    subst this
    exact ⟨rfl, rfl⟩
  | s :: p, [], _, e => by simp [bareW] at e
  | s :: p, x :: ws, h, e => by
    have e' : (x.text, x.quoted) = ((wrdW s).text, (wrdW s).quoted) ∧ bareW ws = bareW (p.map wrdW) := by simpa [bareW] using e
    obtain ⟨e1, e2⟩ := e'
    injection e1 with e1 e3
    have hx := sgw_bare (h s (List.mem_cons_self ..)) e1 e3
    obtain ⟨i1, i2⟩ := map_sg p ws (fun t ht => h t (List.mem_cons_of_mem _ ht)) e2
    constructor
    · unfold badW at i1 ⊢
      rw [List.find?_cons_of_neg (by rw [hx]; simp)]
      exact i1
    · rw [List.map_cons, hx, i2]
theorem not_end {s : Sg} {x : Wd} (h : oneE s = 0) (e1 : x.text = bytes (wdT s)) : isW x endB = false := by
  unfold isW
  have : (x.text.toList == endB.toList) = false := by
    rw [beq_eq_false_iff_ne, Lib.toList_data, Lib.toList_data, e1, bytes_data, wd_ok h]
    exact word_end h
  rw [this, Bool.and_false]
theorem body_back (n : Int) : ∀ (ps : List (List Sg)) (rs : List Rw) (zs : List Sg) (us : List Int), (∀ p ∈ ps, p ≠ [] ∧ ∀ s ∈ p, oneE s = 0) → bareR rs = (ps.map fun p => bareW (p.map wrdW)) ++ [bareW [mkW endB]] →
    ∃ us', bodyV n rs zs us = (zs ++ ps.flatten, us', (0, 0))
  | [], rs, zs, us, _, e => by
    match rs, e with
    | [], e => simp [bareR] at e
    | r :: r2 :: t, e => simp [bareR] at e
    | [r], e =>
      have e' : bareW r.words = bareW [mkW endB] := by simpa [bareR] using e
      have hlen := bareW_len e'
      obtain ⟨g1, g2⟩ := bareW_get e' 0 (by rw [hlen]; decide)
      have hw : isW (r.words.getD 0 noWd) endB = true := by
        unfold isW; rw [g1, g2]; decide +kernel
      refine ⟨us, ?_⟩
      rw [body_end hw, List.flatten_nil, List.append_nil]
      unfold endE
      rw [if_neg (by rw [hlen]; decide), if_neg (by decide)]
  | p :: ps, rs, zs, us, h, e => by
    match rs, e with
    | [], e => simp [bareR] at e
    | r :: t, e =>
      have e' : bareW r.words = bareW (p.map wrdW) ∧ bareR t = (ps.map fun p => bareW (p.map wrdW)) ++ [bareW [mkW endB]] := by simpa [bareR] using e
      obtain ⟨e1, e2⟩ := e'
      obtain ⟨hp, hs⟩ := h p (List.mem_cons_self ..)
      obtain ⟨s, p', rfl⟩ : ∃ s p', p = s :: p' := by
        cases p with
        | nil => exact absurd rfl hp
        | cons s p' => exact ⟨s, p', rfl⟩
      obtain ⟨g1, g2⟩ := bareW_get e1 0 (by rw [bareW_len e1]; simp)
      obtain ⟨i1, i2⟩ := map_sg _ _ hs e1
      obtain ⟨us', hb⟩ := body_back n ps t (zs ++ (s :: p')) (us ++ r.words.map fun x => x.at_) (fun q hq => h q (List.mem_cons_of_mem _ hq)) e2
      refine ⟨us', ?_⟩
      rw [body_on (not_end (hs s (List.mem_cons_self ..)) (by rw [g1]; rfl)) i1, i2, hb, List.flatten_cons, List.append_assoc]
theorem pieces_all (l : List Sg) : ∀ k, ((List.range k).map (pieceS l)).flatten = l.take (16 * k)
  | 0 => by simp
  | k + 1 => by rw [List.range_succ, List.map_append, List.flatten_append, pieces_all l k, take_step]; simp
theorem rows_e0 {nm : ByteArray} {l : List Sg} (hn : nameV nm.data.toList = true) (h : ∀ s ∈ l, oneE s = 0) : ∀ r ∈ rowsT nm l, rowE r.words = 0 := by
  obtain ⟨hok, hn2, hn3⟩ := name_ok hn
  have hc : chC l.length = (l.length + 15) / 16 := rfl
  intro r hr
  unfold rowsT rowsB at hr
  rcases List.mem_append.1 hr with hr | hr
  · rcases List.mem_cons.1 hr with rfl | hr
    · refine rowE_ok (by simp [row0]) ?_ ?_
      · show (okW (mkW partB) && (okW (mkW nm) && true)) = true
        rw [hok]; decide +kernel
      · show ([112, 97, 114, 116] ++ (32 :: (nm.data.toList ++ []))).length ≤ 1000
        simp only [List.length_append, List.length_cons, List.length_nil]; omega
    · rw [List.mem_map] at hr
      obtain ⟨k, hk, rfl⟩ := hr
      rw [List.mem_range] at hk
      have hp := piece_ne l k (by omega)
      have hpl : (pieceS l k).length ≤ 16 := by rw [piece_len]; unfold chN; omega
      have hv : ∀ s ∈ pieceS l k, oneE s = 0 := fun s hs => h s (piece_mem hs)
      refine rowE_ok (by intro e; exact hp (List.map_eq_nil_iff.1 e)) ?_ (Nat.le_trans (line_len _ k hv hp hpl) (by decide))
      show ((pieceS l k).map wrdW).all okW = true
      rw [List.all_map, List.all_eq_true]
      exact fun s hs => okW_wrd (hv s hs)
  · rw [List.mem_singleton] at hr
    subst hr
    exact rowE_ok (by simp [rowZ]) (by decide +kernel) (by decide +kernel)
/-- Rows that say a part, in whatever rows its signs stand: they are read as it. -/
theorem prs_rows {T : ByteArray} {nm : ByteArray} {l : List Sg} (hc : (chkV (nameV nm.data.toList) l).1 = 0) (ps : List (List Sg)) (hps : ∀ p ∈ ps, p ≠ []) (hl : ps.flatten = l) {rs : List Rw} (hr : RowsRes T rs none)
    (e : bareR rs = bareW [mkW partB, mkW nm] :: ((ps.map fun p => bareW (p.map wrdW)) ++ [bareW [mkW endB]])) : prsV T = ((nm, l), (0, 0)) := by
  obtain ⟨hn, _, hv, _⟩ := chk_good hc
  match rs, e, hr with
  | [], e, _ => simp [bareR] at e
  | r :: t, e, hr =>
    have e' : bareW r.words = bareW [mkW partB, mkW nm] ∧ bareR t = (ps.map fun p => bareW (p.map wrdW)) ++ [bareW [mkW endB]] := by
      have := e
      simp only [bareR, List.map_cons, List.cons.injEq] at this
      exact this
    obtain ⟨e1, e2⟩ := e'
    have hlen := bareW_len e1
    obtain ⟨g1, g2⟩ := bareW_get e1 0 (by rw [hlen]; show 0 < 2; decide)
    obtain ⟨g3, g4⟩ := bareW_get e1 1 (by rw [hlen]; show 1 < 2; decide)
    obtain ⟨us', hb⟩ := body_back T.size ps t [] [] (fun p hp => ⟨hps p hp, fun s hs => hv s (by rw [← hl]; exact List.mem_flatten.2 ⟨p, hp, hs⟩)⟩) e2
    rw [prs_cons hr]
    have g3' : (r.words.getD 1 noWd).text = nm := g3
    have hh : (headE r.words).1 = 0 := by
      have i1 : isW (r.words.getD 0 noWd) partB = true := by unfold isW; rw [g1, g2]; show (!(mkW partB).quoted && ((mkW partB).text.toList == partB.toList)) = true; decide +kernel
      have i2 : decide (r.words.length = 2) = true := decide_eq_true hlen
      have i3 : (r.words.getD 1 noWd).quoted = false := g4
      unfold headE
      rw [i1, i2, i3, g3', hn]
      rfl
    rw [List.nil_append, hl] at hb
    rw [ht_ok hh hb rfl (by rw [g3']; exact hc), g3']
/-- The text of a valid part is read as the part. -/
theorem prs_text {nm : ByteArray} {l : List Sg} (hc : (chkV (nameV nm.data.toList) l).1 = 0) : txtV nm l = (bytes (outT nm l), 0) ∧ prsV (bytes (outT nm l)) = ((nm, l), (0, 0)) := by
  obtain ⟨hn, hl, hv, _⟩ := chk_good hc
  refine ⟨if_pos hc, ?_⟩
  have ht := rows_text hn hl hv
  obtain ⟨k1, k2, _⟩ := back_rows (fun r hr => by rw [rows_e0 hn hv r hr]; decide) (by rw [ht]) (rs' := (rowsA (bytes (outT nm l))).1) (b := (rowsA (bytes (outT nm l))).2) (by rw [ht]; exact rows_res _)
  have hr := rows_res (bytes (outT nm l))
  rw [k1] at hr
  refine prs_rows hc ((List.range (chC l.length)).map (pieceS l)) (fun p hp => ?_) ?_ hr ?_
  · rw [List.mem_map] at hp
    obtain ⟨k, hk, rfl⟩ := hp
    rw [List.mem_range] at hk
    have : chC l.length = (l.length + 15) / 16 := rfl
    exact piece_ne l k (by omega)
  · rw [pieces_all, List.take_of_length_le]
    have : chC l.length = (l.length + 15) / 16 := rfl
    omega
  · rw [k2]
    unfold rowsT rowsB
    simp only [bareR, List.cons_append, List.map_cons, List.map_append, List.map_map, List.map_nil]
    rfl
/-- A part that is read is valid. -/
theorem prs_good {T : ByteArray} {nm : ByteArray} {l : List Sg} {a : Int} (h : prsV T = ((nm, l), (0, a))) : (chkV (nameV nm.data.toList) l).1 = 0 := by
  have hr := rows_res T
  generalize (rowsA T).2 = b at hr
  generalize (rowsA T).1 = rs at hr
  cases b with
  | some f =>
    rw [prs_bad hr] at h
    have := (rows_fault hr).1
    injection h with _ h2
    rw [h2] at this
    exact absurd rfl this
  | none =>
    cases rs with
    | nil => rw [prs_nil hr] at h; simp at h
    | cons r t =>
      rw [prs_cons hr] at h
      by_cases h1 : (headE r.words).1 = 0
      · by_cases h2 : (bodyV T.size t [] []).2.2.1 = 0
        · by_cases h3 : (chkV (nameV (r.words.getD 1 noWd).text.data.toList) (bodyV T.size t [] []).1).1 = 0
          · rw [ht_ok h1 rfl h2 h3] at h
            injection h with h4 _
            injection h4 with h5 h6
            rw [← h5, ← h6]; exact h3
          · rw [ht_chk h1 rfl h2 rfl h3] at h
            injection h with _ h4
            injection h4 with h5 _
            exact absurd h5 h3
        · rw [ht_body h1 h2] at h
          injection h with _ h4
          rw [h4] at h2
          exact absurd rfl h2
      · rw [ht_head h1] at h
        injection h with _ h4
        rw [h4] at h1
        exact absurd rfl h1
end Go.Proofs.YtdmedealdhadcaaGreatDoor

namespace Go.Proofs.YtdmedealdhadcaaGreatDoor
open Go.RowKit
theorem uponIn_of {l n : Nat} {P : Program} {o : Oper} {a : Act} {next next' : Act → World → Prop} {Q : Exit → Act → World → Prop} {r : Result Next} (hk : ∀ a w, next a w → next' a w)
    (h : o.upon P a next Q r) : o.uponIn (Fence.wide.inRound l) n P a next' Q r := by
  cases r with
  | ok x w' =>
    cases x <;> simp only [Oper.upon, Oper.uponIn] at h ⊢ <;>
      first
        | exact hk _ _ h
        | exact ⟨(fun h => by cases h), CallsIn.inRound l (callsIn_wide.2 (Calls.mono h (fun e w'' he => by cases e <;> first | exact hk _ _ he | exact he)))⟩
        | exact ⟨(fun h => by cases h), fun c cs _ => let ⟨v, w', r, s⟩ := h c cs; ⟨v, w', hk _ _ r, stepsIn_wide.2 s⟩⟩
        | exact h.elim
  | halt x w' => cases x <;> simp only [Oper.upon, Oper.uponIn] at h ⊢ <;> exact h
def noDefer (ops : Array Oper) : Bool := ops.all fun o => match o.op with | .defer _ => false | _ => true
theorem noDefer_spec {ops : Array Oper} (h : noDefer ops = true) {i : Nat} {o : Oper} (hi : ops[i]? = some o) : ∀ c, o.op ≠ .defer c := by
  intro c e
  obtain ⟨hlt, rfl⟩ := Array.getElem?_eq_some_iff.1 hi
  have := Array.all_eq_true.1 h i hlt
  rw [e] at this
  cases this
theorem wpOpIn_of {l n : Nat} {P : Program} {ops : Array Oper} {Q : Exit → Act → World → Prop} (hd : noDefer ops = true) (hq : ¬ LetsOut Q) {i : Nat} {K K' : Act → World → Prop} (hk : ∀ a w, K a w → K' a w) {a : Act} {w : World}
    (h : wpOp P ops Q i K a w) : wpOpIn (Fence.wide.inRound l) n P ops Q i K' a w := by
  unfold wpOp at h
  unfold wpOpIn
  split
  · rename_i hi
    rw [hi] at h
    exact hk _ _ h
  · rename_i o hi
    rw [hi] at h
    simp only at h
    by_cases hw : Region.wanted o (yielded ops a.tmps) = true
    · simp only [hw, if_true] at h ⊢
      rcases h with h | ⟨_, h⟩
      · refine ⟨fun _ _ => trivial, ?_⟩
        rw [Oper.semAt_eq _ _ _ (noDefer_spec hd hi)]
        exact uponIn_of hk h
      · exact absurd h hq
    · simp only [hw] at h ⊢
      exact ⟨fun _ _ => trivial, hk _ _ h⟩
theorem wpAnyIn_of {l n : Nat} {P : Program} {ops : Array Oper} {Q : Exit → Act → World → Prop} (hd : noDefer ops = true) (hq : ¬ LetsOut Q) {md : Region.Mode} : ∀ (fuel : Nat) (listed : Array Bool) (a : Act) (w : World),
    wpAny P md ops Q fuel listed a w → wpAnyIn (Fence.wide.inRound l) n P md ops Q fuel listed a w
  | 0, _, _, _, h => h
  | fuel + 1, _, _, _, h => ⟨h.1, fun i hi => wpOpIn_of hd hq (fun a' w' h' => wpAnyIn_of hd hq fuel _ a' w' h') (h.2 i hi)⟩
theorem wpIn_region_late {l n : Nat} {P : Program} {id : Nat} {ops : Array Oper} {Q : Exit → Act → World → Prop} {a : Act} {w : World} (S : World → Prop) (late : List Nat) (hm : P.follows .mixedOrders = true) (hd : noDefer ops = true) (hq : ¬ LetsOut Q)
    (h : wpL P .any ops Q S late ops.size (Array.replicate ops.size false) a w.drew) : (Code.region id ops true).wpIn (Fence.wide.inRound l) n P Q a w :=
  wpIn_region_any hm (wpAnyIn_of hd hq _ _ _ _ (wpL_any _ _ _ _ h))
/-- A region in the text's order, in a round of a loop over an iterator: the plain walk serves. -/
theorem wpListIn_of {l n : Nat} {P : Program} {ops : Array Oper} {Q : Exit → Act → World → Prop} (hq : ¬ LetsOut Q) : ∀ (rest : List Oper) (a : Act) (w : World), (∀ o ∈ rest, ∀ c, o.op ≠ .defer c) →
    wpList P ops Q rest a w → wpListIn (Fence.wide.inRound l) n P ops Q rest a w
  | [], _, _, _, h => h
  | o :: rest, a, w, hd, h => by
    unfold wpList at h
    unfold wpListIn
    have hdo := hd o (List.mem_cons_self ..)
    by_cases hw : Region.wanted o (yielded ops a.tmps) = true
    · simp only [hw, if_true] at h ⊢
      rcases h with h | ⟨_, h⟩
      · refine ⟨fun _ _ => trivial, ?_⟩
        rw [Oper.semAt_eq _ _ _ hdo]
        exact uponIn_of (fun a w k => wpListIn_of hq rest a w (fun o' ho' => hd o' (List.mem_cons_of_mem _ ho')) k) h
      · exact absurd h hq
    · simp only [hw] at h ⊢
      exact ⟨fun _ _ => trivial, wpListIn_of hq rest _ w (fun o' ho' => hd o' (List.mem_cons_of_mem _ ho')) h⟩
/-- From the operation that fills slot d on the plain walk serves. -/
theorem wpListIn_at {l n : Nat} {P : Program} {ops : Array Oper} {Q : Exit → Act → World → Prop} {o : Oper} {rest : List Oper} {a : Act} {w : World} (d : Tmp) (_hd : o.dst = some d) (hd : noDefer (o :: rest).toArray = true) (hq : ¬ LetsOut Q)
    (h : wpList P ops Q (o :: rest) a w) : wpListIn (Fence.wide.inRound l) n P ops Q (o :: rest) a w :=
  wpListIn_of hq _ _ _ (fun x hx => by
    obtain ⟨i, hi, rfl⟩ := List.getElem_of_mem hx
    exact noDefer_spec hd (i := i) (by simp)) h
/-- Only the way on is asked for. -/
theorem wpIn_onlyN {c : Code} {n : Nat} {P : Program} {K : Act → World → Prop} {R : Exit → Act → World → Prop} {a : Act} {w : World} (h : c.wp P (Exit.then K fun _ _ _ => False) a w) : c.wpIn Fence.wide n P (Exit.then K R) a w :=
  wpIn_mono (wpIn_wide.2 h) (fun e a w q => by cases e <;> first | exact q | exact q.elim)
end Go.Proofs.YtdmedealdhadcaaGreatDoor

namespace Go.Proofs.YtdmedealdhadcaaGreatDoor
open Go.RowKit
set_option maxHeartbeats 2000000 in
theorem pfst_any (l : List Sg) (i : Nat) (hi : i < l.length) (p : Option Addr) (cap : Nat) (w : World) (h : SlP w 17 p l.length cap (flatG l)) :
    Calls Tryz.prog 146 #[.slice p l.length cap, .int .i64 i] w fun e w' => e = .returned (.bool (fstB l i)) ∧ w = w' := by
  have f1 := h.fit
  have m1 := h.max
  obtain ⟨b, off, rfl, hb, hs⟩ := h.sg (sg_some hi)
  have n0 := hs.e0
  have HL := Lib.hid h
  clear h hs
  cases hk : kB l i with
  | false =>
    rw [show fstB l i = false by unfold fstB; rw [hk]; rfl]
    have q : ((l.getD i zS).kind == 4) = false := hk
    have hI1 : (i : Int) < l.length := by omega
    have hI0 : (0 : Int) ≤ i := by omega
    clear hk HL
    generalize l.getD i zS = s at *
    go_enter Tryz.func146, Tryz.ntmps146
    go_wp2_with fail
    go_ret
    exact ⟨rfl, rfl⟩
  | true =>
    have q : ((l.getD i zS).kind == 4) = true := hk
    cases i with
    | zero =>
      rw [fst_zero, hk]
      obtain ⟨I, hI⟩ : ∃ I : Int, ((0 : Nat) : Int) = I := ⟨_, rfl⟩
      obtain ⟨o, ho⟩ : ∃ o, off + 0 * 17 = o := ⟨_, rfl⟩
      have hoff : off + I.toNat * 17 = o := by rw [← hI, ← ho]; simp
      have hI1 : I < l.length := by omega
      have hI0 : 0 ≤ I := by omega
      have hz : (I == 0) = true := by simp; omega
      rw [ho] at n0
      rw [hI]
      clear hk HL hI ho
      generalize l.getD 0 zS = s at *
      go_enter Tryz.func146, Tryz.ntmps146
      go_wp2_with fail
      go_ret
      exact ⟨rfl, rfl⟩
    | succ j =>
      obtain ⟨_, _, e9, _, hx⟩ := HL.out.sg (sg_some (show j < l.length by omega))
      injection e9 with e9
      injection e9 with e9 e10 _
      subst e9 e10
      have m0 := hx.e0
      have m7 := hx.e7
      have HF := show fstB l (j + 1) = (true && (!(kB l j) || laB l j)) by rw [fst_succ, hk]
      have kj : ((l.getD j zS).kind == 4) = kB l j := rfl
      have kj2 : ((l.getD j zS).kind != 4) = !(kB l j) := rfl
      have lj : (l.getD j zS).last = laB l j := rfl
      rw [lj] at m7
      rw [HF]
      obtain ⟨I, hI⟩ : ∃ I : Int, ((j + 1 : Nat) : Int) = I := ⟨_, rfl⟩
      obtain ⟨J, hJ⟩ : ∃ J : Int, ((j : Nat) : Int) = J := ⟨_, rfl⟩
      obtain ⟨o, ho⟩ : ∃ o, off + (j + 1) * 17 = o := ⟨_, rfl⟩
      obtain ⟨o', ho'⟩ : ∃ o, off + j * 17 = o := ⟨_, rfl⟩
      have hoff : off + I.toNat * 17 = o := by rw [← hI, ← ho]; simp
      have hoff' : off + J.toNat * 17 = o' := by rw [← hJ, ← ho']; simp
      have hI1 : I < l.length := by omega
      have hI0 : 0 ≤ I := by omega
      have hJ1 : J < l.length := by omega
      have hJ0 : 0 ≤ J := by omega
      have hz : (I == 0) = false := by simp; omega
      have hw : IntKind.i64.wrap (I - 1) = J := by rw [IntWalk.i64_in _ (by omega)]; omega
      rw [ho] at n0
      rw [ho'] at m0 m7
      rw [hI]
      clear hk HL hx HF hI hJ ho ho' hi lj
      generalize l.getD (j + 1) zS = s at *
      generalize l.getD j zS = t at *
      generalize kB l j = KJ at *
      generalize laB l j = LJ at *
      cases KJ with
      | false =>
        go_enter Tryz.func146, Tryz.ntmps146
        go_wp2_with fail
        go_ret
        exact ⟨rfl, rfl⟩
      | true =>
        cases LJ with
        | false =>
          go_enter Tryz.func146, Tryz.ntmps146
          go_wp2_with fail
          go_ret
          exact ⟨rfl, rfl⟩
        | true =>
          go_enter Tryz.func146, Tryz.ntmps146
          go_wp2_with fail
          go_ret
          exact ⟨rfl, rfl⟩
set_option maxHeartbeats 2000000 in
theorem pjn_any (l : List Sg) (i : Nat) (hi : i < l.length) (p : Option Addr) (cap : Nat) (w : World) (h : SlP w 17 p l.length cap (flatG l)) :
    Calls Tryz.prog 92 #[.slice p l.length cap, .int .i64 i] w fun e w' => e = .returned (.bool (jnB l i)) ∧ w = w' := by
  have f1 := h.fit
  have m1 := h.max
  have FI := Lib.hid (fun W h => pfst_any l i hi p cap W h)
  obtain ⟨b, off, rfl, hb, hs⟩ := h.sg (sg_some hi)
  have n0 := hs.e0
  have n7 := hs.e7
  have HL := Lib.hid h
  have hI1 : (i : Int) < l.length := by omega
  have hI0 : (0 : Int) ≤ i := by omega
  clear h hs
  have kj2 : ((l.getD i zS).kind != 4) = !(kB l i) := rfl
  have lj : (l.getD i zS).last = laB l i := rfl
  rw [lj] at n7
  cases hk : kB l i with
  | false =>
    rw [jn_free hk]
    rw [hk] at kj2
    clear hk HL FI lj n7
    generalize l.getD i zS = s at *
    go_enter Tryz.func92, Tryz.ntmps92
    go_wp2_with fail
    go_ret
    exact ⟨rfl, rfl⟩
  | true =>
    rw [hk] at kj2
    cases hl : laB l i with
    | true =>
      rw [jn_last hk hl]
      rw [hl] at n7
      have F1 := Lib.hid (FI.out w HL.out)
      generalize fstB l i = B at *
      clear hk hl HL FI lj
      generalize l.getD i zS = s at *
      go_enter Tryz.func92, Tryz.ntmps92
      go_wp2_with fail
      refine F1.out.mono ?_
      rintro e w1 ⟨rfl, rfl⟩
      go_wp2_with fail
      go_ret
      exact ⟨rfl, rfl⟩
    | false =>
      rw [jn_mid hk hl]
      rw [hl] at n7
      clear FI lj hk hl
      have hw : IntKind.i64.wrap ((i : Int) + 1) = (i : Int) + 1 := IntWalk.i64_in _ (by omega)
      by_cases hn : i + 1 < l.length
      · have hn1 : (i : Int) + 1 < l.length := by omega
        have hn0 : (0 : Int) ≤ (i : Int) + 1 := by omega
        obtain ⟨_, _, e9, _, hx⟩ := HL.out.sg (sg_some hn)
        injection e9 with e9
        injection e9 with e9 e10 _
        subst e9 e10
        have m0 := hx.e0
        have kj : ((l.getD (i + 1) zS).kind == 4) = kB l (i + 1) := rfl
        rw [decide_eq_true hn, Bool.true_and]
        clear HL hx hn
        generalize l.getD i zS = s at *
        generalize l.getD (i + 1) zS = t at *
        generalize kB l (i + 1) = KJ at *
        go_enter Tryz.func92, Tryz.ntmps92
        go_wp2_with fail
        go_ret
        exact ⟨rfl, rfl⟩
      · have hn1 : ¬ (i : Int) + 1 < l.length := by omega
        rw [decide_eq_false hn, Bool.false_and]
        clear HL hn
        generalize l.getD i zS = s at *
        go_enter Tryz.func92, Tryz.ntmps92
        go_wp2_with fail
        go_ret
        exact ⟨rfl, rfl⟩
set_option maxRecDepth 100000 in
set_option maxHeartbeats 4000000 in
theorem pchk_any (nm : ByteArray) (hnm : nm.size ≤ maxLen) (l : List Sg) (p : Option Addr) (cap : Nat) (w : World) (h : SlP w 17 p l.length cap (flatG l)) (T : TabS w) :
    Calls Tryz.prog 45 #[ptv nm p l.length cap] w fun e w' => e = .returned (.tuple #[.int .i64 (chkV (nameV nm.data.toList) l).1, .int .i64 (chkV (nameV nm.data.toList) l).2]) ∧ Below w.heap.size w w' := by
  have f1 := h.fit
  have m1 := h.max
  have NC := Lib.hid (fun W => wname_any nm W hnm)
  have HP := Lib.hid (pt_new w nm p l.length cap)
  have B1 := Lib.hid (w_alloc (w_refl w) (ptO nm p l.length cap))
  have HL := Lib.hid (h.later (w_alloc (w_refl w) (ptO nm p l.length cap)))
  have T1 := Lib.hid (T.al (ptO nm p l.length cap))
  have k0 := HP.out.cell (j := 0) rfl
  have k1 := HP.out.cell (j := 1) rfl
  clear h T
  generalize nameV nm.data.toList = NM at *
  cases NM with
  | false =>
    rw [chk_name]
    go_enter Tryz.func45, Tryz.ntmps45
    go_wp2_with fail
    refine (NC.out _).mono ?_
    rintro e w1 ⟨rfl, rfl⟩
    go_wp2_with fail
    go_ret2
    exact ⟨rfl, B1.out⟩
  | true =>
    by_cases hf : 400 < l.length
    · rw [chk_full hf]
      have hf' : (400 : Int) < l.length := by omega
      go_enter Tryz.func45, Tryz.ntmps45
      go_wp2_with fail
      refine (NC.out _).mono ?_
      rintro e w1 ⟨rfl, rfl⟩
      go_wp2_with fail
      go_ret2
      exact ⟨rfl, B1.out⟩
    have hf' : ¬ (400 : Int) < l.length := by omega
    have HH := Lib.hid (fun j hj he hb => chk_hit (l := l) hf (j := j) hj he hb)
    have HO := Lib.hid (fun hb => chk_ok (l := l) hf hb)
    have ON := Lib.hid (fun s W (T : TabS W) => pone_any s W T)
    have JN := Lib.hid (fun i hi W h => pjn_any l i hi p cap W h)
    have S1 := Lib.hid (fun i h => sgn_one (l := l) (i := i) h)
    have S0 := Lib.hid (fun i h k => sgn_ok (l := l) (i := i) h k)
    have S3 := Lib.hid (fun i h k => sgn_no (l := l) (i := i) h k)
    generalize chkV true l = R at *
    generalize sgnE l = E at *
    generalize jnB l = JB at *
    obtain ⟨r1, r2⟩ := R
    go_enter Tryz.func45, Tryz.ntmps45
    go_wp2_with fail
    refine (NC.out _).mono ?_
    rintro e w1 ⟨rfl, rfl⟩
    clear NC
    go_wp2_with fail
    clear k0 k1
    have b0 : w.heap.size < (w.alloc (ptO nm p l.length cap)).heap.size := HP.out.lt
    generalize w.alloc (ptO nm p l.length cap) = y at *
    go_loopw [17] (fun s17 wr => ∃ k : Nat, k ≤ l.length ∧ s17 = .int .i64 k ∧ Hid (∀ j, j < k → E j = 0) ∧ Hid (Below y.heap.size y wr)) (fun s17 _ => l.length - (intOf s17).toNat)
    case atStart => exact ⟨0, by omega, rfl, Lib.hid (fun j hj => by omega), Lib.hid (w_refl _)⟩
    case round =>
      obtain ⟨k, hk, rfl, hall, hbr⟩ := hrel
      rename World => wr
      by_cases hlt : k < l.length
      · have hlt' : (k : Int) < l.length := by omega
        have hk0 : (0 : Int) ≤ k := by omega
        obtain ⟨s, hs⟩ : ∃ s, l.getD k zS = s := ⟨_, rfl⟩
        have O1 := Lib.hid (ON.out s wr (T1.out.later hbr.out))
        have hsg := (HL.out.later hbr.out).sg (sg_some hlt)
        rw [hs] at hsg
        obtain ⟨b, off, hpp, _, hx⟩ := hsg
        have HX := Lib.hid hx
        have c1 := cell_later hbr.out (HP.out.cell (j := 1) rfl)
        have S1k := S1.out k
        have S0k := S0.out k
        have S3k := S3.out k
        rw [hs] at S1k S0k S3k
        clear S1 S0 S3 ON hx
        by_cases he : oneE s = 0
        · rw [he] at O1
          have J0 := Lib.hid (fun W h => JN.out k hlt W h)
          cases hj : JB k with
          | true =>
            have hEk := S0k he hj
            have hall2 := Lib.hid (show ∀ j, j < k + 1 → E j = 0 from fun j hj => by
              by_cases e : j = k
              · rw [e]; exact hEk
              · exact hall.out j (by omega))
            rw [hj] at J0
            clear S1k S0k S3k hEk he hj HH HO hall JN hs
            subst hpp
            go_wp2_with (first | (refine wl_load b (off + k * 17) s (by kernel_rfl) HX.out ?_) | fail)
            refine O1.out.mono ?_
            rintro e w2 ⟨rfl, hb⟩
            have hB := Lib.hid (w_below hbr.out hb)
            have c1' := cell_later hb c1
            clear hb O1 HX c1
            go_wp2_with fail
            refine (J0.out _ (HL.out.later hB.out)).mono ?_
            rintro e w3 ⟨rfl, rfl⟩
            clear J0
            go_wp2_with fail
            go_roundw
            case rel => exact ⟨k + 1, by omega, by go_num, hall2, hB⟩
            case measure => simp [intOf]; omega
          | false =>
            have hEk := S3k he hj
            have hfh := HH.out k hlt (by rw [hEk]; decide) hall.out
            have hfin := Lib.hid (show Ending.returned (Value.tuple #[.int .i64 r1, .int .i64 r2]) = .returned (.tuple #[.int .i64 3, .int .i64 (k : Int)]) by
              rw [Prod.mk.injEq] at hfh; rw [hfh.1, hfh.2, hEk])
            rw [hj] at J0
            clear S1k S0k S3k hEk he hj HH HO hall JN hs hfh
            subst hpp
            go_wp2_with (first | (refine wl_load b (off + k * 17) s (by kernel_rfl) HX.out ?_) | fail)
            refine O1.out.mono ?_
            rintro e w2 ⟨rfl, hb⟩
            have hB := Lib.hid (w_below hbr.out hb)
            have c1' := cell_later hb c1
            clear hb O1 HX c1
            go_wp2_with fail
            refine (J0.out _ (HL.out.later hB.out)).mono ?_
            rintro e w3 ⟨rfl, rfl⟩
            clear J0
            go_wp2_with fail
            go_ret2
            exact ⟨hfin.out.symm, w_below B1.out hB.out⟩
        · have hEk := S1k he
          have hfh := HH.out k hlt (by rw [hEk]; exact he) hall.out
          have hfin := Lib.hid (show Ending.returned (Value.tuple #[.int .i64 r1, .int .i64 r2]) = .returned (.tuple #[.int .i64 (oneE s), .int .i64 (k : Int)]) by
            rw [Prod.mk.injEq] at hfh; rw [hfh.1, hfh.2, hEk])
          have e1 : (oneE s == 0) = false := beq_eq_false_iff_ne.2 he
          have e2 : (oneE s != 0) = true := by simp [he]
          clear S1k S0k S3k hEk he HH HO hall JN hs hfh
          generalize oneE s = fe at *
          subst hpp
          go_wp2_with (first | (refine wl_load b (off + k * 17) s (by kernel_rfl) HX.out ?_) | fail)
          refine O1.out.mono ?_
          rintro e w2 ⟨rfl, hb⟩
          have hB := Lib.hid (w_below hbr.out hb)
          clear hb O1 HX c1
          go_wp2_with fail
          go_ret2
          exact ⟨hfin.out.symm, w_below B1.out hB.out⟩
      · have hlt' : ¬ (k : Int) < l.length := by omega
        have hfh := HO.out (fun j hj => hall.out j (by omega))
        have hfin := Lib.hid (show Ending.returned (Value.tuple #[.int .i64 r1, .int .i64 r2]) = .returned (.tuple #[.int .i64 0, .int .i64 0]) by
          rw [Prod.mk.injEq] at hfh; rw [hfh.1, hfh.2]; rfl)
        clear HH HO hall hfh S1 S0 S3 ON JN
        go_wp2_with fail
        go_ret2
        exact ⟨hfin.out.symm, w_below B1.out hbr.out⟩
end Go.Proofs.YtdmedealdhadcaaGreatDoor

namespace Go.Proofs.YtdmedealdhadcaaGreatDoor
open Go.RowKit Go.Shelf
theorem rowsI_own {A A' : World} {base : Nat} {v : Value} {rs : List Rw} {row : Option Nat} (h : RowsI A base v rs) (hg : A.grownBy A' row) (hr : ∀ r, row = some r → ∃ o : Obj, A.heap[r]? = some o ∧ o.isCells = false) : RowsI A' base v rs := by
  obtain ⟨vs, ho, ha⟩ := h
  exact ⟨vs, ownsRow_kept ho hg hr, ha.mono fun _ _ a b => ⟨a.keeps ⟨hg.size, fun _ _ hc => cell_kept hc hg hr⟩, b⟩⟩
theorem WordsV.put {A : World} {v : Value} {ws : List Wd} (h : WordsV A v ws) {m : Nat} {t : TypeId} {q : Option Addr} {n c : Nat} (hm : HoldsB A m t #[.slice q n c]) (u : Value) : WordsV (A.setCell ⟨m, 0, none⟩ u) v ws := by
  obtain ⟨p, cap, rfl, hs⟩ := h
  refine ⟨p, cap, rfl, hs.fit, hs.max, hs.nil, hs.len, fun h0 => ?_⟩
  obtain ⟨b, off, e, hb, hc⟩ := hs.at_ h0
  have hne : b ≠ m := by
    rintro rfl
    cases ws with
    | nil => simp at h0
    | cons x t =>
      have h1 := hc 0 (.int .i64 x.at_) rfl
      rw [Nat.add_zero] at h1
      have h2 : A.heap[b]? = _ := hm
      simp only [World.cell?, h2] at h1
      cases off with
      | zero => simp at h1
      | succ o => simp at h1
  exact ⟨b, off, e, by simpa using hb, fun j u hu => by rw [← hc j u hu]; exact World.cell?_of_block (Below.heap_setCell _ _ _ _ hne)⟩
theorem RowsI.put {A : World} {base : Nat} {v : Value} {rs : List Rw} (h : RowsI A base v rs) {m : Nat} {t : TypeId} {q : Option Addr} {n c : Nat} (hm : HoldsB A m t #[.slice q n c]) (ht : t ≠ 62) (u : Value) : RowsI (A.setCell ⟨m, 0, none⟩ u) base v rs := by
  obtain ⟨vs, ho, ha⟩ := h
  exact ⟨vs, own_put ho (own_ne ho hm ht) 0 u, ha.mono fun _ _ a b => ⟨a.put hm u, b⟩⟩
/-- A row is appended, the words of which are the call's own. -/
theorem RowsI.push {w A B : World} {base : Nat} {v v' vw : Value} {rs : List Rw} {ws : List Wd} {vs : List (Int × Value)} (ho : A.ownsRow base 62 2 v rs.length (flatR vs)) (ha : AllR A v.ownBlock vs rs)
    (hw : WdO w A vw ws) (hown : B.ownsRow base 62 2 v' (rs.length + 1) (flatR vs ++ flatR [(0, vw)])) (hg : A.grownBy B v.ownBlock) (hat : v'.ownBlock = v.ownBlock ∨ v'.ownBlock = some A.heap.size) : RowsI B base v' (rs ++ [⟨0, ws⟩]) := by
  have hwv : WordsV A vw ws := by obtain ⟨p, cap, e, hs⟩ := slice_of_own hw.row; exact ⟨p, cap, e, hs⟩
  refine RowsI.more ha hwv (fun k => ?_) hown hg hat
  obtain ⟨b, eb, _⟩ := hwv.block k
  rcases own_two ho hw.row (by decide) with e | e
  · rw [eb] at e; cases e
  · exact e
theorem WdO.words {w A : World} {v : Value} {ws : List Wd} (hw : WdO w A v ws) : WordsV A v ws := by obtain ⟨p, cap, e, hs⟩ := slice_of_own hw.row; exact ⟨p, cap, e, hs⟩
/-- The first k of n texts have been filled in. -/
def fillS (f : Nat → ByteArray) (n k : Nat) : Array Value := ((List.range n).map fun i => Value.string (if i < k then f i else emp)).toArray
theorem fillS_at (f : Nat → ByteArray) {n i : Nat} (k : Nat) (h : i < n) : (fillS f n k)[i]? = some (.string (if i < k then f i else emp)) := by
  unfold fillS; simp [List.getElem?_range h]
theorem fillS_size (f : Nat → ByteArray) (n k : Nat) : (fillS f n k).size = n := by unfold fillS; simp
theorem fillS_zero (f : Nat → ByteArray) (n : Nat) : madeCells #[.string emp] n = fillS f n 0 := by
  apply Array.ext_getElem?
  intro i
  by_cases h : i < n
  · rw [fillS_at f 0 h]; simp [madeCells, h, Nat.mod_one]
  · rw [Array.getElem?_eq_none (by rw [size_madeCells]; omega), Array.getElem?_eq_none (by rw [fillS_size]; omega)]
theorem fillS_put (f : Nat → ByteArray) (n k : Nat) : (fillS f n k).setIfInBounds k (.string (f k)) = fillS f n (k + 1) := by
  apply Array.ext_getElem?
  intro i
  by_cases hi : i < n
  · rw [fillS_at f (k + 1) hi]
    by_cases e : k = i
    · subst e
      rw [Array.getElem?_setIfInBounds_self_of_lt (by rw [fillS_size]; exact hi), if_pos (by omega)]
    · rw [Array.getElem?_setIfInBounds_ne e, fillS_at f k hi]
      by_cases g : i < k
      · rw [if_pos g, if_pos (by omega)]
      · rw [if_neg g, if_neg (by omega)]
  · rw [Array.getElem?_eq_none (by rw [Array.size_setIfInBounds, fillS_size]; omega), Array.getElem?_eq_none (by rw [fillS_size]; omega)]
theorem fillS_all (l : List Sg) : fillS (fun i => bytes (wdT (l.getD i zS))) l.length l.length = (l.map fun s => Value.string (bytes (wdT s))).toArray := by
  apply Array.ext_getElem?
  intro i
  by_cases h : i < l.length
  · rw [fillS_at _ _ h, if_pos h]
    simp [h]
  · rw [Array.getElem?_eq_none (by rw [fillS_size]; omega), Array.getElem?_eq_none (by simp; omega)]
theorem sl_lit {W : World} {b : Nat} {t : TypeId} {cs : Array Value} {n : Nat} (h : HoldsB W b t cs) (hn : cs.size = n) (hm : n ≤ 1000000) (ho : ∀ u ∈ cs.toList, u.oneCell' = true) : SlP W 1 (some ⟨b, 0, none⟩) n n cs.toList :=
  ⟨by simp [hn], Nat.le_refl _, by omega, fun e => (by cases e), ho, fun _ => ⟨b, 0, rfl, h.lt, fun j u hu => by rw [Nat.zero_add]; exact h.cell (by rw [← Array.getElem?_toList]; exact hu)⟩⟩
/-- What stands in the loop: the iterator's blocks, the rows so far. -/
structure TxI (w : World) (b1 b2 m6 : Nat) (q : Option Addr) (n c : Nat) (rs : List Rw) (A : World) : Prop where
  bel : Below w.heap.size w A
  ch1 : HoldsB A b1 35 #[.slice q n c]
  ch2 : HoldsB A b2 3 #[.int .i64 16]
  vr : ∃ qq cc, HoldsB A m6 57 #[.slice qq rs.length cc] ∧ RowsI A w.heap.size (.slice qq rs.length cc) rs
  le : w.heap.size ≤ m6
theorem TxI.later {w A B : World} {b1 b2 m6 : Nat} {q : Option Addr} {n c : Nat} {rs : List Rw} (h : TxI w b1 b2 m6 q n c rs A) (k : Below A.heap.size A B) : TxI w b1 b2 m6 q n c rs B := by
  obtain ⟨qq, cc, h1, h2⟩ := h.vr
  exact ⟨w_below h.bel k, h.ch1.later k, h.ch2.later k, ⟨qq, cc, h1.later k, h2.later k⟩, h.le⟩
theorem txI_from {w : World} {B : Nat} (hB : w.heap.size ≤ B) (b1 b2 m6 : Nat) (q : Option Addr) (n c : Nat) {β : Type} (rs : β → List Rw) : OwnFrom B (fun (s : β) A => TxI w b1 b2 m6 q n c (rs s) A) := by
  rintro s A A' row h hg hr
  obtain ⟨qq, cc, h1, h2⟩ := h.vr
  have K : ∀ {b : Nat} {t : TypeId} {cs : Array Value}, HoldsB A b t cs → HoldsB A' b t cs := fun h => holds_own _ _ (fun (_ : Unit) => _) () A A' row h hg (fun r e => (hr r e).2)
  exact ⟨h.bel.grown hg h.bel.size (fun j e => by have := (hr j e).1; omega), K h.ch1, K h.ch2, ⟨qq, cc, K h1, rowsI_own h2 hg (fun r e => (hr r e).2)⟩, h.le⟩
/-- What stands while a row is made and appended. -/
structure TxF (w : World) (b1 b2 m6 : Nat) (q : Option Addr) (n c : Nat) (qq : Option Addr) (nn cc : Nat) (W : World) : Prop where
  bel : Below w.heap.size w W
  ch1 : HoldsB W b1 35 #[.slice q n c]
  ch2 : HoldsB W b2 3 #[.int .i64 16]
  n6 : HoldsB W m6 57 #[.slice qq nn cc]
theorem TxF.later {w A B : World} {b1 b2 m6 : Nat} {q : Option Addr} {n c : Nat} {qq : Option Addr} {nn cc : Nat} (h : TxF w b1 b2 m6 q n c qq nn cc A) (k : Below A.heap.size A B) : TxF w b1 b2 m6 q n c qq nn cc B :=
  ⟨w_below h.bel k, h.ch1.later k, h.ch2.later k, h.n6.later k⟩
theorem rowsI_parts {W : World} {base : Nat} {v : Value} {rs : List Rw} (h : RowsI W base v rs) : ∃ vs, W.ownsRow base 62 2 v rs.length (flatR vs) ∧ AllR W v.ownBlock vs rs := h
theorem own_rowR {A : World} {base : Nat} {k : Nat} {v : Value} {n : Nat} {cs : List Value} (h : A.ownsRow base 62 k v n cs) : ∀ r, v.ownBlock = some r → ∃ o : Obj, A.heap[r]? = some o ∧ plainO o = false := by
  intro r hr
  rcases h.2 with ⟨rfl, _⟩ | ⟨g, cap, cur, rfl, _, hh, _⟩
  · cases hr
  · simp only [Value.ownBlock, Option.some.injEq] at hr
    subst hr
    exact ⟨_, hh, rfl⟩
theorem flatR_one1 (z : Int) (q : Option Addr) (n c : Nat) : ∀ u ∈ flatR [(z, .slice q n c)], u.oneCell' = true := by
  intro u hu
  simp only [flatR, List.mem_cons, List.not_mem_nil, or_false] at hu
  rcases hu with rfl | rfl <;> rfl
/-- The append of a row, and what stands behind it. -/
theorem TxF.push {w W B : World} {b1 b2 m6 : Nat} {q : Option Addr} {n c : Nat} {qq : Option Addr} {cc g cap : Nat} {vw : Value} {rs : List Rw} {ws : List Wd} {vs : List (Int × Value)} {A0 : World} (h : TxF w b1 b2 m6 q n c qq rs.length cc W)
    (ho : W.ownsRow w.heap.size 62 2 (.slice qq rs.length cc) rs.length (flatR vs)) (ha : AllR W (Value.slice qq rs.length cc).ownBlock vs rs) (hw : WdO A0 W vw ws) (hm : w.heap.size ≤ m6) (hb1 : b1 ≠ m6) (hb2 : b2 ≠ m6)
    (hown : B.ownsRow w.heap.size 62 2 (.slice (some ⟨g, 0, none⟩) (rs.length + 1) cap) (rs.length + 1) (flatR vs ++ flatR [(0, vw)])) (hg : W.grownBy B (Value.slice qq rs.length cc).ownBlock)
    (hat : (Value.slice (some ⟨g, 0, none⟩) (rs.length + 1) cap).ownBlock = (Value.slice qq rs.length cc).ownBlock ∨ (Value.slice (some ⟨g, 0, none⟩) (rs.length + 1) cap).ownBlock = some W.heap.size) :
    TxI w b1 b2 m6 q n c (rs ++ [⟨0, ws⟩]) (B.setCell ⟨m6, 0, none⟩ (.slice (some ⟨g, 0, none⟩) (rs.length + 1) cap)) ∧ HoldsB B m6 57 #[.slice qq rs.length cc] ∧ RowsI B w.heap.size (.slice (some ⟨g, 0, none⟩) (rs.length + 1) cap) (rs ++ [⟨0, ws⟩]) ∧ Below w.heap.size w B := by
  have k6 := h.n6.kept hg (own_ne ho h.n6 (by decide))
  have k1 := h.ch1.kept hg (own_ne ho h.ch1 (by decide))
  have k2 := h.ch2.kept hg (own_ne ho h.ch2 (by decide))
  have kb : Below w.heap.size w B := h.bel.grown hg h.bel.size (fun j e => (ho.lt j e).1)
  have kr := RowsI.push ho ha hw hown hg hat
  refine ⟨⟨w_put kb hm _ _, k1.other hb1 _ _, k2.other hb2 _ _, ⟨some ⟨g, 0, none⟩, cap, ?_, ?_⟩, hm⟩, k6, kr, kb⟩
  · rw [List.length_append]; exact k6.set 0 _
  · rw [List.length_append]; exact kr.put k6 (by decide) _
theorem range_mid {n x : Nat} {pre post : List Nat} (h : List.range n = pre ++ x :: post) : x = pre.length ∧ pre.length < n := by
  have hl := congrArg List.length h
  rw [List.length_range, List.length_append, List.length_cons] at hl
  have e1 : (List.range n)[pre.length]? = some x := by rw [h]; simp
  rw [List.getElem?_range (by omega)] at e1
  exact ⟨(Option.some.inj e1).symm, by omega⟩
end Go.Proofs.YtdmedealdhadcaaGreatDoor
