/- Lines whose words stand apart by any blanks, and texts that grow line by line: plain mathematics. Other divisions into rows, comments and more blanks do not change a part: the walk. -/
import Derived.Test.YtdmedealdhadcaaGreatDoorG21
import Derived.Test.YtdmedealdhadcaaGreatDoorG30

namespace Go.Proofs.YtdmedealdhadcaaGreatDoor
open Go.RowKit
/-- What stands on a line from here on: whether a word may begin here, its bytes, its words. -/
inductive Ln : Bool → List UInt8 → List (ByteArray × Bool) → Prop
  | fin {a : Bool} {P : List UInt8} (h : EndL P) : Ln a P []
  | blank {a : Bool} {l : List UInt8} {bs} (h : Ln true l bs) : Ln a (32 :: l) bs
  | word {x : Wd} {l : List UInt8} {bs} (hx : okW x = true) (hl : l = [] ∨ ∃ c R, l = c :: R ∧ (c = 32 ∨ c = 59)) (h : Ln false l bs) : Ln true (wordL x ++ l) ((x.text, x.quoted) :: bs)
theorem ln_cuts {s : ByteArray} {L : List UInt8} (hs : s.data.toList = L) (f : Int) {a : Bool} {l : List UInt8} {bs} (h : Ln a l bs) : ∀ {i : Nat}, i ≤ L.length → L.drop i = l → (a = true → i = 0 ∨ bt s (i - 1) = 32) → ∃ ws, Cuts s f i ws none ∧ bareW ws = bs := by
  have hsz : s.size = L.length := by rw [← hs]; simp
  induction h with
  | fin h =>
    intro i hi hd _
    exact ⟨[], endL_cuts hs f h hi hd, rfl⟩
  | blank _ ih =>
    intro i hi hd _
    obtain ⟨b0, b1, b2⟩ := drop_bt hs hd
    obtain ⟨ws, h1, h2⟩ := ih (by omega) b2 (fun _ => .inr (by rw [Nat.add_sub_cancel]; exact b1))
    exact ⟨ws, .blank b1 h1, h2⟩
  | word hx hl _ ih =>
    intro i hi hd hb
    obtain ⟨m1, m2, _⟩ := mid_bt hs _ hd
    obtain ⟨ws, h1, h2⟩ := ih (by omega) m1 (fun e => by cases e)
    refine ⟨_, word_cuts hs f _ hx hd hl (hb rfl) hi h1, ?_⟩
    show _ :: bareW ws = _
    rw [h2]
theorem endL_start {P : List UInt8} (h : EndL P) : P = [] ∨ ∃ c R, P = c :: R ∧ (c = 32 ∨ c = 59) := by
  cases h with
  | nil => exact .inl rfl
  | note l => exact .inr ⟨59, l, rfl, .inr rfl⟩
  | blank h => exact .inr ⟨32, _, rfl, .inl rfl⟩
theorem ln_start {l : List UInt8} {bs} (h : Ln false l bs) : l = [] ∨ ∃ c R, l = c :: R ∧ (c = 32 ∨ c = 59) := by
  cases h with
  | fin h => exact endL_start h
  | blank h => exact .inr ⟨32, _, rfl, .inl rfl⟩
/-- A line's beginning: what it says, and whether a word may follow at once. -/
def Pr (l : List UInt8) (bs : List (ByteArray × Bool)) (a : Bool) : Prop := ∀ l2 bs2, Ln a l2 bs2 → Ln true (l ++ l2) (bs ++ bs2)
theorem Pr.nil : Pr [] [] true := fun _ _ h => h
theorem Pr.word {l : List UInt8} {bs} (h : Pr l bs true) {x : Wd} (hx : okW x = true) : Pr (l ++ wordL x) (bs ++ [(x.text, x.quoted)]) false := fun l2 bs2 k => by
  have := h _ _ (Ln.word hx (ln_start k) k)
  simpa using this
theorem Pr.blank {l : List UInt8} {bs} {a : Bool} (h : Pr l bs a) : Pr (l ++ [32]) bs true := fun l2 bs2 k => by
  have := h _ _ (Ln.blank (a := a) k)
  simpa using this
/-- A line that is closed reads as its words. -/
theorem Pr.close {l P : List UInt8} {bs} {a : Bool} (h : Pr l bs a) (hP : EndL P) (hn : ∀ c ∈ l, c ≠ 10) (hp : ∀ c ∈ P, c ≠ 10) (hl : l.length + P.length ≤ 1000) : Reads (l ++ P ++ [10]) (if bs = [] then [] else [bs]) := by
  refine Reads.line (fun c hc => ?_) (by rw [List.length_append]; exact hl) (fun f s hs => ?_)
  · rcases List.mem_append.1 hc with hc | hc
    · exact hn c hc
    · exact hp c hc
  · have := h P [] (.fin hP)
    rw [List.append_nil] at this
    exact ln_cuts hs f this (i := 0) (by omega) (List.drop_zero ..) (fun _ => .inl rfl)
/-- A text whose last line has no end. -/
theorem last_line {A l : List UInt8} {bsA} (hA : Reads A bsA) {bs} (h : Ln true l bs) (hb : bs ≠ []) (hn : ∀ c ∈ l, c ≠ 10) (hl : l.length ≤ 1000) (hs : (A ++ l).length ≤ 20000) {rs : List Rw} {b : Option (Int × Int)} (k : RowsRes (bytes (A ++ l)) rs b) : b = none ∧ bareR rs = bsA ++ [bs] := by
  have hsz : (bytes (A ++ l)).size = A.length + l.length := by rw [bytes_size, List.length_append]
  have hd : (bytes (A ++ l)).data.toList.drop A.length = l := by rw [bytes_data, List.drop_left]
  obtain ⟨m1, m2, m3⟩ := mid_bt (s := bytes (A ++ l)) rfl l (R := []) (i := A.length) (by rw [hd]; simp)
  have hline : LineAt (bytes (A ++ l)) A.length (A.length + l.length) := by
    refine ⟨by omega, by omega, fun m h1 h2 e => ?_, .inl hsz.symm⟩
    obtain ⟨c, hc, e2⟩ := m3 m h1 h2
    rw [e2] at e
    refine hn c hc (UInt8.toNat_inj.1 ?_)
    show c.toNat = 10
    omega
  obtain ⟨ws, c1, c2⟩ := ln_cuts (s := (bytes (A ++ l)).extract A.length (A.length + l.length)) (extract_list rfl (R := []) (by rw [hd]; simp)) A.length h (i := 0) (by omega) (List.drop_zero ..) (fun _ => .inl rfl)
  have hws : ws ≠ [] := by
    rintro rfl
    exact hb c2.symm
  have hlast : RowsR (bytes (A ++ l)) A.length [⟨A.length, ws⟩] none := .row hline (by omega) c1 hws (.stop (by omega))
  obtain ⟨rs1, k1, e1⟩ := hA (bytes (A ++ l)) [] l (by rw [bytes_data]; rfl) [⟨A.length, ws⟩] none (by simpa using hlast)
  obtain ⟨r1, r2⟩ := k.one (show RowsRes (bytes (A ++ l)) (rs1 ++ [⟨A.length, ws⟩]) none from .inr ⟨by rw [hsz, ← List.length_append]; exact hs, _, k1, by simp⟩)
  refine ⟨r2, ?_⟩
  rw [r1]
  unfold bareR at *
  rw [List.map_append, e1]
  simp [c2]
/-! ### A text that grows sign by sign -/
def gapL (k : Nat) : List UInt8 := ([[32], [10], [32, 32, 32], [32, 59, 32, 83, 52, 10], [10, 10, 32, 32]] : List (List UInt8)).getD k []
def hdW (nm : ByteArray) : List (ByteArray × Bool) := bareW [mkW partB, mkW nm]
def psW (ps : List (List Sg)) : List (List (ByteArray × Bool)) := ps.map fun p => bareW (p.map wrdW)
theorem psW_add (ps : List (List Sg)) (p : List Sg) : psW (ps ++ [p]) = psW ps ++ [bareW (p.map wrdW)] := by simp [psW]
/-- The text so far: the rows that are closed, and the line that stands open. -/
structure Tx (nm : ByteArray) (l : List Sg) (T : List UInt8) (m : Nat) : Prop where
  ex : ∃ (A cl : List UInt8) (ps : List (List Sg)) (pc : List Sg), T = A ++ cl ∧ Reads A (hdW nm :: psW ps) ∧ Pr cl (bareW (pc.map wrdW)) true ∧ (∀ p ∈ ps, p ≠ []) ∧ ps.flatten ++ pc = l ∧ (∀ c ∈ cl, c ≠ 10) ∧ cl.length ≤ 12 * m + 2
  len : T.length ≤ 40 + 16 * m
theorem wordL_wrd (s : Sg) : wordL (wrdW s) = wdT s := by simp [wordL, wrdW, mkW, bytes_data]
theorem wd_len {s : Sg} (h : oneE s = 0) : (wdT s).length ≤ 9 := by rw [wd_ok h]; exact (word_plain h).2.2
theorem bare_add (pc : List Sg) (s : Sg) : bareW ((pc ++ [s]).map wrdW) = bareW (pc.map wrdW) ++ [((wrdW s).text, (wrdW s).quoted)] := by simp [bareW]
theorem bare_ne (pc : List Sg) (s : Sg) : bareW ((pc ++ [s]).map wrdW) ≠ [] := by rw [bare_add]; simp
theorem Tx.more {nm : ByteArray} {l : List Sg} {T : List UInt8} {m : Nat} (h : Tx nm l T m) (hm : m ≤ 64) {s : Sg} (hs : oneE s = 0) : ∀ k, k < 5 → Tx nm (l ++ [s]) (T ++ wdT s ++ gapL k) (m + 1) := by
  obtain ⟨⟨A, cl, ps, pc, rfl, hA, hP, hne, hl, hn, hc⟩, hlen⟩ := h
  have hw := wd_len hs
  have hok := okW_wrd hs
  have hno : ∀ c ∈ wdT s, c ≠ 10 := by have := word_no10 (wrdW s) hok; rwa [wordL_wrd] at this
  have h1 : Pr (cl ++ wdT s) (bareW ((pc ++ [s]).map wrdW)) false := by
    have := hP.word hok
    rwa [wordL_wrd, ← bare_add] at this
  have hn1 : ∀ c ∈ cl ++ wdT s, c ≠ 10 := fun c hc => (List.mem_append.1 hc).elim (hn c) (hno c)
  have hlen1 : ∀ k, k < 5 → (A ++ cl ++ wdT s ++ gapL k).length ≤ 40 + 16 * (m + 1) := by
    intro k hk
    have : (gapL k).length ≤ 6 := by
      have c : k = 0 ∨ k = 1 ∨ k = 2 ∨ k = 3 ∨ k = 4 := by omega
      rcases c with rfl | rfl | rfl | rfl | rfl <;> decide
    simp only [List.length_append] at hlen ⊢
    omega
  have hcl : (cl ++ wdT s).length ≤ 12 * m + 11 := by rw [List.length_append]; omega
  have hl1 : ps.flatten ++ (pc ++ [s]) = l ++ [s] := by rw [← hl, List.append_assoc]
  have hl2 : (ps ++ [pc ++ [s]]).flatten ++ [] = l ++ [s] := by rw [← hl1]; simp
  have hne2 : ∀ p ∈ ps ++ [pc ++ [s]], p ≠ [] := fun p hp => by
    rcases List.mem_append.1 hp with hp | hp
    · exact hne p hp
    · rw [List.mem_singleton.1 hp]; simp
  have cls : ∀ P, EndL P → (∀ c ∈ P, c ≠ 10) → P.length ≤ 10 → Reads (A ++ (cl ++ wdT s ++ P ++ [10])) (hdW nm :: psW (ps ++ [pc ++ [s]])) := by
    intro P hP hp hpl
    have := h1.close hP hn1 hp (by omega)
    rw [if_neg (bare_ne pc s)] at this
    rw [psW_add]
    exact Reads.app hA this
  have e10 : Reads [10] [] := Reads.line (l := []) (by simp) (by simp) (bs := []) (fun f s hs => ⟨[], .stop (by have h := congrArg List.length hs; rw [Array.length_toList] at h; exact h.symm), rfl⟩)
  intro k hk
  have c : k = 0 ∨ k = 1 ∨ k = 2 ∨ k = 3 ∨ k = 4 := by omega
  refine ⟨?_, hlen1 k hk⟩
  rcases c with rfl | rfl | rfl | rfl | rfl
  · refine ⟨A, cl ++ wdT s ++ [32], ps, pc ++ [s], by simp [gapL], hA, h1.blank, hne, hl1, ?_, by rw [List.length_append]; simp; omega⟩
    intro c hc
    rcases List.mem_append.1 hc with hc | hc
    · exact hn1 c hc
    · rw [List.mem_singleton.1 hc]; decide
  · exact ⟨A ++ (cl ++ wdT s ++ [] ++ [10]), [], ps ++ [pc ++ [s]], [], by simp [gapL], cls [] .nil (by simp) (by simp), Pr.nil, hne2, hl2, by simp, by simp⟩
  · refine ⟨A, cl ++ wdT s ++ [32] ++ [32] ++ [32], ps, pc ++ [s], by simp [gapL], hA, h1.blank.blank.blank, hne, hl1, ?_, by simp only [List.length_append, List.length_cons, List.length_nil] at hcl ⊢; omega⟩
    intro c hc
    rcases List.mem_append.1 hc with hc | hc
    · rcases List.mem_append.1 hc with hc | hc
      · rcases List.mem_append.1 hc with hc | hc
        · exact hn1 c hc
        · rw [List.mem_singleton.1 hc]; decide
      · rw [List.mem_singleton.1 hc]; decide
    · rw [List.mem_singleton.1 hc]; decide
  · exact ⟨A ++ (cl ++ wdT s ++ [32, 59, 32, 83, 52] ++ [10]), [], ps ++ [pc ++ [s]], [], by simp [gapL], cls _ (.blank (.note _)) (by decide) (by decide), Pr.nil, hne2, hl2, by simp, by simp⟩
  · refine ⟨A ++ (cl ++ wdT s ++ [] ++ [10]) ++ [10], [32, 32], ps ++ [pc ++ [s]], [], by simp [gapL], ?_, Pr.nil.blank.blank, hne2, hl2, by decide, by simp⟩
    have := Reads.app (cls [] .nil (by simp) (by simp)) e10
    rw [List.append_nil, List.append_nil] at this
    rwa [List.append_nil]
/-- The text, ended, is read as the part. -/
theorem Tx.last {nm : ByteArray} {l : List Sg} {T : List UInt8} {m : Nat} (h : Tx nm l T m) (hm : m ≤ 64) (hc : (chkV (nameV nm.data.toList) l).1 = 0) : prsV (bytes (T ++ [10, 101, 110, 100])) = ((nm, l), (0, 0)) := by
  obtain ⟨⟨A, cl, ps, pc, rfl, hA, hP, hne, hl, hn, hcl⟩, hlen⟩ := h
  have hcls := hP.close .nil hn (by simp) (by simp; omega)
  obtain ⟨ps', e1, e2, e3⟩ : ∃ ps', psW ps ++ (if bareW (pc.map wrdW) = [] then [] else [bareW (pc.map wrdW)]) = psW ps' ∧ (∀ p ∈ ps', p ≠ []) ∧ ps'.flatten = l := by
    by_cases hp : pc = []
    · subst hp
      exact ⟨ps, by simp [bareW], hne, by rw [← hl, List.append_nil]⟩
    · refine ⟨ps ++ [pc], ?_, fun p hp' => ?_, by rw [← hl]; simp⟩
      · rw [if_neg (by intro e; exact hp (by simpa [bareW] using e)), psW_add]
      · rcases List.mem_append.1 hp' with hp' | hp'
        · exact hne p hp'
        · rw [List.mem_singleton.1 hp']; exact hp
  have hR := Reads.app hA hcls
  rw [List.cons_append, e1] at hR
  have hln : Ln true [101, 110, 100] [(endB, false)] := Ln.word (x := mkW endB) (by decide +kernel) (.inl rfl) (.fin .nil)
  have eq : bytes (A ++ cl ++ [10, 101, 110, 100]) = bytes (A ++ (cl ++ [] ++ [10]) ++ [101, 110, 100]) := by simp
  rw [eq]
  obtain ⟨k1, k2⟩ := last_line hR hln (by simp) (by decide) (by decide) (by simp only [List.length_append, List.length_cons, List.length_nil] at hlen ⊢; omega) (rows_res _)
  have hr := rows_res (bytes (A ++ (cl ++ [] ++ [10]) ++ [101, 110, 100]))
  rw [k1] at hr
  refine prs_rows hc ps' e2 e3 hr ?_
  rw [k2]
  rfl
/-- The first row. -/
theorem tx_head {nm : ByteArray} (hn : nameV nm.data.toList = true) : Tx nm [] ([112, 97, 114, 116, 32] ++ nm.data.toList ++ [10]) 0 := by
  obtain ⟨hok, hn2, _⟩ := name_ok hn
  refine ⟨⟨_, [], [], [], (List.append_nil _).symm, ?_, Pr.nil, by simp, rfl, by simp, by simp⟩, by simp only [List.length_append, List.length_cons, List.length_nil]; omega⟩
  have e : lineL [mkW partB, mkW nm] = [112, 97, 114, 116, 32] ++ nm.data.toList := by simp [lineL, tailL, wordL, mkW]
  have := Reads.row 0 [mkW partB, mkW nm] (by show (okW (mkW partB) && (okW (mkW nm) && true)) = true; rw [hok]; decide +kernel) EndL.nil (by simp) (by rw [e]; simp only [List.length_append, List.length_cons, List.length_nil]; omega)
  rw [e, if_neg (by simp [bareW])] at this
  simpa [hdW, psW] using this
end Go.Proofs.YtdmedealdhadcaaGreatDoor

namespace Go.Proofs.YtdmedealdhadcaaGreatDoor
open Go.RowKit
/-- The rows of one sign's text: one row, one word. -/
theorem wone_any (s : Sg) (h : oneE s = 0) (w : World) : Calls Tryz.prog 30 #[.string (bytes (wordT s))] w fun e w' => ∃ b off cap p2 c2, e = .returned (.tuple #[.slice (some ⟨b, off, none⟩) 1 cap, .agg #[.int .i64 0, .int .i64 0]]) ∧ 1 ≤ cap ∧ cap ≤ 9223372036854775807 ∧ w'.cell? ⟨b, off + 1, none⟩ = some (.slice p2 1 c2) ∧ Below w.heap.size w w' := by
  have hlen := (word_plain h).2.2
  have hR := wrows_any (bytes (wordT s)) w (by rw [bytes_size]; omega)
  refine hR.mono ?_
  rintro e w1 ⟨rs, b, v, hres, hb, rfl, hv⟩
  have hln : Ln true (wordT s) [(bytes (wdT s), false)] := by
    have := Ln.word (x := wrdW s) (okW_wrd h) (.inl rfl) (.fin .nil)
    rwa [wordL_wrd, List.append_nil, wd_ok h] at this
  have hno : ∀ c ∈ wordT s, c ≠ 10 := by have := word_no10 (wrdW s) (okW_wrd h); rwa [wordL_wrd, wd_ok h] at this
  obtain ⟨k1, k2⟩ := last_line (A := []) Reads.nil hln (by simp) hno (by omega) (by rw [List.nil_append]; omega) hres
  subst k1
  rw [List.nil_append] at k2
  match rs, k2, hv with
  | [], k2, _ => simp [bareR] at k2
  | _ :: _ :: _, k2, _ => simp [bareR] at k2
  | [r], k2, hv =>
    have hw : bareW r.words = [(bytes (wdT s), false)] := by simpa [bareR] using k2
    have hl := bareW_len (b := [wrdW s]) (by rw [hw]; rfl)
    obtain ⟨b, off, cap, p2, c2, rfl, _, g1, g2, _, g3, _⟩ := rows_at hv 0 (show 0 < 1 by decide)
    refine ⟨b, off, cap, p2, c2, rfl, g1, g2, ?_, hb⟩
    have : (([r].getD 0 noRw).words).length = 1 := hl
    rw [this] at g3
    simpa using g3
theorem txt0 : (⟨#[112, 97, 114, 116, 32]⟩ : ByteArray) ++ prtB ++ ⟨#[10]⟩ = bytes ([112, 97, 114, 116, 32] ++ prtB.data.toList ++ [10]) := by decide +kernel
set_option maxRecDepth 100000 in
set_option maxHeartbeats 16000000 in
theorem lloose_any (p p2 : Option Addr) (cap cap2 : Nat) (zs gs : List Int) (hzs : ∀ z ∈ zs, -9223372036854775808 ≤ z ∧ z ≤ 9223372036854775807) (hgs : ∀ z ∈ gs, -9223372036854775808 ≤ z ∧ z ≤ 9223372036854775807) (w : World) (hp : SlP w 1 p zs.length cap (ints zs)) (hp2 : SlP w 1 p2 gs.length cap2 (ints gs)) (T : TabN w) :
    Calls Tryz.prog 9 #[.slice p zs.length cap, .slice p2 gs.length cap2] w fun e w' => e = .returned (.bool true) ∧ Below w.heap.size w w' := by
  have f1 := hp.fit
  have f2 := hp.max
  have f3 := hp2.fit
  have f4 := hp2.max
  have HT := Lib.hid (fun V (b : Below w.heap.size w V) => T.later b)
  have HN := Lib.hid (fun V (b : Below w.heap.size w V) => hp.later b)
  have HG := Lib.hid (fun V (b : Below w.heap.size w V) => hp2.later b)
  have KN := Lib.hid (lknown_any w T)
  have HZ := Lib.hid hzs
  have HQ := Lib.hid hgs
  clear T hp hp2 hzs hgs
  go_enter Tryz.func9, Tryz.ntmps9
  go_wp2_with fail
  refine KN.out.mono ?_
  rintro e w1 ⟨rfl, hb⟩
  have B := Lib.hid hb
  clear hb KN
  go_wp2_with fail
  refine (kmens_any zs.length (by omega) _).mono ?_
  rintro e w5 ⟨⟨q, hq, rfl⟩, hb⟩
  replace B := Lib.hid (w_below B.out hb)
  clear hb
  go_wp2_with fail
  refine (kline_any q hq p cap zs HZ.out _ (HN.out _ B.out)).mono ?_
  rintro e w6 ⟨qa, ca, l, rfl, hsl, hb, hl, hpl⟩
  have hc := Lib.hid (show (chkV (nameV prtB.data.toList) l).1 = 0 by rw [prt_ok, pl_chk hpl (by omega)])
  have SM := Lib.hid (samePart_any prtB l)
  have P16 := Lib.hid (pt_new w6 prtB qa l.length ca)
  have SL := Lib.hid (hsl.later (w_alloc (w_refl w6) (ptO prtB qa l.length ca)))
  replace B := Lib.hid (w_alloc (w_below B.out hb) (ptO prtB qa l.length ca))
  have HPL := Lib.hid hpl
  have hfit := hsl.fit
  have hmax := hsl.max
  clear hb hsl hpl hq HN HZ
  go_upto_region 3 with (fail)
  obtain ⟨m6, hm6⟩ : ∃ m6, w6.heap.size = m6 := ⟨_, rfl⟩
  try rw [hm6] at P16
  try rw [hm6]
  change Code.wp _ _ _ _ (w6.alloc (ptO prtB qa l.length ca))
  generalize w6.alloc (ptO prtB qa l.length ca) = y at *
  clear hm6
  have k0 := P16.out.cell (j := 0) rfl
  have sz1 : ¬ 9223372036854775807 < (⟨#[112, 97, 114, 116, 32]⟩ : ByteArray).size + prtB.size := by decide
  have sz2 : ¬ 9223372036854775807 < ((⟨#[112, 97, 114, 116, 32]⟩ : ByteArray) ++ prtB).size + (⟨#[10]⟩ : ByteArray).size := by decide
  go_wp2_with fail
  clear k0 sz1 sz2
  go_loopw [7, 8] (fun t i wr => ∃ (k : Nat) (tx : List UInt8), i = .int .i64 k ∧ t = .string (bytes tx) ∧ k ≤ l.length ∧ Hid (Tx prtB (l.take k) tx k) ∧ Hid (Below y.heap.size y wr)) (fun _ i _ => l.length - (intOf i).toNat)
  case atStart => exact ⟨0, _, rfl, congrArg Value.string txt0, Nat.zero_le _, Lib.hid (tx_head prt_ok), Lib.hid (w_refl y)⟩
  case round =>
    obtain ⟨k, tx, rfl, rfl, hk, hX, hB⟩ := hrel
    have k0 := cell_later hB.out (P16.out.cell (j := 0) rfl)
    have k1 := cell_later hB.out (P16.out.cell (j := 1) rfl)
    by_cases hlt : k < l.length
    · have hlt' : (k : Int) < l.length := by omega
      have hk0 : (0 : Int) ≤ k := by omega
      have x5 : IntKind.i64.wrap ((k : Int) + 1) = (k : Int) + 1 := IntWalk.i64_in _ (by omega)
      obtain ⟨bz, oz, rfl, -, hsg⟩ := (SL.out.later hB.out).sg (i := k) (s := l.getD k zS) (by simp [List.getD, List.getElem?_eq_getElem hlt])
      have ho : oneE (l.getD k zS) = 0 := (HPL.out _ (by rw [List.getD_eq_getElem?_getD, List.getElem?_eq_getElem hlt]; exact List.getElem_mem hlt)).1
      have NX := Lib.hid (fun g hg => hX.out.more (by omega) ho g hg)
      have tk : l.take k ++ [l.getD k zS] = l.take (k + 1) := by rw [List.take_add_one, List.getD_eq_getElem?_getD, List.getElem?_eq_getElem hlt]; rfl
      rw [tk] at NX
      have tl := hX.out.len
      generalize l.getD k zS = s at *
      rw [wd_ok ho] at NX
      have HSg := Lib.hid hsg
      have PW := Lib.hid (pww_any s ho)
      have WO := Lib.hid (wone_any s ho)
      have hwl := (word_plain ho).2.2
      clear hsg tk
      go_wp2_with (first | (with_reducible refine wl_load bz (oz + k * 17) s (by kernel_rfl) HSg.out ?_) | fail)
      refine (PW.out _ (HT.out _ (w_below B.out hB.out))).mono ?_
      rintro e w7 ⟨rfl, hb⟩
      replace hB := Lib.hid (w_below hB.out hb)
      clear hb PW HSg k0 k1
      go_wp2_with fail
      refine (WO.out _).mono ?_
      rintro e w8 ⟨b, off, c8, p8, c9, rfl, g1, g2, g3, hb⟩
      replace hB := Lib.hid (w_below hB.out hb)
      clear hb WO
      have g1' : (1 : Int) ≤ c8 := by omega
      have g4 := cell_later (w_alloc (w_refl w8) (.cells #[.int .i64 0, .int .i64 0] 43)) g3
      have hB9 := Lib.hid (w_alloc hB.out (.cells #[.int .i64 0, .int .i64 0] 43))
      go_upto_region 11 with (fail)
      have z1 : ¬ 9223372036854775807 < (bytes tx).size + (bytes (wordT s)).size := by rw [bytes_size, bytes_size]; omega
      have zz : ∀ G : ByteArray, G.size ≤ 6 → ¬ 9223372036854775807 < (bytes tx ++ bytes (wordT s)).size + G.size := fun G hG => by
        rw [bytes_app, bytes_size, List.length_append]; omega
      have hap : bytes tx ++ bytes (wordT s) = bytes (tx ++ wordT s) := bytes_app _ _
      go_wp2_with fail
      refine (ats_any p2 cap2 gs k _ (HG.out _ (w_below B.out (w_alloc hB9.out _))) (by omega)).mono ?_
      rintro e w9 ⟨rfl, e3⟩
      subst e3
      go_wp2_with fail
      refine (mod_any (gs.getD k 0) 5 _ (getD_bdsL HQ.out k).1 (getD_bdsL HQ.out k).2 (by decide) (by decide)).mono ?_
      rintro e w10 ⟨rfl, e4⟩
      subst e4
      obtain ⟨n, hn, hn5⟩ : ∃ n, gs.getD k 0 % 5 = n ∧ (n = 0 ∨ n = 1 ∨ n = 2 ∨ n = 3 ∨ n = 4) := ⟨_, rfl, by omega⟩
      rw [hn]
      clear hn g3 g4 g1 g1' g2
      rcases hn5 with rfl | rfl | rfl | rfl | rfl
      · have z2 := zz ⟨#[32]⟩ (by decide)
        clear zz
        go_wp2_with fail
        go_roundw
        case rel => exact ⟨k + 1, tx ++ wordT s ++ gapL 0, rfl, congrArg Value.string (by rw [show (⟨#[32]⟩ : ByteArray) = bytes (gapL 0) from rfl, bytes_app]), by omega, Lib.hid (NX.out 0 (by decide)), Lib.hid (w_alloc hB9.out _)⟩
        case measure => simp [intOf]; omega
      · have z2 := zz ⟨#[10]⟩ (by decide)
        clear zz
        go_wp2_with fail
        go_roundw
        case rel => exact ⟨k + 1, tx ++ wordT s ++ gapL 1, rfl, congrArg Value.string (by rw [show (⟨#[10]⟩ : ByteArray) = bytes (gapL 1) from rfl, bytes_app]), by omega, Lib.hid (NX.out 1 (by decide)), Lib.hid (w_alloc hB9.out _)⟩
        case measure => simp [intOf]; omega
      · have z2 := zz ⟨#[32, 32, 32]⟩ (by decide)
        clear zz
        go_wp2_with fail
        go_roundw
        case rel => exact ⟨k + 1, tx ++ wordT s ++ gapL 2, rfl, congrArg Value.string (by rw [show (⟨#[32, 32, 32]⟩ : ByteArray) = bytes (gapL 2) from rfl, bytes_app]), by omega, Lib.hid (NX.out 2 (by decide)), Lib.hid (w_alloc hB9.out _)⟩
        case measure => simp [intOf]; omega
      · have z2 := zz ⟨#[32, 59, 32, 83, 52, 10]⟩ (by decide)
        clear zz
        go_wp2_with fail
        go_roundw
        case rel => exact ⟨k + 1, tx ++ wordT s ++ gapL 3, rfl, congrArg Value.string (by rw [show (⟨#[32, 59, 32, 83, 52, 10]⟩ : ByteArray) = bytes (gapL 3) from rfl, bytes_app]), by omega, Lib.hid (NX.out 3 (by decide)), Lib.hid (w_alloc hB9.out _)⟩
        case measure => simp [intOf]; omega
      · have z2 := zz ⟨#[10, 10, 32, 32]⟩ (by decide)
        clear zz
        go_wp2_with fail
        go_roundw
        case rel => exact ⟨k + 1, tx ++ wordT s ++ gapL 4, rfl, congrArg Value.string (by rw [show (⟨#[10, 10, 32, 32]⟩ : ByteArray) = bytes (gapL 4) from rfl, bytes_app]), by omega, Lib.hid (NX.out 4 (by decide)), Lib.hid (w_alloc hB9.out _)⟩
        case measure => simp [intOf]; omega
    · have hk9 : k = l.length := by omega
      have hX9 := hX.out
      rw [List.take_of_length_le (by omega)] at hX9
      have tl := hX9.len
      have FIN := hX9.last (by omega) hc.out
      have PP := Lib.hid (fun (V : World) (T : TabN V) => show Calls Tryz.prog 19 #[.string (bytes tx ++ ⟨#[10, 101, 110, 100]⟩)] V _ from by
        have := pparse_any (bytes (tx ++ [10, 101, 110, 100])) (by rw [bytes_size, List.length_append]; simp; omega) V T.s
        unfold PrP at this
        rw [FIN, ← bytes_app] at this
        exact this)
      have z3 : ¬ 9223372036854775807 < (bytes tx).size + (⟨#[10, 101, 110, 100]⟩ : ByteArray).size := by rw [bytes_size]; show ¬ 9223372036854775807 < tx.length + 4; omega
      clear FIN hX9 hX
      go_wp2_with fail
      refine (PP.out _ (HT.out _ (w_below B.out hB.out))).mono ?_
      rintro e w8 ⟨pb, cb, rfl, hs2, hb⟩
      replace hs2 : SlP w8 17 pb l.length cb (flatG l) := hs2
      replace hB := Lib.hid (w_below hB.out hb)
      have b9 := w_alloc (w_alloc (w_refl w8) (ptO prtB pb l.length cb)) (.cells #[.int .i64 0, .int .i64 0] 43)
      have P19 := Lib.hid ((pt_new w8 prtB pb l.length cb).al (.cells #[.int .i64 0, .int .i64 0] 43))
      have F20 := Lib.hid (HoldsB.new (w8.alloc (ptO prtB pb l.length cb)) 43 #[.int .i64 0, .int .i64 0])
      rw [World.size_alloc] at F20
      have P6 := Lib.hid ((P16.out.later hB.out).later b9)
      have S6 := Lib.hid ((SL.out.later hB.out).later b9)
      have S19 := Lib.hid (hs2.later b9)
      have BB := Lib.hid (w_below (w_below B.out hB.out) b9)
      unfold ftV
      clear hb hs2 PP b9 k0 k1 hB P16 SL
      go_upto_region 13 with (fail)
      obtain ⟨m19, hm19⟩ : ∃ m19, w8.heap.size = m19 := ⟨_, rfl⟩
      try rw [hm19] at P19
      try rw [hm19] at F20
      try rw [hm19]
      change Code.wp _ _ _ _ ((w8.alloc (ptO prtB pb l.length cb)).alloc (.cells #[.int .i64 0, .int .i64 0] 43))
      generalize (w8.alloc (ptO prtB pb l.length cb)).alloc (.cells #[.int .i64 0, .int .i64 0] 43) = y8 at *
      clear hm19
      have k0 := P6.out.cell (j := 0) rfl
      have k1 := P6.out.cell (j := 1) rfl
      have j0 := P19.out.cell (j := 0) rfl
      have j1 := P19.out.cell (j := 1) rfl
      have e0 := F20.out.cell (j := 0) rfl
      go_wp2_with fail
      refine (SM.out qa pb ca cb _ S6.out S19.out).mono ?_
      rintro e w9 ⟨rfl, hb⟩
      replace BB := Lib.hid (w_below BB.out hb)
      clear hb SM S6 S19 k0 k1 j0 j1 e0
      go_wp2_with fail
      go_ret
      exact ⟨rfl, BB.out⟩
end Go.Proofs.YtdmedealdhadcaaGreatDoor
