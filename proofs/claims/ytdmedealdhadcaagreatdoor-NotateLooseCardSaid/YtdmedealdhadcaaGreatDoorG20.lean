/- What part a text is, or which fault: plain mathematics. A row of words that are not quoted, of the program. slices.Chunk: the pieces of a list of signs. 'for x := range seq': an iterator's contract that says which elements come, in this order; and the loop's law over it. slices.Chunk's iterator: the pieces of a list of signs, sixteen signs a piece. The text of a part, as plain mathematics: the rows that the program writes, and the text itself. -/
import Derived.Test.YtdmedealdhadcaaGreatDoorG18
import Derived.Test.YtdmedealdhadcaaGreatDoorG19
import Derived.Test.YtdmedealdhadcaaGreatDoorG17
import Derived.RangeFuncNested
import Derived.RangeFuncBound
import Derived.RangeFuncCalls
import Derived.RangeFuncLeaves
import Derived.RangeFuncBox
import Derived.Shelf.Abstract
import Derived.Shelf.RegionOpen
import Derived.OwnWalkIn
import Derived.TacticsInMore
import Derived.LoopNIn
import Derived.LoopIn
import Derived.Deep.QuietTactic
import Derived.Test.YtdmedealdhadcaaGreatDoorG14

namespace Go.Proofs.YtdmedealdhadcaaGreatDoor
open Go.RowKit
abbrev emp : ByteArray := ⟨#[]⟩
abbrev PtV := ByteArray × List Sg
def noP : PtV := (emp, [])
/-- The rows of a text, and the fault. -/
def rowsA (T : ByteArray) : List Rw × Option (Int × Int) :=
  if 20000 < T.size then ([], some (4, 20000)) else (if (rowsF T (T.size + 2) 0).2 = none then (rowsF T (T.size + 2) 0).1 else [], (rowsF T (T.size + 2) 0).2)
theorem rows_all {T : ByteArray} {rs b} (h : RowsRes T rs b) : rs = (rowsA T).1 ∧ b = (rowsA T).2 := by
  unfold rowsA
  by_cases hs : 20000 < T.size
  · rw [if_pos hs]
    rcases h with ⟨_, e1, e2⟩ | ⟨h, _⟩
    · exact ⟨e1, e2⟩
    · omega
  · rw [if_neg hs]
    obtain ⟨e1, e2⟩ := rows_calc T (T.size + 2) (by omega) (by omega) h
    exact ⟨e2, e1⟩
theorem rows_res (T : ByteArray) : RowsRes T (rowsA T).1 (rowsA T).2 := by
  unfold rowsA
  by_cases hs : 20000 < T.size
  · rw [if_pos hs]; exact .inl ⟨hs, rfl, rfl⟩
  · rw [if_neg hs]; exact .inr ⟨by omega, _, rowsF_ok T _ 0 (by omega), rfl⟩
def headT (n : Int) (ws : List Wd) (rs : List Rw) : PtV × (Int × Int) :=
  if (headE ws).1 ≠ 0 then (noP, headE ws) else if (bodyV n rs [] []).2.2.1 ≠ 0 then (noP, (bodyV n rs [] []).2.2)
  else if (chkV (nameV (ws.getD 1 noWd).text.data.toList) (bodyV n rs [] []).1).1 ≠ 0 then
    (noP, ((chkV (nameV (ws.getD 1 noWd).text.data.toList) (bodyV n rs [] []).1).1, (bodyV n rs [] []).2.1.getD (chkV (nameV (ws.getD 1 noWd).text.data.toList) (bodyV n rs [] []).1).2 0))
  else (((ws.getD 1 noWd).text, (bodyV n rs [] []).1), (0, 0))
def prsR (n : Int) : List Rw → Option (Int × Int) → PtV × (Int × Int)
  | _, some f => (noP, f)
  | [], none => (noP, (9, n))
  | r :: rs, none => headT n r.words rs
/-- The part of a text, and the fault. -/
def prsV (T : ByteArray) : PtV × (Int × Int) := prsR T.size (rowsA T).1 (rowsA T).2
theorem ht_head {n : Int} {ws : List Wd} {rs : List Rw} (h : (headE ws).1 ≠ 0) : headT n ws rs = (noP, headE ws) := if_pos h
theorem ht_body {n : Int} {ws : List Wd} {rs : List Rw} (h : (headE ws).1 = 0) (k : (bodyV n rs [] []).2.2.1 ≠ 0) : headT n ws rs = (noP, (bodyV n rs [] []).2.2) := by
  unfold headT; rw [if_neg (by rw [h]; decide), if_pos k]
theorem ht_chk {n : Int} {ws : List Wd} {rs : List Rw} {B : List Sg × List Int × (Int × Int)} {c : Int × Nat} (h : (headE ws).1 = 0) (hB : bodyV n rs [] [] = B) (k : B.2.2.1 = 0)
    (hc : chkV (nameV (ws.getD 1 noWd).text.data.toList) B.1 = c) (z : c.1 ≠ 0) : headT n ws rs = (noP, (c.1, B.2.1.getD c.2 0)) := by
  unfold headT; rw [if_neg (by rw [h]; decide), hB, if_neg (by rw [k]; decide), hc, if_pos z]
theorem ht_ok {n : Int} {ws : List Wd} {rs : List Rw} {B : List Sg × List Int × (Int × Int)} (h : (headE ws).1 = 0) (hB : bodyV n rs [] [] = B) (k : B.2.2.1 = 0)
    (z : (chkV (nameV (ws.getD 1 noWd).text.data.toList) B.1).1 = 0) : headT n ws rs = (((ws.getD 1 noWd).text, B.1), (0, 0)) := by
  unfold headT; rw [if_neg (by rw [h]; decide), hB, if_neg (by rw [k]; decide), if_neg (by rw [z]; decide)]
/-- A head without a fault. -/
theorem head_zero {ws : List Wd} (h : (headE ws).1 = 0) : isW (ws.getD 0 noWd) partB = true ∧ ws.length = 2 ∧ (ws.getD 1 noWd).quoted = false ∧ nameV (ws.getD 1 noWd).text.data.toList = true := by
  unfold headE at h
  split at h
  · cases h
  rename_i h1
  split at h
  · cases h
  rename_i h2
  simp only [Bool.not_eq_false, Bool.and_eq_true, decide_eq_true_eq, Bool.not_eq_true'] at h1 h2
  exact ⟨h1.1, h1.2, h2.1, h2.2⟩
theorem body_len (n : Int) : ∀ (rs : List Rw) (zs : List Sg) (us : List Int), zs.length = us.length → (bodyV n rs zs us).1.length = (bodyV n rs zs us).2.1.length
  | [], _, _, _ => rfl
  | r :: rs, zs, us, h => by
    unfold bodyV
    split
    · exact h
    · split
      · rfl
      · exact body_len n rs _ _ (by simp [h])
theorem scan_lt {f : Nat → Int} : ∀ (n i : Nat), (scan f i n).1 ≠ 0 → (scan f i n).2 < i + n
  | 0, _, h => absurd rfl h
  | n + 1, i, h => by
    unfold scan at h ⊢
    split
    · show i < i + (n + 1); omega
    · rename_i k
      rw [if_neg k] at h
      have := scan_lt n (i + 1) h
      omega
theorem chk_lt {l : List Sg} (h : (chkV true l).1 ≠ 0) : (chkV true l).2 < l.length := by
  unfold chkV at h ⊢
  rw [if_neg (by decide)] at h ⊢
  split
  · show 0 < l.length; omega
  · rename_i k
    rw [if_neg k] at h
    have := scan_lt _ _ h
    omega
theorem prs_bad {T : ByteArray} {rs : List Rw} {f : Int × Int} (h : RowsRes T rs (some f)) : prsV T = (noP, f) := by
  unfold prsV; rw [← (rows_all h).1, ← (rows_all h).2]; cases rs <;> rfl
theorem prs_nil {T : ByteArray} (h : RowsRes T [] none) : prsV T = (noP, (9, (T.size : Int))) := by
  unfold prsV; rw [← (rows_all h).1, ← (rows_all h).2]; rfl
theorem prs_cons {T : ByteArray} {r : Rw} {rs : List Rw} (h : RowsRes T (r :: rs) none) : prsV T = headT T.size r.words rs := by
  unfold prsV; rw [← (rows_all h).1, ← (rows_all h).2]; rfl
theorem rows_fault {T : ByteArray} {rs : List Rw} {f : Int × Int} (h : RowsRes T rs (some f)) : f.1 ≠ 0 ∧ rs = [] := by
  rcases h with ⟨_, rfl, e⟩ | ⟨_, rs', hr, rfl⟩
  · obtain rfl := Option.some.inj e; exact ⟨by decide, rfl⟩
  · refine ⟨?_, rfl⟩
    generalize hb : some f = b at hr
    generalize (0 : Nat) = i0 at hr
    induction hr with
    | stop _ => cases hb
    | long _ _ => obtain rfl := Option.some.inj hb; exact (by decide : (4 : Int) ≠ 0)
    | bad _ _ _ => obtain rfl := Option.some.inj hb; exact (by decide : (3 : Int) ≠ 0)
    | skip _ _ _ _ ih => exact ih hb
    | row _ _ _ _ _ ih => exact ih hb
theorem rows_mod {T : ByteArray} {rs : List Rw} {b : Option (Int × Int)} (h : RowsRes T rs b) : Modest rs ∧ (∀ r ∈ rs, 0 < r.words.length) ∧ rs.length ≤ 20001 ∧ ∀ r ∈ rs, r.words.length ≤ 20000 := by
  rcases h with ⟨_, rfl, _⟩ | ⟨hs, rs', hr, rfl⟩
  · exact ⟨⟨Nat.zero_le _, fun r hr => by simp at hr⟩, fun r hr => by simp at hr, by decide, fun r hr => by simp at hr⟩
  · split
    · obtain ⟨h1, h2⟩ := rows_ok hr
      refine ⟨⟨by omega, fun r hr => ⟨by have := (h2 r hr).2.2.1; omega, fun x hx => by have := (h2 r hr).2.2.2 x hx; omega⟩⟩, fun r hr => List.length_pos_iff.2 (h2 r hr).1, by omega, fun r hr => by have := (h2 r hr).2.2.1; omega⟩
    · exact ⟨⟨Nat.zero_le _, fun r hr => by simp at hr⟩, fun r hr => by simp at hr, by decide, fun r hr => by simp at hr⟩
end Go.Proofs.YtdmedealdhadcaaGreatDoor

namespace Go.Proofs.YtdmedealdhadcaaGreatDoor
open Go.RowKit
def mkW (t : ByteArray) : Wd := ⟨0, t, false⟩
/-- A list of words of the call's own. -/
def WdO (w0 w : World) (v : Value) (ws : List Wd) : Prop := OwnL w0 w 101 3 v ws.length (flatW ws)
theorem WdO.start (w : World) : WdO w w (.slice none 0 0) [] := OwnL.start w _ _
theorem WdO.later {w0 w w1 : World} {v : Value} {ws : List Wd} (h : WdO w0 w v ws) (b : Below w.heap.size w w1) : WdO w0 w1 v ws := OwnL.later h b
theorem WdO.base {w0 w1 w : World} {v : Value} {ws : List Wd} (h : WdO w1 w v ws) (b : Below w0.heap.size w0 w1) : WdO w0 w v ws := ⟨w_below b h.bel, own_base h.row b.size⟩
theorem WdO.val {w0 w : World} {v : Value} {ws : List Wd} (h : WdO w0 w v ws) : ∃ q c, v = .slice q ws.length c := OwnL.val h
theorem WdO.app {w0 w wa w2 : World} {v v' : Value} {ws : List Wd} {x : Wd} (h : WdO w0 w v ws) (b : Below w.heap.size w wa) (hown : w2.ownsRow w0.heap.size 101 3 v' (ws.length + 1) (flatW ws ++ flatW [x])) (hg : wa.grownBy w2 v.ownBlock) : WdO w0 w2 v' (ws ++ [x]) := by
  unfold WdO
  rw [flatW_app, List.length_append]
  exact OwnL.app h b hown hg
section
variable {ops : Array Oper} {rest : List Oper} {t : TypeId} {ps : String} {af : Array Edge} {a : Act} {Q : Exit → Act → World → Prop}
theorem wl_appW {w0 w : World} {d : Tmp} {s x : Operand} {v : Value} {ws : List Wd} (z : ByteArray) (h : WdO w0 w v ws) (hn : ws.length ≤ 1000000) (hs : a.eval s = v) (hx : a.eval x = .slice (some ⟨w.heap.size, 0, none⟩) 1 1)
    (k : ∀ g cap w2, WdO w0 w2 (.slice (some ⟨g, 0, none⟩) (ws.length + 1) cap) (ws ++ [mkW z]) → (w.alloc (.cells #[.int .i64 0, .string z, .bool false] 101)).grownBy w2 v.ownBlock → wpList Tryz.prog ops Q rest (a.put (some d) (.slice (some ⟨g, 0, none⟩) (ws.length + 1) cap)) w2) :
    wpList Tryz.prog ops Q ({ dst := some d, op := .call { callee := .builtin .append, args := #[s, x], argTypes := #[60, 60] }, type := t, pos := ps, after := af, guard := none } :: rest) a (w.alloc (.cells #[.int .i64 0, .string z, .bool false] 101)) := by
  obtain ⟨i0, hi0, hz0, hz1, hz2⟩ := info_parts info_word
  refine wpList_append_lies _ rfl s x 60 rfl w0.heap.size 101 i0 (.agg #[.int .i64 0, .string ⟨#[]⟩, .bool false]) 3 32 Tryz.underlying60 hi0 hz0 hz1 hz2 rfl (by decide) v ws.length (flatW ws) hs (OwnL.later h (w_alloc (w_refl w) _)).row ⟨w.heap.size, 0, none⟩ 1 1 (flatW [mkW z]) hx rfl ?_ (flatW_one _) (by decide) (by unfold maxLen; omega) (by omega) (by have := h.bel.size; simp; omega) _ rfl ?_
  · exact World.news_of_block (HoldsB.new w 101 #[.int .i64 0, .string z, .bool false])
  · intro g cap w' h2 h3 h4 _
    exact k g cap w' (h.app (w_alloc (w_refl w) _) h2 h3) h3
end
theorem row_load {w : World} {b : Nat} {z : Int} {q : Option Addr} {n c : Nat} (hb : HoldsB w b 62 #[.int .i64 z, .slice q n c]) : (loadVar 62 ⟨b, 0, none⟩).run Tryz.prog w = .ok (.agg #[.int .i64 z, .slice q n c]) w :=
  run_loadVar_mid (P := Tryz.prog) w b 0 62 [.int .i64 z, .slice q n c] _ (holds_range hb) Tryz.underlying62 rfl (by kernel_rfl)
theorem WdO.put {w0 w : World} {v : Value} {ws : List Wd} (h : WdO w0 w v ws) {m : Nat} (hm : w0.heap.size ≤ m) (hne : some m ≠ v.ownBlock) (j : Nat) (u : Value) : WdO w0 (w.setCell ⟨m, j, none⟩ u) v ws := ⟨w_put h.bel hm j u, own_put h.row hne j u⟩
theorem getD_str (ts : List ByteArray) (k : Nat) (hk : k < ts.length) : (ts.map Value.string)[k]? = some (.string (ts.getD k ⟨#[]⟩)) := by simp [hk]
set_option maxRecDepth 100000 in
set_option maxHeartbeats 8000000 in
theorem prow_any (ts : List ByteArray) (p : Option Addr) (cap : Nat) (hn : ts.length ≤ 1000000) (w : World) (h : SlP w 1 p ts.length cap (ts.map .string)) :
    Calls Tryz.prog 46 #[.slice p ts.length cap] w fun e w' => ∃ v, e = .returned (.agg #[.int .i64 0, v]) ∧ WdO w w' v (ts.map mkW) := by
  have f1 := h.fit
  have m1 := h.max
  have R0 := Lib.hid ((HoldsB.new w 62 #[.int .i64 0, .slice none 0 0]).al (.cells #[.int .i64 0, .slice none 0 0] 62))
  have N0 := Lib.hid (HoldsB.new (w.alloc (.cells #[.int .i64 0, .slice none 0 0] 62)) 62 #[.int .i64 0, .slice none 0 0])
  have B0 := Lib.hid (w_alloc (w_alloc (w_refl w) (.cells #[.int .i64 0, .slice none 0 0] 62)) (.cells #[.int .i64 0, .slice none 0 0] 62))
  have H0 := Lib.hid (h.later B0.out)
  have h0 := Lib.hid h
  clear h
  go_enter Tryz.func46, Tryz.ntmps46
  go_wp2_with fail
  obtain ⟨m3, hm3⟩ : ∃ m3, (w.alloc (.cells #[.int .i64 0, .slice none 0 0] 62)).heap.size = m3 := ⟨_, rfl⟩
  have e3 : w.heap.size + 1 = m3 := by rw [← hm3]; simp
  rw [hm3] at N0
  try rw [e3]
  generalize World.alloc (World.alloc w _) _ = w1 at *
  clear hm3
  have S0 := Lib.hid (show WdO w w1 (.slice none 0 0) [] from (WdO.start w).later B0.out)
  have hm := Lib.hid (show w.heap.size ≤ m3 by omega)
  have hm1 := Lib.hid (show w.heap.size ≠ m3 by omega)
  have HB := Lib.hid (fun V (b : Below w.heap.size w V) => h0.out.later b)
  clear B0 H0 e3 h0
  go_loopw [8] (fun i wr => ∃ (k : Nat) (q : Option Addr) (c : Nat), k ≤ ts.length ∧ i = .int .i64 k ∧ Hid (HoldsB wr m3 62 #[.int .i64 0, .slice q k c]) ∧ Hid (HoldsB wr w.heap.size 62 #[.int .i64 0, .slice none 0 0]) ∧ Hid (WdO w wr (.slice q k c) ((ts.take k).map mkW))) (fun i _ => ts.length - (intOf i).toNat)
  case atStart => exact ⟨0, none, 0, by omega, rfl, N0, R0, S0⟩
  case round =>
    obtain ⟨k, q, c, hk, rfl, hN, hR, hW⟩ := hrel
    clear N0 R0 S0
    have n1 := hN.out.cell (j := 1) rfl
    by_cases hlt : k < ts.length
    · have hlt' : (k : Int) < ts.length := by omega
      have hk0 : (0 : Int) ≤ k := by omega
      obtain ⟨b, off, rfl, _, hc⟩ := (HB.out _ hW.out.bel).at_ (by omega)
      have z0 := hc k _ (getD_str ts k hlt)
      have htk : (ts.take (k + 1)).map mkW = (ts.take k).map mkW ++ [mkW (ts.getD k ⟨#[]⟩)] := by rw [List.take_succ_eq_append_getElem hlt, List.map_append, List.getD, List.getElem?_eq_getElem hlt]; rfl
      have hlen : ((ts.take k).map mkW).length = k := by rw [List.length_map, List.length_take]; omega
      replace htk := Lib.hid htk
      generalize ts.getD k ⟨#[]⟩ = z at *
      generalize hWS : (ts.take k).map mkW = WS at *
      subst hlen
      have NE := Lib.hid (own_ne (hW.out.later (w_alloc (w_refl wr) (.cells #[.int .i64 0, .string z, .bool false] 101))).row (hN.out.al (.cells #[.int .i64 0, .string z, .bool false] 101)) (by decide))
      have NR := Lib.hid (own_ne (hW.out.later (w_alloc (w_refl wr) (.cells #[.int .i64 0, .string z, .bool false] 101))).row (hR.out.al (.cells #[.int .i64 0, .string z, .bool false] 101)) (by decide))
      clear hc hWS
      go_wp2_with (first | (refine wl_appW z hW.out (by omega) (by kernel_rfl) (by kernel_rfl) ?_) | fail)
      intro g cp w2 hs hg
      replace hN := Lib.hid ((hN.out.al _).kept hg NE.out)
      replace hR := Lib.hid ((hR.out.al _).kept hg NR.out)
      have N2 := Lib.hid (own_ne hs.row hN.out (by decide))
      have HS := Lib.hid (hs.put hm.out N2.out 1 (.slice (some ⟨g, 0, none⟩) (WS.length + 1) cp))
      clear hs hg NE NR N2 n1 z0
      have n1 := hN.out.cell (j := 1) rfl
      have ff := hN.out.frozen 1
      go_wp2_with fail
      exact ⟨⟨WS.length + 1, some ⟨g, 0, none⟩, cp, by omega, by go_num, Lib.hid (hN.out.set 1 (.slice (some ⟨g, 0, none⟩) (WS.length + 1) cp)), Lib.hid (hR.out.over (Below.heap_setCell _ _ _ _ hm1.out)), Lib.hid (by rw [htk.out]; exact HS.out)⟩, by simp [intOf]; omega⟩
    · obtain rfl : k = ts.length := by omega
      have hlt' : ¬ ((ts.length : Int) < ts.length) := by omega
      rw [List.take_length] at hW
      have n0 := hN.out.cell (j := 0) rfl
      go_wp2_with (first | (refine wl_row 62 w.heap.size _ _ #[.int .i64 0, .slice q ts.length c] hR.out (by kernel_rfl) (by kernel_rfl) (by kernel_rfl) rfl (by kernel_rfl) ?_) | fail)
      intro W5 h5 hB5 ho
      have H5 := Lib.hid h5
      have HS := Lib.hid (show WdO w W5 (.slice q ts.length c) (ts.map mkW) from ⟨hB5 _ _ hW.out.bel (Nat.le_refl _), own_rest hW.out.row (own_ne hW.out.row hR.out (by decide)) ho⟩)
      clear h5 hB5 ho hW hN hR n0 n1
      go_wp2_with fail
      refine bodyPost_ret (v := .agg #[.int .i64 0, .slice q ts.length c]) ?_ rfl ⟨_, rfl, HS.out⟩
      exact res_row rfl (by kernel_rfl) (row_load H5.out)
end Go.Proofs.YtdmedealdhadcaaGreatDoor

namespace Go.Proofs.YtdmedealdhadcaaGreatDoor
open Go.RowKit
set_option maxHeartbeats 4000000 in
theorem pchunk_any (p : Option Addr) (n cap : Nat) (w : World) : Calls Tryz.prog 47 #[.slice p n cap, .int .i64 16] w fun e w' =>
    e = .returned (.func (.func 93) #[] #[.pointer (some ⟨w.heap.size, 0, none⟩), .pointer (some ⟨w.heap.size + 1, 0, none⟩)]) ∧
    Below w.heap.size w w' ∧ HoldsB w' w.heap.size 35 #[.slice p n cap] ∧ HoldsB w' (w.heap.size + 1) 3 #[.int .i64 16] := by
  have B := Lib.hid (w_alloc (w_alloc (w_refl w) (.cells #[.slice p n cap] 35)) (.cells #[.int .i64 16] 3))
  have H1 := Lib.hid ((HoldsB.new w 35 #[.slice p n cap]).al (.cells #[.int .i64 16] 3))
  have H2 := Lib.hid (HoldsB.new (w.alloc (.cells #[.slice p n cap] 35)) 3 #[.int .i64 16])
  rw [World.size_alloc] at H2
  go_enter Tryz.func47, Tryz.ntmps47
  go_wp2_with fail
  go_ret
  exact ⟨rfl, B.out, H1.out, H2.out⟩
end Go.Proofs.YtdmedealdhadcaaGreatDoor

namespace Go.Proofs.YtdmedealdhadcaaGreatDoor
open Go.RowKit Go.Shelf
attribute [local go_sem] Oper.semAt_some
/-- A block that no list of rows lies in. -/
def plainO : Obj → Bool
  | .cells _ t _ => decide (t ≠ 62)
  | _ => true
/-- What was made since block n came is as it was, lists of rows aside. -/
structure Mid (n : Nat) (A B : World) : Prop where
  size : A.heap.size ≤ B.heap.size
  same : ∀ k o, n ≤ k → A.heap[k]? = some o → plainO o = true → B.heap[k]? = some o
theorem Mid.refl (n : Nat) (A : World) : Mid n A A := ⟨Nat.le_refl _, fun _ _ _ h _ => h⟩
theorem Mid.trans {n : Nat} {A B C : World} (h : Mid n A B) (k : Mid n B C) : Mid n A C :=
  ⟨Nat.le_trans h.size k.size, fun i o hi hl hp => k.same i o hi (h.same i o hi hl hp) hp⟩
theorem Mid.mono {n n' : Nat} {A B : World} (h : Mid n A B) (k : n ≤ n') : Mid n' A B := ⟨h.size, fun i o hi hl hp => h.same i o (Nat.le_trans k hi) hl hp⟩
theorem Mid.bel (n : Nat) {A B : World} (b : Below A.heap.size A B) : Mid n A B := ⟨b.size, fun k _ _ hl _ => (b.block k (Array.getElem?_eq_some_iff.1 hl).1).trans hl⟩
theorem Mid.at_ {n k : Nat} {A B : World} {o : Obj} (h : Mid n A B) (hk : n ≤ k) (ho : A.heap[k]? = some o) (hp : plainO o = true) : B.heap[k]? = some o := h.same k o hk ho hp
theorem Mid.set (n : Nat) (A : World) {c : Nat} (hc : c < n) (j : Nat) (u : Value) : Mid n A (A.setCell ⟨c, j, none⟩ u) :=
  ⟨by simp, fun k _ hk h _ => (Below.heap_setCell _ _ _ _ (by simp only; omega)).trans h⟩
theorem Mid.putObj (n : Nat) (A : World) {l : Nat} (hc : l < n) (o : Obj) : Mid n A (A.putObj l o) :=
  ⟨by simp, fun k _ hk h _ => (World.putObj_heap_other (by omega)).trans h⟩
theorem Mid.row (n : Nat) {A B : World} {row : Option Nat} (hg : A.grownBy B row) (hr : ∀ r, row = some r → ∃ o : Obj, A.heap[r]? = some o ∧ plainO o = false) : Mid n A B :=
  ⟨hg.size, fun k o _ h hp => (hg.block k (Array.getElem?_eq_some_iff.1 h).1 (fun e => by
    obtain ⟨o', ho, hf⟩ := hr k e.symm
    rw [h] at ho; cases ho; rw [hp] at hf; cases hf)).trans h⟩
/-- The iterator g, which has captured lb, gives just the elements xs; it reads what C says of the world. -/
def Gives {α : Type} (g : Nat) (lb : Array Value) (enc : α → Value) (xs : List α) (C : World → Prop) : Prop :=
  ∀ (n l : Nat) (J : List α → World → Prop) (Jx : World → Prop) (W : World),
    (∀ pre A, J pre A → C A) → OwnFrom W.heap.size J → OwnFrom W.heap.size (fun (_ : Unit) A => Jx A) →
    (∀ (m : Nat) pre x post A, xs = pre ++ x :: post → J pre A → YieldAt Fence.wide m Tryz.prog l #[enc x] A fun e B => (e = .returned (.bool true) ∧ J (pre ++ [x]) B ∧ Mid W.heap.size A B) ∨ (e = .returned (.bool false) ∧ Jx B ∧ Mid W.heap.size A B)) →
    J [] W →
    CallsIn Fence.wide n Tryz.prog g (#[.func (.yield l) #[] #[]] ++ lb) W fun e B => (∃ v, e = .returned v) ∧ (J xs B ∨ Jx B)
/-- How the body of a round may be left: it goes on; it returns. -/
def roundEnd {α : Type} (B : Nat) (I : List α → World → Prop) (Ix : World → Prop) (xs : List α) (W : World) : Exit → Act → World → Prop
  | .normal, _, W' => Mid B W W' ∧ I xs W'
  | .ret, _, W' => Mid B W W' ∧ Ix W'
  | _, _, _ => False
set_option maxHeartbeats 1000000 in
theorem wpIn_gives {α : Type} {gf : Nat} {lb : Array Value} {enc : α → Value} {xs : List α} {C : World → Prop} (hseq : Gives gf lb enc xs C)
    {n : Nat} {g : Operand} {ps : Array Tmp} {assign body : Code} {Q : Exit → Act → World → Prop} {a : Act} {w : World}
    (hg : a.eval g = .func (.func gf) #[] lb) (eg : ∀ args w, (callFunc gf args).run Tryz.prog w = .ok (.enter gf args) w) (hps : ps.size = 1)
    (I : List α → World → Prop) (Ix : World → Prop) (hC : ∀ pre A, I pre A → C A) (hI : OwnFrom w.heap.size I) (hIx : OwnFrom w.heap.size (fun (_ : Unit) A => Ix A)) (h0 : I [] w)
    (Ax : α → Act → World → Prop) (hAx : ∀ x a', OwnFrom w.heap.size (fun (_ : Unit) A => Ax x a' A))
    (hassign : ∀ (m l : Nat) (pre : List α) (x : α) (W : World) (K : Act → World → Prop), w.heap.size ≤ W.heap.size → I pre W → (∀ a' W', Mid w.heap.size W W' → I pre W' → Ax x a' W' → K a' W') →
      assign.wpIn (Fence.wide.inRound l) m Tryz.prog (Exit.then K (fun _ _ _ => False)) { tmps := (ps.zip #[enc x]).foldl (fun t (p, v) => t.setIfInBounds p v) a.tmps, defers := [] } W)
    (hbody : ∀ (m l : Nat) (pre : List α) (x : α) (post : List α) (a' : Act) (W : World), xs = pre ++ x :: post → w.heap.size ≤ W.heap.size → I pre W → Ax x a' W → body.wpIn (Fence.wide.inRound l) m Tryz.prog (roundEnd w.heap.size I Ix (pre ++ [x]) W) a' W)
    (hdone : ∀ (D : Nat) (W : World), w.heap.size ≤ D → I xs W → W.heap[D]? = some (.deferred (some [])) → Q .normal { a with defers := { target := .collected D, args := #[] } :: a.defers } W)
    (hstop : ∀ (D : Nat) (W : World), w.heap.size ≤ D → Ix W → W.heap[D]? = some (.deferred (some [])) → Code.ret.wpIn Fence.wide n Tryz.prog Q { a with defers := { target := .collected D, args := #[] } :: a.defers } W) :
    (Code.rangeFunc g ps assign body).wpIn Fence.wide n Tryz.prog Q a w := by
  refine wpIn_rangeFunc ?_
  intro fn hfn
  obtain ⟨rec, hrec⟩ : ∃ rec : LoopState → Option Code → Loop, rec = fun st pe => { state := st, pending := pe, fn, tmps := a.tmps, params := ps, assign, body, defers := w.heap.size } := ⟨_, rfl⟩
  obtain ⟨W1, hW1⟩ : ∃ W1, (w.alloc (.deferred (some []))).alloc (.loop (rec .ready none)) = W1 := ⟨_, rfl⟩
  have hL1 : W1.heap[w.heap.size + 1]? = some (.loop (rec .ready none)) := by
    rw [← hW1]; have := World.alloc_heap_new (w.alloc (.deferred (some []))) (.loop (rec .ready none)); rwa [World.size_alloc] at this
  have hK1 : W1.heap[w.heap.size]? = some (.deferred (some [])) := by
    rw [← hW1]; exact (Below.heap_alloc _ _ _ (by simp)).trans (World.alloc_heap_new w _)
  have hS1 : W1.heap.size = w.heap.size + 2 := by rw [← hW1]; simp
  have hI1 : I [] W1 := by rw [← hW1]; exact hI.alloc _ (hI.alloc _ h0)
  refine ⟨w.heap.size + 1, [{ target := .collected w.heap.size, args := #[] }], W1, { target := .fn (.func gf) lb, args := #[.func (.yield (w.heap.size + 1)) #[] #[]] }, W1, gf,
    #[.func (.yield (w.heap.size + 1)) #[] #[]] ++ lb, W1, ?_, ?_, ?_, ?_, (fun h => by cases h), ?_⟩
  · rw [← hW1, hrec]; exact run_enterLoop_outer _ _ _ _ _
  · simp only [resolve, hg]
    simp [go_sem]
  · intro f' _; exact trivial
  · simp [invoke, go_sem, eg]
  · have keep : ∀ {k : Nat} {o : Obj} {A B : World} {row : Option Nat}, k < w.heap.size + 2 → A.grownBy B row → (∀ r, row = some r → W1.heap.size ≤ r ∧ ∃ o : Obj, A.heap[r]? = some o ∧ o.isCells = false) → A.heap[k]? = some o → B.heap[k]? = some o := by
      intro k o A B row hk hg hr h
      refine (hg.block k (Array.getElem?_eq_some_iff.1 h).1 (fun e => ?_)).trans h
      have := (hr k e.symm).1
      omega
    have low : ∀ {A : World} {row : Option Nat}, (∀ r, row = some r → W1.heap.size ≤ r ∧ ∃ o : Obj, A.heap[r]? = some o ∧ o.isCells = false) → (∀ r, row = some r → w.heap.size ≤ r ∧ ∃ o : Obj, A.heap[r]? = some o ∧ o.isCells = false) :=
      fun hr r e => ⟨by have := (hr r e).1; omega, (hr r e).2⟩
    refine (hseq (n - 1) (w.heap.size + 1)
      (fun pre W => I pre W ∧ W.heap[w.heap.size + 1]? = some (.loop (rec .ready none)) ∧ W.heap[w.heap.size]? = some (.deferred (some [])))
      (fun W => Ix W ∧ W.heap[w.heap.size + 1]? = some (.loop (rec .done (some .ret))) ∧ W.heap[w.heap.size]? = some (.deferred (some [])))
      W1 (fun pre A h => hC pre A h.1)
      (fun s A B row hs hg' hr => ⟨hI s A B row hs.1 hg' (low hr), keep (by omega) hg' hr hs.2.1, keep (by omega) hg' hr hs.2.2⟩)
      (fun s A B row hs hg' hr => ⟨hIx s A B row hs.1 hg' (low hr), keep (by omega) hg' hr hs.2.1, keep (by omega) hg' hr hs.2.2⟩)
      ?_ ⟨hI1, hL1, hK1⟩).mono ?_
    · -- a round
      rintro m pre x post W hx ⟨hi, hl, hd⟩
      have hlt : w.heap.size + 1 < W.heap.size := (Array.getElem?_eq_some_iff.1 hl).1
      have hy := run_yield (P := Tryz.prog) (args := #[enc x]) hl (by rw [hrec]; simp [hps])
      rw [hrec] at hy
      refine ⟨fn, _, assign, body, hy, roundIn_of_wpIn hfn (hassign m _ pre x W _ (by omega) hi ?_)⟩
      intro a' Wa hka hia hax
      have hla := hka.at_ (by omega) hl rfl
      have hda := hka.at_ (Nat.le_refl _) hd rfl
      have hlta : w.heap.size + 1 < Wa.heap.size := (Array.getElem?_eq_some_iff.1 hla).1
      refine ⟨_, run_beginRound hla (by rw [hrec]), ?_⟩
      obtain ⟨W2, hW2⟩ : ∃ W2, Wa.putObj (w.heap.size + 1) (.loop { rec .ready none with state := .busy }) = W2 := ⟨_, rfl⟩
      have hl2 : W2.heap[w.heap.size + 1]? = some (.loop { rec .ready none with state := .busy }) := by rw [← hW2]; exact World.putObj_heap_same hlta
      have hd2 : W2.heap[w.heap.size]? = some (.deferred (some [])) := by rw [← hW2]; exact (World.putObj_heap_other (by omega)).trans hda
      have hs2 : W2.heap.size = Wa.heap.size := by rw [← hW2]; simp
      have hi2 : I pre W2 := by rw [← hW2]; exact hI.putObj _ hia (by omega) hla rfl
      have hx2 : Ax x a' W2 := by rw [← hW2]; exact (hAx x a').putObj (s := ()) _ hax (by omega) hla rfl
      rw [hW2]
      refine wpIn_mono (hbody m _ pre x post a' W2 hx (by omega) hi2 hx2) ?_
      rintro e a3 W3 hp
      have mid : ∀ o : Obj, Mid w.heap.size W2 W3 → Mid W1.heap.size W (W3.putObj (w.heap.size + 1) o) := fun o hk =>
        ((hka.mono (by omega)).trans (by rw [← hW2]; exact Mid.putObj _ _ (by omega) _)).trans ((hk.mono (by omega)).trans (Mid.putObj _ _ (by omega) _))
      have fin : ∀ jump : Option Code, Mid w.heap.size W2 W3 →
          (Instr.endRound (w.heap.size + 1) jump).run Tryz.prog W3 = .ok (.bool jump.isNone) (W3.putObj (w.heap.size + 1) (.loop (rec (if jump.isNone then .ready else .done) jump))) ∧
          W3.heap[w.heap.size + 1]? = some (.loop { rec .ready none with state := .busy }) ∧ W3.heap[w.heap.size]? = some (.deferred (some [])) := fun jump hk => by
        have hl3 := hk.at_ (by omega) hl2 rfl
        have hd3 := hk.at_ (Nat.le_refl _) hd2 rfl
        have := run_endRound (P := Tryz.prog) jump hl3
        refine ⟨?_, hl3, hd3⟩
        rw [hrec] at this ⊢; exact this
      cases e with
      | normal =>
        obtain ⟨hk, hi3⟩ := hp
        obtain ⟨hr, hl3, hd3⟩ := fin none hk
        have hlt3 := (Array.getElem?_eq_some_iff.1 hl3).1
        exact ⟨_, _, hr, .inl ⟨rfl, ⟨hI.putObj _ hi3 (by omega) hl3 rfl, World.putObj_heap_same hlt3, (World.putObj_heap_other (by omega)).trans hd3⟩, mid _ hk⟩⟩
      | ret =>
        obtain ⟨hk, hi3⟩ := hp
        obtain ⟨hr, hl3, hd3⟩ := fin (some .ret) hk
        have hlt3 := (Array.getElem?_eq_some_iff.1 hl3).1
        exact ⟨_, _, hr, .inr ⟨rfl, ⟨hIx.putObj (s := ()) _ hi3 (by omega) hl3 rfl, World.putObj_heap_same hlt3, (World.putObj_heap_other (by omega)).trans hd3⟩, mid _ hk⟩⟩
      | exit id => exact hp.elim
      | goto l => exact hp.elim
      | panic ch => exact hp.elim
      | outgrown => exact hp.elim
    · -- behind the iterator
      rintro e W2 ⟨⟨v, rfl⟩, (⟨hi, hl, hd⟩ | ⟨hi, hl, hd⟩)⟩
      · have := run_endLoop (P := Tryz.prog) hl (by rw [hrec]; simp)
        refine ⟨none, _, by rw [hrec] at this; exact this, hdone _ _ (Nat.le_refl _) (hI.putObj _ hi (by omega) hl rfl) ((World.putObj_heap_other (by omega)).trans hd)⟩
      · have := run_endLoop (P := Tryz.prog) hl (by rw [hrec]; simp)
        refine ⟨some .ret, _, by rw [hrec] at this; exact this, hstop _ _ (Nat.le_refl _) (hIx.putObj (s := ()) _ hi (by omega) hl rfl) ((World.putObj_heap_other (by omega)).trans hd)⟩
end Go.Proofs.YtdmedealdhadcaaGreatDoor

namespace Go.Proofs.YtdmedealdhadcaaGreatDoor
open Go.RowKit Go.Shelf
attribute [local go_sem] Oper.semAt_some
/-- How many signs piece k has. -/
def chN (n k : Nat) : Nat := min 16 (n - 16 * k)
def chV (q : Option Addr) (n k : Nat) : Value := .slice (q.map (·.add (16 * k * 17))) (chN n k) (chN n k)
/-- How many pieces there are. -/
def chC (n : Nat) : Nat := (n + 15) / 16
/-- The iterator's two blocks. -/
def ChC (b1 b2 : Nat) (q : Option Addr) (n c : Nat) (W : World) : Prop := W.cell? ⟨b1, 0, none⟩ = some (.slice q n c) ∧ W.cell? ⟨b2, 0, none⟩ = some (.int .i64 16)
set_option maxRecDepth 100000 in
set_option maxHeartbeats 4000000 in
theorem chunk_gives (q : Option Addr) (n c : Nat) (hn : n ≤ 1000) (hc : n ≤ c) (hc2 : c ≤ 9223372036854775807) (hq : 0 < n → ∃ b off, q = some ⟨b, off, none⟩) (b1 b2 : Nat) :
    Gives 93 #[.pointer (some ⟨b1, 0, none⟩), .pointer (some ⟨b2, 0, none⟩)] (chV q n) (List.range (chC n)) (ChC b1 b2 q n c) := by
  intro m l J Jx W hC hJ hJx hY h0
  show CallsIn Fence.wide m Tryz.prog 93 #[.func (.yield l) #[] #[], .pointer (some ⟨b1, 0, none⟩), .pointer (some ⟨b2, 0, none⟩)] W _
  have HC := Lib.hid hC
  have HJ := Lib.hid hJ
  have HX := Lib.hid hJx
  have HY := Lib.hid hY
  have H0 := Lib.hid h0
  clear hC hJ hJx hY h0
  refine callsIn_of_wp Tryz.func93 rfl trivial ?_ rfl
  simp only [Tryz.ntmps93, List.size_toArray, List.length_cons, List.length_nil, Nat.reduceAdd, Nat.reduceSub, Array.replicate_succ, Array.replicate_zero, List.push_toArray, List.append_toArray, List.nil_append, List.cons_append]
  gi_wp2_with fail
  gi_loopw [4] (fun s4 wr => ∃ k : Nat, k ≤ chC n ∧ s4 = .int .i64 ((16 * k : Nat) : Int) ∧ Hid (J (List.range k) wr)) (fun s4 _ => 16 * chC n - (intOf s4).toNat)
  case atStart => exact ⟨0, Nat.zero_le _, rfl, H0⟩
  case round =>
    clear H0
    obtain ⟨k, hk, rfl, hj⟩ := hrel
    obtain ⟨c1, c2⟩ := HC.out _ _ hj.out
    have hch : chC n = (n + 15) / 16 := rfl
    obtain ⟨i, hi⟩ : ∃ i, 16 * k = i := ⟨_, rfl⟩
    rw [hi]
    by_cases hlt : i < n
    · have hlt' : (i : Int) < n := by omega
      have hkc : k < chC n := by omega
      obtain ⟨b, off, rfl⟩ := hq (by omega)
      have hci : ¬ c = i := by omega
      have hin : (i : Int) ≤ n := by omega
      have hic : (i : Int) ≤ c := by omega
      gi_wp2_with fail
      refine wpIn_wide.2 ?_
      go_quiet (fail)
      rename_i nq
      have hj1 := Lib.hid (show J (List.range k) (wr.drewN nq) from OwnFrom.bel HJ.out hj.out ⟨rfl, rfl, rfl, Nat.le_refl _, fun _ _ => rfl⟩)
      obtain ⟨d, hd⟩ : ∃ d, chN n k = d := ⟨_, rfl⟩
      have hmn : min (16 : Int) ((n - i : Nat) : Int) = (d : Int) := by rw [← hd]; unfold chN; omega
      have hid : ((i : Int) + (d : Int)).toNat - i = d := by omega
      have hd1 : 0 < d := by rw [← hd]; unfold chN; omega
      have hdn : i + d ≤ n := by rw [← hd]; unfold chN; omega
      have hpost : List.range (chC n) = List.range k ++ k :: (List.range (chC n)).drop (k + 1) := by
        have e1 := List.take_append_drop k (List.range (chC n))
        rw [List.drop_eq_getElem_cons (by simpa using hkc), List.getElem_range, List.take_range, Nat.min_eq_left hk] at e1
        exact e1.symm
      obtain ⟨fn, tmps, assign, body, hy, hR⟩ := HY.out (m - 1) (List.range k) k _ (wr.drewN nq) hpost hj1.out
      have hcv : chV (some ⟨b, off, none⟩) n k = .slice (some ⟨b, off + i * 17, none⟩) d d := by
        unfold chV; rw [hd, hi, Option.map_some, add_none]
      rw [hcv] at hy
      have HR := Lib.hid hR
      obtain ⟨c1', c2'⟩ := HC.out _ _ hj1.out
      have xi : IntKind.i64.wrap ((i : Int) + (d : Int)) = (i : Int) + (d : Int) := IntWalk.i64_in _ (by omega)
      have g1 : (i : Int) ≤ (i : Int) + (d : Int) := by omega
      have g2 : (i : Int) + (d : Int) ≤ c := by omega
      have g3 : (0 : Int) ≤ i := by omega
      have hci2 : ¬ (i + d) = i := by omega
      have hle1 : i ≤ i + d := by omega
      have hle2 : i + d ≤ c := by omega
      clear hR hcv hpost hj c1 c2
      generalize wr.drewN nq = w2 at *
      gi_wp2_with fail
      refine ⟨(fun h => by cases h), HR.out.mono ?_⟩
      rintro e w3 (⟨rfl, hj2, _⟩ | ⟨rfl, hx, _⟩)
      · have HN := Lib.hid (show J (List.range (k + 1)) w3 by rw [List.range_succ]; exact hj2)
        obtain ⟨_, c2⟩ := HC.out _ _ HN.out
        have x16 : IntKind.i64.wrap ((i : Int) + 16) = (i : Int) + 16 := IntWalk.i64_in _ (by omega)
        clear hj2 HR hy hj1 c1' c2'
        gi_wp2_with fail
        go_roundw
        case rel => exact ⟨k + 1, by omega, by congr 1; omega, HN⟩
        case measure => simp [intOf]; omega
      · have HN := Lib.hid hx
        clear hx HR hy hj1
        gi_wp2_with fail
        refine bodyPost_ret (results_none rfl _ _ _) rfl ?_
        exact ⟨⟨_, rfl⟩, .inr HN.out⟩
    · have hlt' : ¬ ((i : Int) < n) := by omega
      obtain rfl : k = chC n := by omega
      gi_wp2_with fail
      go_end0
      exact ⟨⟨_, rfl⟩, .inl hj.out⟩
end Go.Proofs.YtdmedealdhadcaaGreatDoor

namespace Go.Proofs.YtdmedealdhadcaaGreatDoor
open Go.RowKit
def wrdW (s : Sg) : Wd := mkW (bytes (wdT s))
def pieceS (l : List Sg) (k : Nat) : List Sg := (l.drop (16 * k)).take 16
def rowP (l : List Sg) (k : Nat) : Rw := ⟨0, (pieceS l k).map wrdW⟩
def row0 (nm : ByteArray) : Rw := ⟨0, [mkW partB, mkW nm]⟩
def rowZ : Rw := ⟨0, [mkW endB]⟩
def rowsB (nm : ByteArray) (l : List Sg) (k : Nat) : List Rw := row0 nm :: (List.range k).map (rowP l)
/-- The rows of a part. -/
def rowsT (nm : ByteArray) (l : List Sg) : List Rw := rowsB nm l (chC l.length) ++ [rowZ]
theorem rowsB_succ (nm : ByteArray) (l : List Sg) (k : Nat) : rowsB nm l (k + 1) = rowsB nm l k ++ [rowP l k] := by
  unfold rowsB; rw [List.range_succ, List.map_append]; rfl
theorem rowsB_len (nm : ByteArray) (l : List Sg) (k : Nat) : (rowsB nm l k).length = k + 1 := by simp [rowsB]
/-- The text of the signs from number i on. -/
def sgT : Nat → List Sg → List UInt8
  | _, [] => []
  | i, s :: t => (if i % 16 = 0 then 10 else 32) :: (wordT s ++ sgT (i + 1) t)
theorem sgT_app : ∀ (p r : List Sg) (i : Nat), sgT i (p ++ r) = sgT i p ++ sgT (i + p.length) r
  | [], r, i => by simp [sgT]
  | s :: p, r, i => by
    show (if i % 16 = 0 then (10 : UInt8) else 32) :: (wordT s ++ sgT (i + 1) (p ++ r)) = (if i % 16 = 0 then (10 : UInt8) else 32) :: (wordT s ++ sgT (i + 1) p) ++ sgT (i + (p.length + 1)) r
    rw [sgT_app p r (i + 1), show i + 1 + p.length = i + (p.length + 1) by omega]
    simp
def outT (nm : ByteArray) (l : List Sg) : List UInt8 := [112, 97, 114, 116, 32] ++ nm.data.toList ++ sgT 0 l ++ [10, 101, 110, 100, 10]
theorem sgT_tail : ∀ (p : List Sg) (i : Nat), (∀ s ∈ p, oneE s = 0) → i % 16 ≠ 0 → i % 16 + p.length ≤ 16 → sgT i p = tailL (p.map wrdW)
  | [], _, _, _, _ => rfl
  | s :: p, i, h, h0, h1 => by
    have hs := h s (List.mem_cons_self ..)
    show (if i % 16 = 0 then (10 : UInt8) else 32) :: (wordT s ++ sgT (i + 1) p) = 32 :: (wordL (wrdW s) ++ tailL (p.map wrdW))
    rw [if_neg h0]
    have ew : wordL (wrdW s) = wordT s := by
      show (bytes (wdT s)).data.toList = wordT s
      unfold wdT; rw [if_pos hs, bytes_data]
    rw [ew]
    cases p with
    | nil => rfl
    | cons x p =>
      simp only [List.length_cons] at h1
      rw [sgT_tail (x :: p) (i + 1) (fun y hy => h y (List.mem_cons_of_mem _ hy)) (by omega) (by simp only [List.length_cons]; omega)]
theorem sgT_line (p : List Sg) (k : Nat) (h : ∀ s ∈ p, oneE s = 0) (hp : p ≠ []) (hl : p.length ≤ 16) : sgT (16 * k) p = 10 :: lineL (p.map wrdW) := by
  cases p with
  | nil => exact absurd rfl hp
  | cons s p =>
    have hs := h s (List.mem_cons_self ..)
    show (if 16 * k % 16 = 0 then (10 : UInt8) else 32) :: (wordT s ++ sgT (16 * k + 1) p) = 10 :: (wordL (wrdW s) ++ tailL (p.map wrdW))
    rw [if_pos (by omega)]
    have ew : wordL (wrdW s) = wordT s := by
      show (bytes (wdT s)).data.toList = wordT s
      unfold wdT; rw [if_pos hs, bytes_data]
    rw [ew]
    simp only [List.length_cons] at hl
    rw [sgT_tail p (16 * k + 1) (fun y hy => h y (List.mem_cons_of_mem _ hy)) (by omega) (by omega)]
theorem take_step (l : List Sg) (k : Nat) : l.take (16 * (k + 1)) = l.take (16 * k) ++ pieceS l k := by
  unfold pieceS
  rw [show 16 * (k + 1) = 16 * k + 16 by omega, List.take_add]
theorem piece_ne (l : List Sg) (k : Nat) (h : 16 * k < l.length) : pieceS l k ≠ [] := by
  intro e
  have := congrArg List.length e
  simp [pieceS, List.length_take, List.length_drop] at this
  omega
theorem piece_len (l : List Sg) (k : Nat) : (pieceS l k).length = chN l.length k := by simp [pieceS, chN, List.length_take, List.length_drop]
theorem piece_mem {l : List Sg} {k : Nat} {s : Sg} (h : s ∈ pieceS l k) : s ∈ l := List.mem_of_mem_drop (List.mem_of_mem_take h)
theorem body_rows (nm : ByteArray) (l : List Sg) (h : ∀ s ∈ l, oneE s = 0) : ∀ k, k ≤ chC l.length → bodyL (rowsB nm l k) = [112, 97, 114, 116, 32] ++ nm.data.toList ++ sgT 0 (l.take (16 * k)) ++ [10]
  | 0, _ => by
    show lineL [mkW partB, mkW nm] ++ [10] ++ [] = _
    simp [lineL, tailL, wordL, mkW, sgT]
  | k + 1, hk => by
    have hc : chC l.length = (l.length + 15) / 16 := rfl
    rw [rowsB_succ, bodyL_app, body_rows nm l h k (by omega), take_step, sgT_app]
    have hlt : 16 * k < l.length := by omega
    have e : 0 + (l.take (16 * k)).length = 16 * k := by rw [List.length_take]; omega
    rw [e, sgT_line (pieceS l k) k (fun s hs => h s (piece_mem hs)) (piece_ne l k hlt) (by rw [piece_len]; unfold chN; omega)]
    show _ ++ (lineL ((pieceS l k).map wrdW) ++ [10] ++ []) = _
    simp
theorem sgT_len : ∀ (l : List Sg) (i : Nat), (∀ s ∈ l, oneE s = 0) → (sgT i l).length ≤ 10 * l.length
  | [], _, _ => Nat.zero_le _
  | s :: t, i, h => by
    have h1 := (word_plain (h s (List.mem_cons_self ..))).2.2
    have h2 := sgT_len t (i + 1) (fun x hx => h x (List.mem_cons_of_mem _ hx))
    show ((if i % 16 = 0 then (10 : UInt8) else 32) :: (wordT s ++ sgT (i + 1) t)).length ≤ 10 * (t.length + 1)
    rw [List.length_cons, List.length_append]
    omega
theorem okW_wrd {s : Sg} (h : oneE s = 0) : okW (wrdW s) = true := by
  unfold wrdW wdT mkW; rw [if_pos h]; exact word_wd h 0
theorem name_ok {nm : ByteArray} (h : nameV nm.data.toList = true) : okW (mkW nm) = true ∧ nm.data.toList.length ≤ 20 ∧ nm.data.toList ≠ [] := by
  unfold nameV at h
  simp only [Bool.and_eq_true, decide_eq_true_eq] at h
  obtain ⟨⟨h1, h2⟩, h3⟩ := h
  have hne : nm.data.toList ≠ [] := by intro e; rw [e] at h3; simp [headLetter] at h3
  refine ⟨?_, h2, hne⟩
  show (nm.data.toList.all (fun c => plainI c.toNat) && decide (0 < nm.size)) = true
  rw [Bool.and_eq_true]
  refine ⟨?_, decide_eq_true ?_⟩
  · rw [List.all_eq_true] at h1 ⊢
    intro c hc
    have := h1 c hc
    simp only [nameB, letterI, digitI, plainI, Bool.or_eq_true, decide_eq_true_eq, beq_iff_eq] at this ⊢
    omega
  · have := List.length_pos_iff.2 hne
    rw [show nm.size = nm.data.toList.length by rw [← ByteArray.size_data]; simp]
    exact this
theorem rowE_ok {ws : List Wd} (h : ws ≠ []) (k : ws.all okW = true) (z : (lineL ws).length ≤ 1000) : rowE ws = 0 := by
  unfold rowE
  rw [if_neg (by rintro (e | e); exact h e; rw [k] at e; cases e), if_neg (by omega)]
theorem line_len (p : List Sg) (k : Nat) (h : ∀ s ∈ p, oneE s = 0) (hp : p ≠ []) (hl : p.length ≤ 16) : (lineL (p.map wrdW)).length ≤ 160 := by
  have e := congrArg List.length (sgT_line p k h hp hl)
  have := sgT_len p (16 * k) h
  rw [List.length_cons] at e
  omega
/-- The rows of a valid part are written as its text. -/
theorem rows_text {nm : ByteArray} {l : List Sg} (hn : nameV nm.data.toList = true) (hl : l.length ≤ 400) (h : ∀ s ∈ l, oneE s = 0) : textG [] (rowsT nm l) = (outT nm l, 0) := by
  obtain ⟨hok, hn2, hn3⟩ := name_ok hn
  have hc : chC l.length = (l.length + 15) / 16 := rfl
  have hb : bodyL (rowsT nm l) = outT nm l := by
    unfold rowsT
    rw [bodyL_app, body_rows nm l h _ (Nat.le_refl _), List.take_of_length_le (by omega)]
    show _ ++ (lineL [mkW endB] ++ [10] ++ []) = _
    simp [outT, lineL, tailL, wordL, mkW]
  have hlen : (outT nm l).length ≤ 20000 := by
    have := sgT_len l 0 h
    unfold outT
    simp only [List.length_append, List.length_cons, List.length_nil]
    omega
  have := textG_good (rowsT nm l) [] ?_ (by rw [hb]; simpa using hlen)
  · rw [this, hb]; simp
  · intro r hr
    unfold rowsT rowsB at hr
    rcases List.mem_append.1 hr with hr | hr
    · rcases List.mem_cons.1 hr with rfl | hr
      · refine rowE_ok (by simp [row0]) ?_ ?_
        · show (okW (mkW partB) && (okW (mkW nm) && true)) = true
          rw [hok]; decide +kernel
        · show ([112, 97, 114, 116] ++ (32 :: (nm.data.toList ++ []))).length ≤ 1000
          simp only [List.length_append, List.length_cons, List.length_nil]; omega
      · rw [List.mem_map] at hr
        obtain ⟨k, hk, rfl⟩ := hr
        rw [List.mem_range] at hk
        have hp := piece_ne l k (by omega)
        have hpl : (pieceS l k).length ≤ 16 := by rw [piece_len]; unfold chN; omega
        have hv : ∀ s ∈ pieceS l k, oneE s = 0 := fun s hs => h s (piece_mem hs)
        refine rowE_ok (by intro e; exact hp (List.map_eq_nil_iff.1 e)) ?_ (Nat.le_trans (line_len _ k hv hp hpl) (by decide))
        show ((pieceS l k).map wrdW).all okW = true
        rw [List.all_map, List.all_eq_true]
        exact fun s hs => okW_wrd (hv s hs)
    · rw [List.mem_singleton] at hr
      subst hr
      exact rowE_ok (by simp [rowZ]) (by decide +kernel) (by decide +kernel)
theorem rows_modest {nm : ByteArray} {l : List Sg} (hn : nameV nm.data.toList = true) (hl : l.length ≤ 400) (h : ∀ s ∈ l, oneE s = 0) : Modest (rowsT nm l) := by
  obtain ⟨_, hn2, _⟩ := name_ok hn
  have hc : chC l.length = (l.length + 15) / 16 := rfl
  have hsz : nm.size ≤ 20 := by rw [show nm.size = nm.data.toList.length by rw [← ByteArray.size_data]; simp]; exact hn2
  refine ⟨by unfold rowsT; rw [List.length_append, rowsB_len]; simp only [List.length_cons, List.length_nil]; omega, fun r hr => ?_⟩
  unfold rowsT rowsB at hr
  rcases List.mem_append.1 hr with hr | hr
  · rcases List.mem_cons.1 hr with rfl | hr
    · refine ⟨by simp [row0], fun x hx => ?_⟩
      simp only [row0, List.mem_cons, List.not_mem_nil, or_false] at hx
      rcases hx with rfl | rfl
      · decide
      · show nm.size ≤ 100000; omega
    · rw [List.mem_map] at hr
      obtain ⟨k, _, rfl⟩ := hr
      refine ⟨?_, fun x hx => ?_⟩
      · show ((pieceS l k).map wrdW).length ≤ 100000
        rw [List.length_map, piece_len]; unfold chN; omega
      · rw [show (rowP l k).words = (pieceS l k).map wrdW from rfl, List.mem_map] at hx
        obtain ⟨s, hs, rfl⟩ := hx
        have h1 := h s (piece_mem hs)
        show (bytes (wdT s)).size ≤ 100000
        unfold wdT
        rw [if_pos h1, bytes_size]
        have := (word_plain h1).2.2
        omega
  · rw [List.mem_singleton] at hr
    subst hr
    refine ⟨by simp [rowZ], fun x hx => ?_⟩
    simp only [rowZ, List.mem_cons, List.not_mem_nil, or_false] at hx
    subst hx
    decide
/-- What Text hands back. -/
def txtV (nm : ByteArray) (l : List Sg) : ByteArray × Int :=
  if (chkV (nameV nm.data.toList) l).1 = 0 then (bytes (outT nm l), 0) else (emp, (chkV (nameV nm.data.toList) l).1)
theorem chk_good {b : Bool} {l : List Sg} (h : (chkV b l).1 = 0) : b = true ∧ l.length ≤ 400 ∧ (∀ s ∈ l, oneE s = 0) ∧ ∀ i, i < l.length → jnB l i = true := by
  unfold chkV at h
  split at h
  · cases h
  rename_i hb
  split at h
  · cases h
  rename_i hl
  have hsc : ∀ (n i : Nat), (scan (sgnE l) i n).1 = 0 → ∀ k, i ≤ k → k < i + n → sgnE l k = 0 := by
    intro n
    induction n with
    | zero => intro i _ k h1 h2; omega
    | succ n ih =>
      intro i h k h1 h2
      unfold scan at h
      split at h
      · rename_i x; exact absurd h x
      · rename_i x
        by_cases e : i = k
        · subst e; exact Classical.not_not.1 x
        · exact ih (i + 1) h k (by omega) (by omega)
  have hall := fun k hk => hsc l.length 0 h k (Nat.zero_le _) (by omega)
  have hone : ∀ k, k < l.length → oneE (l.getD k zS) = 0 ∧ jnB l k = true := by
    intro k hk
    have := hall k (by omega)
    unfold sgnE at this
    split at this
    · rename_i x; exact absurd this x
    · rename_i x
      split at this
      · rename_i y; exact ⟨Classical.not_not.1 x, y⟩
      · cases this
  refine ⟨by simpa using hb, by omega, fun s hs => ?_, fun i hi => (hone i hi).2⟩
  obtain ⟨i, hi, rfl⟩ := List.getElem_of_mem hs
  have := (hone i hi).1
  rwa [List.getD, List.getElem?_eq_getElem hi] at this
end Go.Proofs.YtdmedealdhadcaaGreatDoor
