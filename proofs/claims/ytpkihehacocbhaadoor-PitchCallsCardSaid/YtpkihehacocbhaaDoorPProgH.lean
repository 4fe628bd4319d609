/- The program's pitch of a text. -/
import Derived.Test.YtpkihehacocbhaaDoorPProgG
import Derived.Deep.DeepCutAuto
namespace Go.Proofs.YtpkihehacocbhaaDoor
open Go.RowKit

theorem text_len (p : Pi3) : 2 ≤ (textL p).length := by unfold textL; simp
theorem parse_short {s : ByteArray} (h : s.size < 2) : ParseR s ((0, 0, 0), 3) := by
  refine .inr ⟨fun p _ e => ?_, rfl⟩
  have := text_len p
  rw [e] at h
  have e2 : (⟨(textL p).toArray⟩ : ByteArray).size = (textL p).length := by show (textL p).toArray.size = _; simp
  omega

theorem of_list {a : ByteArray} {l : List UInt8} (h : a.data.toList = l) : a = ⟨l.toArray⟩ := by subst h; cases a; simp
/-- A text of two bytes or more: its first byte, what lies between, its last byte. -/
theorem three {s : ByteArray} (h : 2 ≤ s.size) : s = ⟨(s[0] :: ((s.extract 1 (s.size - 1)).data.toList ++ [s[s.size - 1]])).toArray⟩ := by
  apply of_list
  have hl : s.data.toList.length = s.size := by simp
  apply List.ext_getElem?
  intro i
  have he : (s.extract 1 (s.size - 1)).data.toList = (s.data.toList.drop 1).take (s.size - 2) := by
    rw [ByteArray.data_extract, Array.toList_extract]
    simp [List.extract]
    rw [show s.size - 1 - 1 = s.size - 2 by omega]
    omega
  rw [he]
  cases i with
  | zero => rw [List.getElem?_eq_getElem (by omega)]; simp; rfl
  | succ i =>
    rw [List.getElem?_cons_succ]
    by_cases hi : i < s.size - 2
    · rw [List.getElem?_append_left (by simp; omega), List.getElem?_take_of_lt hi, List.getElem?_drop, Nat.add_comm]
    · by_cases hi2 : i = s.size - 2
      · subst hi2
        rw [List.getElem?_append_right (by simp; omega)]
        have e1 : ((s.data.toList.drop 1).take (s.size - 2)).length = s.size - 2 := by simp; omega
        rw [e1, Nat.sub_self, show s.size - 2 + 1 = s.size - 1 by omega, List.getElem?_eq_getElem (by omega)]
        rfl
      · rw [List.getElem?_eq_none (by omega), List.getElem?_eq_none (by simp; omega)]
theorem step_all : ∀ n : Fin 256, 0 ≤ stepV (n.val : Int) → stepV (n.val : Int) ≤ 6 → letterI (stepV (n.val : Int)) = UInt8.ofNat n.val := by decide +kernel
theorem dig_all : ∀ n : Fin 256, 0 ≤ (n.val : Int) - 48 → (n.val : Int) - 48 ≤ 8 → digI ((n.val : Int) - 48) = UInt8.ofNat n.val := by decide +kernel
theorem step_byte {a : UInt8} (h1 : 0 ≤ stepV (a.toNat : Int)) (h2 : stepV (a.toNat : Int) ≤ 6) : letterI (stepV (a.toNat : Int)) = a := by
  rw [step_all ⟨a.toNat, a.toNat_lt⟩ h1 h2]; simp
theorem dig_byte {a : UInt8} (h1 : 0 ≤ (a.toNat : Int) - 48) (h2 : (a.toNat : Int) - 48 ≤ 8) : digI ((a.toNat : Int) - 48) = a := by
  rw [dig_all ⟨a.toNat, a.toNat_lt⟩ h1 h2]; simp
theorem acc_sign {g : ByteArray} (h : altV g ≤ 1) : accL (altV g) = g.data.toList := by
  unfold altV at h ⊢
  by_cases h1 : g = ⟨#[98]⟩
  · subst h1; rfl
  rw [if_neg h1] at h ⊢
  by_cases h2 : g = ⟨#[]⟩
  · subst h2; rfl
  rw [if_neg h2] at h ⊢
  by_cases h3 : g = ⟨#[35]⟩
  · subst h3; rfl
  rw [if_neg h3] at h
  exact absurd h (by decide)
/-- The text of a valid spelling. -/
theorem spell_ok {s : ByteArray} (h : 2 ≤ s.size) (ok : okP (stepV (s[0]'(by omega)).toNat, (((s[s.size - 1]'(by omega)).toNat : Int) - 48), altV (s.extract 1 (s.size - 1)))) :
    s = ⟨(textL (stepV (s[0]'(by omega)).toNat, (((s[s.size - 1]'(by omega)).toNat : Int) - 48), altV (s.extract 1 (s.size - 1)))).toArray⟩ := by
  obtain ⟨⟨h1, h2⟩, ⟨h3, h4⟩, h5, h6⟩ := ok
  simp only at h1 h2 h3 h4 h5 h6
  unfold textL
  simp only
  rw [step_byte h1 h2, dig_byte h3 h4, acc_sign h6]
  exact three h
theorem spell_parts {q : Pi3} (hq : okP q) : stepV (letterI q.1).toNat = q.1 ∧ ((digI q.2.1).toNat : Int) - 48 = q.2.1 ∧ altV ⟨(accL q.2.2).toArray⟩ = q.2.2 := by
  obtain ⟨s, o, a⟩ := q
  obtain ⟨⟨h1, h2⟩, ⟨h3, h4⟩, h5, h6⟩ := hq
  simp only at h1 h2 h3 h4 h5 h6 ⊢
  refine ⟨?_, ?_, ?_⟩
  · have : s = 0 ∨ s = 1 ∨ s = 2 ∨ s = 3 ∨ s = 4 ∨ s = 5 ∨ s = 6 := by omega
    rcases this with rfl | rfl | rfl | rfl | rfl | rfl | rfl <;> decide +kernel
  · have : o = 0 ∨ o = 1 ∨ o = 2 ∨ o = 3 ∨ o = 4 ∨ o = 5 ∨ o = 6 ∨ o = 7 ∨ o = 8 := by omega
    rcases this with rfl | rfl | rfl | rfl | rfl | rfl | rfl | rfl | rfl <;> decide +kernel
  · have : a = -1 ∨ a = 0 ∨ a = 1 := by omega
    rcases this with rfl | rfl | rfl <;> decide +kernel
/-- The text of a pitch is spelled as the pitch. -/
theorem spell_no {s : ByteArray} (h : 2 ≤ s.size) {q : Pi3} (hq : okP q) (e : s = ⟨(textL q).toArray⟩) :
    okP (stepV (s[0]'(by omega)).toNat, (((s[s.size - 1]'(by omega)).toNat : Int) - 48), altV (s.extract 1 (s.size - 1))) := by
  have t := bytes_inj ((three h).symm.trans e)
  unfold textL at t
  simp only [List.cons.injEq] at t
  obtain ⟨t1, t2⟩ := t
  obtain ⟨t3, t4⟩ := List.append_inj' t2 rfl
  simp only [List.cons.injEq, and_true] at t4
  have g := of_list t3
  rw [t1, t4, g, (spell_parts hq).1, (spell_parts hq).2.1, (spell_parts hq).2.2]
  exact hq

set_option maxHeartbeats 4000000 in
theorem wparse_any (s : ByteArray) (w : World) (T : Tab w) (hs : s.size ≤ maxLen) : Calls Tryd.prog 17 #[.string s] w (ParsePost s w) := by
  unfold maxLen at hs
  have RES := Lib.hid (Cell3.made w (0, 0, 0) 23)
  by_cases hsz : s.size < 2
  · have hP := Lib.hid (parse_short hsz)
    have hsz' : (s.size : Int) < 2 := by omega
    obtain ⟨hin, d0, d1, d2, f0, f1, f2⟩ := RES.out
    clear T
    go_enter Tryd.func17, Tryd.ntmps17
    go_wp2_with fail
    refine bodyPost_ret (v := .tuple #[pv (0, 0, 0), .int .i64 3]) (by simp [results, Tryd.results17, go_sem, d0, d1, d2]) rfl ⟨_, hP.out, rfl, ?_⟩
    first
      | exact w_alloc (w_refl w) _
      | exact w_set (w_set (w_set (w_alloc (w_refl w) _) (by simp) _) (by simp) _) (by simp) _
  · have hsz' : (2 : Int) ≤ s.size := by omega
    have x0 : IntKind.i64.wrap ((s.size : Int) - 1) = (s.size : Int) - 1 := IntWalk.i64_in _ (by omega)
    have y1 : (1 : Int) ≤ (s.size : Int) - 1 := by omega
    have y2 : (s.size : Int) - 1 < s.size := by omega
    have y3 : (s.size : Int) - 1 ≤ s.size := by omega
    have y4 : (0 : Int) ≤ (s.size : Int) - 1 := by omega
    have y5 : (0 : Int) < s.size := by omega
    have SP := Lib.hid (fun W (TT : Tab W) => wspell_any (s[0]'(by omega)).toNat (s[s.size - 1]'(by omega)).toNat (s.extract 1 (s.size - 1)) W TT ⟨by omega, by have := (s[s.size - 1]'(by omega)).toNat_lt; omega⟩)
    generalize hp : (stepV (s[0]'(by omega)).toNat, (((s[s.size - 1]'(by omega)).toNat : Int) - 48), altV (s.extract 1 (s.size - 1))) = p at *
    have FX := Lib.hid (show Below w.heap.size w (w.alloc (.cells #[.int .i64 0, .int .i64 0, .int .i64 0] 23)) from w_alloc (w_refl w) _)
    have TX := Lib.hid (T.al (.cells #[.int .i64 0, .int .i64 0, .int .i64 0] 23))
    clear T
    go_enter Tryd.func17, Tryd.ntmps17
    go_wp2_with fail
    generalize w.alloc (.cells #[.int .i64 0, .int .i64 0, .int .i64 0] 23) = w0 at *
    go_cut [5] (fun s5 wc => ∃ B : Nat, s5 = .pointer (some ⟨B, 0, none⟩) ∧ Hid (Cell3 wc B p) ∧ Hid (Cell3 wc w.heap.size (0, 0, 0)) ∧ Hid (Below w.heap.size w wc))
    case first =>
      go_region_held3 (fun W => True)
        (trivial)
        (first
          | (go_at_call 36; refine (SP.out _ (by first | exact TX.out.later (w_refl w0).drew | exact (TX.out.later (w_refl w0).drew).al _)).mono ?_; rintro e wn ⟨rfl, hb⟩
             have KH := Lib.hid (show Below w0.heap.size w0 wn by first | exact w_below (w_refl w0).drew hb | exact w_below (w_below (w_alloc (w_refl w0) _) (w_refl _).drew) hb)
             try (have G : Cell3 wn w0.heap.size (0, 0, 0) := (Cell3.made w0.drew (0, 0, 0) 23).later hb; have GH := Lib.hid G; obtain ⟨_, g0, g1, g2, h0, h1, h2⟩ := G))
          | fail)
      all_goals
        go_wp2_with fail
        go_meet
      all_goals first
        | exact ⟨wn.heap.size, rfl, Lib.hid (Cell3.made wn p 23), Lib.hid ((RES.out.later KH.out).later (w_alloc (w_refl wn) _)), Lib.hid (w_alloc (w_below FX.out KH.out) _)⟩
        | exact ⟨w0.heap.size, rfl, Lib.hid (GH.out.put p), Lib.hid ((RES.out.later KH.out).other p (Nat.ne_of_lt RES.out.inb)), Lib.hid (w_set (p := ⟨w0.heap.size, 2, none⟩) (w_set (p := ⟨w0.heap.size, 1, none⟩) (w_set (p := ⟨w0.heap.size, 0, none⟩) (w_below FX.out KH.out) FX.out.size _) FX.out.size _) FX.out.size _)⟩
    case rest =>
      obtain ⟨B, rfl, hc, hr, hbel⟩ := hcut
      have CK := Lib.hid (fun W => wcheck_any p W)
      clear SP TX FX RES
      by_cases hok : okP p
      · rw [chkV_ok hok] at CK
        have hP := Lib.hid (show ParseR s (p, 0) from .inl ⟨hok, (spell_ok (by omega) (by rw [hp]; exact hok)).trans (by rw [hp]), rfl⟩)
        obtain ⟨_, c0, c1, c2, _, _, _⟩ := hc.out
        clear hok hp
        go_wp2_with fail
        refine (CK.out _).mono ?_
        rintro e w2 ⟨rfl, hb⟩
        clear c0 c1 c2
        obtain ⟨_, c0, c1, c2, _, _, _⟩ := hc.out.later hb
        obtain ⟨_, d0, d1, d2, f0, f1, f2⟩ := hr.out.later hb
        have hB := Lib.hid (w_below hbel.out hb)
        clear hb hc hr hbel CK
        go_wp2_with fail
        refine bodyPost_ret (v := .tuple #[pv p, .int .i64 0]) (by simp [results, Tryd.results17, go_sem, d0, d1, d2]) rfl ⟨_, hP.out, rfl, ?_⟩
        exact w_set (w_set (w_set hB.out (by simp) _) (by simp) _) (by simp) _
      · rw [chkV_no hok] at CK
        have hP := Lib.hid (show ParseR s ((0, 0, 0), 3) from .inr ⟨fun q hq e => hok (by rw [← hp]; exact spell_no (by omega) hq e), rfl⟩)
        obtain ⟨_, c0, c1, c2, _, _, _⟩ := hc.out
        clear hok hp
        go_wp2_with fail
        refine (CK.out _).mono ?_
        rintro e w2 ⟨rfl, hb⟩
        clear c0 c1 c2
        obtain ⟨_, d0, d1, d2, f0, f1, f2⟩ := hr.out.later hb
        have hB := Lib.hid (w_below hbel.out hb)
        clear hb hc hr hbel CK
        go_wp2_with fail
        refine bodyPost_ret (v := .tuple #[pv (0, 0, 0), .int .i64 3]) (by simp [results, Tryd.results17, go_sem, d0, d1, d2]) rfl ⟨_, hP.out, rfl, ?_⟩
        exact w_set (w_set (w_set hB.out (by simp) _) (by simp) _) (by simp) _

end Go.Proofs.YtpkihehacocbhaaDoor
