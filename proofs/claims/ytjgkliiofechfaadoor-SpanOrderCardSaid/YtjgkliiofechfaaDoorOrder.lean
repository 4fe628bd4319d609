/- The statement SpanOrder returns true at every input: the walk. -/
import Derived.Test.YtjgkliiofechfaaDoorSpans
import Derived.Test.YtjgkliiofechfaaDoorKnown
namespace Go.Proofs.YtjgkliiofechfaaDoor
open Go.RowKit

theorem TimesP.take {w : World} {g off cap k : Nat} {l : List (Int × Int)} (h : TimesP w (some ⟨g, off, none⟩) cap l) (hk : k ≤ l.length) : TimesP w (some ⟨g, off, none⟩) cap (l.take k) := by
  have hl : (l.take k).length = k := by rw [List.length_take]; omega
  refine ⟨by have := h.fit; omega, h.max, fun e => (by cases e), fun h0 => ?_⟩
  obtain ⟨b, off', e, ht⟩ := h.at_ (by omega)
  simp only [Option.some.injEq, Addr.mk.injEq, and_true] at e
  obtain ⟨rfl, rfl⟩ := e
  have hg : ∀ i, i < k → (l.take k).getD i (0, 0) = l.getD i (0, 0) := fun i hi => by simp [List.getD, hi]
  refine ⟨g, off, rfl, ht.inb, fun i hi => ?_, fun i hi => ?_⟩
  · rw [hl] at hi; rw [hg i hi]; exact ht.num i (by omega)
  · rw [hl] at hi; rw [hg i hi]; exact ht.den i (by omega)

theorem TimesP.drop {w : World} {g off cap k : Nat} {l : List (Int × Int)} (h : TimesP w (some ⟨g, off, none⟩) cap l) (hk : k ≤ l.length) : TimesP w (some ⟨g, off + k * 2, none⟩) (cap - k) (l.drop k) := by
  have hl : (l.drop k).length = l.length - k := List.length_drop
  refine ⟨by have := h.fit; omega, by have := h.max; omega, fun e => (by cases e), fun h0 => ?_⟩
  obtain ⟨b, off', e, ht⟩ := h.at_ (by omega)
  simp only [Option.some.injEq, Addr.mk.injEq, and_true] at e
  obtain ⟨rfl, rfl⟩ := e
  have hg : ∀ i, (l.drop k).getD i (0, 0) = l.getD (k + i) (0, 0) := fun i => by simp [List.getD]
  refine ⟨g, off + k * 2, rfl, ht.inb, fun i hi => ?_, fun i hi => ?_⟩
  · rw [hl] at hi; rw [hg i, ← ht.num (k + i) (by omega)]; congr 2; omega
  · rw [hl] at hi; rw [hg i, ← ht.den (k + i) (by omega)]; congr 2; omega

theorem TimesP.dropIf {w : World} {g cap k : Nat} {l : List (Int × Int)} (h : TimesP w (some ⟨g, 0, none⟩) cap l) (hk : k ≤ l.length) : TimesP w (if cap = k then some ⟨g, 0, none⟩ else some ⟨g, k * 2, none⟩) (cap - k) (l.drop k) := by
  split
  · have hl : (l.drop k).length = l.length - k := List.length_drop
    have hf := h.fit
    exact ⟨by omega, by omega, fun e => (by cases e), fun h0 => by omega⟩
  · have := h.drop hk
    rw [Nat.zero_add] at this; exact this

theorem sum_at (p : Option Addr) (cap n : Nat) (l : List (Int × Int)) (a b : Int) (w : World) (hp : TimesP w p cap l) (hn : l.length = n) (hs : sumV l = (a, b, 0)) :
    Calls Tryd.prog 29 #[.slice p n cap] w fun e w' => e = .returned (tev (a, b, 0)) ∧ Below w.heap.size w w' := by
  have := sumv_any p cap l w hp
  rw [hn, hs] at this; exact this

theorem own_at (p : Option Addr) (cap n : Nat) (l : List (Int × Int)) (w : World) (hp : TimesP w p cap l) (hn : l.length = n) (hl : n ≤ 1000) :
    Calls Tryd.prog 28 #[.slice p n cap] w fun e w' => ∃ v, e = .returned v ∧ w'.ownsRow w.heap.size 23 2 v l.length (flatT l) ∧ Below w.heap.size w w' := by
  have := own_any p cap l w hp (by omega)
  rw [hn] at this ⊢; exact this

theorem own_form {w : World} {base : Nat} {v : Value} {l : List (Int × Int)} (h : w.ownsRow base 23 2 v l.length (flatT l)) :
    (v = .slice none 0 0 ∧ l = []) ∨ ∃ g cap, v = .slice (some ⟨g, 0, none⟩) l.length cap ∧ TimesP w (some ⟨g, 0, none⟩) cap l := by
  obtain ⟨p, cap, e, hP⟩ := of_own h
  rcases h.2 with ⟨rfl, hn⟩ | ⟨g, cap', cur, rfl, _⟩
  · exact .inl ⟨rfl, List.length_eq_zero_iff.1 hn⟩
  · simp only [Value.slice.injEq, true_and] at e
    obtain ⟨rfl, rfl⟩ := e
    exact .inr ⟨g, cap', rfl, hP⟩

set_option maxRecDepth 100000 in
set_option maxHeartbeats 4000000 in
theorem order_any (p : Option Addr) (cap : Nat) (zs : List Int) (a : Int) (w : World) (hp : IntsP w p cap zs) (ha : -9223372036854775808 ≤ a) (ha1 : a ≤ 9223372036854775807) :
    Calls Tryd.prog 10 #[.slice p zs.length cap, .int .i64 a] w fun e w' => e = .returned (.bool true) ∧ Below w.heap.size w w' := by
  have K := Lib.hid known_any
  have HP := Lib.hid hp
  clear hp
  go_enter Tryd.func10, Tryd.ntmps10
  go_wp2_with fail
  refine (K.out _).mono ?_
  rintro e w1 ⟨rfl, hb1⟩
  have B1 := Lib.hid hb1
  have HP1 := Lib.hid (show IntsP w1 p cap zs from ⟨HP.out.fit, HP.out.max, HP.out.bds, fun h0 => by
    obtain ⟨b, off, e, hin, hc⟩ := HP.out.at_ h0
    exact ⟨b, off, e, Nat.lt_of_lt_of_le hin hb1.size, fun k hk => by rw [← hc k hk]; exact hb1.cell (p := ⟨b, off + k, none⟩) hin⟩⟩)
  clear hb1 HP
  go_wp2_with fail
  refine (spans_any p cap zs _ HP1.out).mono ?_
  rintro e w2 ⟨v, l, rfl, hl, hsm, hown, hb2⟩
  have B2 := Lib.hid (bl B1.out hb2)
  have M := Lib.hid (fun W => mod_any a ((l.length : Int) + 1) W ha ha1 (by omega) (by omega))
  have k0 : 0 ≤ a % ((l.length : Int) + 1) := Int.emod_nonneg a (by omega)
  have k1 : a % ((l.length : Int) + 1) < (l.length : Int) + 1 := Int.emod_lt_of_pos a (by omega)
  obtain ⟨k, hk⟩ : ∃ k : Nat, a % ((l.length : Int) + 1) = k := ⟨_, (Int.toNat_of_nonneg k0).symm⟩
  rw [hk] at M
  have hkl : k ≤ l.length := by omega
  obtain ⟨x, y, c, d, e', f, ho⟩ := orders_of l k hsm (by omega)
  have HO := Lib.hid ho
  have hform := own_form hown
  clear ho hsm k0 k1 hk hown hb2 B1 HP1
  rcases hform with ⟨rfl, rfl⟩ | ⟨g, cq, rfl, hq⟩
  · obtain rfl : k = 0 := by simpa using hkl
    have hq : TimesP w2 none 0 [] := ⟨by simp, by omega, fun _ => rfl, fun h0 => by simp at h0⟩
    have HQ := Lib.hid hq
    have HT := Lib.hid (show TimesP w2 none 0 (([] : List (Int × Int)).take 0) from hq)
    have HD := Lib.hid (show TimesP w2 none 0 (([] : List (Int × Int)).drop 0) from hq)
    have lT := Lib.hid (show (([] : List (Int × Int)).take 0).length = 0 from rfl)
    have lD := Lib.hid (show (([] : List (Int × Int)).drop 0).length = 0 from rfl)
    clear hq
    go_wp2_with fail
    refine (M.out _).mono ?_
    rintro e w3 ⟨rfl, rfl⟩
    clear M
    go_wp2_with fail
    go_cut [7] (fun v wc => Hid (wc.ownsRow w2.heap.size 23 2 v (([] : List (Int × Int)).drop 0 ++ ([] : List (Int × Int)).take 0).length (flatT (([] : List (Int × Int)).drop 0 ++ ([] : List (Int × Int)).take 0))) ∧ Hid (Below w2.heap.size w2 wc))
    case first =>
      go_region_law (first
        | (refine step_append_times rfl (.tmp 29) (.tmp 32) rfl w2.heap.size v' (([] : List (Int × Int)).drop 0) (by rfl) hown' none 0 0 (([] : List (Int × Int)).take 0) lT.out (by rfl) ((HT.out.later (br _).drew).later hbx) (by rw [lD.out]; omega) (by rw [lT.out]; omega) hbx.size ?_; intro v2 wy hown2 hby)
        | (go_simp; go_at_call 28; refine (own_at _ _ _ (([] : List (Int × Int)).drop 0) _ (HD.out.later (br _).drew) lD.out (by omega)).mono ?_; rintro e wx ⟨v', rfl, hown', hbx⟩))
      go_wp2_with fail
      go_meet
      exact ⟨Lib.hid hown2, Lib.hid ((bl (br w2).drew hbx).trans hby)⟩
    case rest =>
      obtain ⟨hown, hbc⟩ := hcut
      obtain ⟨pv, cv, rfl, hv⟩ := of_own hown.out
      have B3 := Lib.hid (bl B2.out hbc.out)
      have V3 := Lib.hid hv
      have Q3 := Lib.hid (HQ.out.later hbc.out)
      have T3 := Lib.hid (HT.out.later hbc.out)
      have D3 := Lib.hid (HD.out.later hbc.out)
      obtain ⟨nv, hnv⟩ : ∃ nv, (([] : List (Int × Int)).drop 0 ++ ([] : List (Int × Int)).take 0).length = nv := ⟨_, rfl⟩
      have AD := Lib.hid (fun W => add_any c d e' f W)
      rw [HO.out.both] at AD
      have H1 := Lib.hid HO.out.all
      have H2 := Lib.hid HO.out.turned
      have H3 := Lib.hid HO.out.left
      have H4 := Lib.hid HO.out.right
      have HN := Lib.hid hnv
      rw [hnv]
      clear hv hown hbc HQ HT HD B2 hnv HO
      go_wp2_with fail
      refine (sum_at none 0 0 ([] : List (Int × Int)) x y _ Q3.out rfl H1.out).mono ?_
      rintro e wd4 ⟨rfl, hb4⟩
      have B4 := Lib.hid (ba (bl B3.out hb4) (.cells #[.int .i64 x, .int .i64 y] 23))
      have V4 := Lib.hid ((V3.out.later hb4).later (ba (br _) (.cells #[.int .i64 x, .int .i64 y] 23)))
      have T4 := Lib.hid ((T3.out.later hb4).later (ba (br _) (.cells #[.int .i64 x, .int .i64 y] 23)))
      have D4 := Lib.hid ((D3.out.later hb4).later (ba (br _) (.cells #[.int .i64 x, .int .i64 y] 23)))
      have X0_4 := Lib.hid (Own2.made wd4 x y 23)
      clear hb4 B3 V3 T3 D3 Q3
      go_wp2_with fail
      refine (sum_at pv cv nv (([] : List (Int × Int)).drop 0 ++ ([] : List (Int × Int)).take 0) x y _ V4.out HN.out H2.out).mono ?_
      rintro e wd5 ⟨rfl, hb5⟩
      have B5 := Lib.hid (ba (bl B4.out hb5) (.cells #[.int .i64 x, .int .i64 y] 23))
      have T5 := Lib.hid ((T4.out.later hb5).later (ba (br _) (.cells #[.int .i64 x, .int .i64 y] 23)))
      have D5 := Lib.hid ((D4.out.later hb5).later (ba (br _) (.cells #[.int .i64 x, .int .i64 y] 23)))
      have X0_5 := Lib.hid ((X0_4.out.later hb5).later (ba (br _) (.cells #[.int .i64 x, .int .i64 y] 23)))
      have X1_5 := Lib.hid (Own2.made wd5 x y 23)
      clear hb5 B4 T4 D4 X0_4 V4
      go_wp2_with fail
      refine (sum_at none 0 0 (([] : List (Int × Int)).take 0) c d _ T5.out lT.out H3.out).mono ?_
      rintro e wd6 ⟨rfl, hb6⟩
      have B6 := Lib.hid (ba (bl B5.out hb6) (.cells #[.int .i64 c, .int .i64 d] 23))
      have D6 := Lib.hid ((D5.out.later hb6).later (ba (br _) (.cells #[.int .i64 c, .int .i64 d] 23)))
      have X0_6 := Lib.hid ((X0_5.out.later hb6).later (ba (br _) (.cells #[.int .i64 c, .int .i64 d] 23)))
      have X1_6 := Lib.hid ((X1_5.out.later hb6).later (ba (br _) (.cells #[.int .i64 c, .int .i64 d] 23)))
      have X2_6 := Lib.hid (Own2.made wd6 c d 23)
      clear hb6 B5 D5 X0_5 X1_5 T5
      go_wp2_with fail
      refine (sum_at none 0 0 (([] : List (Int × Int)).drop 0) e' f _ D6.out lD.out H4.out).mono ?_
      rintro e wd7 ⟨rfl, hb7⟩
      have B7 := Lib.hid (ba (bl B6.out hb7) (.cells #[.int .i64 e', .int .i64 f] 23))
      have X0_7 := Lib.hid ((X0_6.out.later hb7).later (ba (br _) (.cells #[.int .i64 e', .int .i64 f] 23)))
      have X1_7 := Lib.hid ((X1_6.out.later hb7).later (ba (br _) (.cells #[.int .i64 e', .int .i64 f] 23)))
      have X2_7 := Lib.hid ((X2_6.out.later hb7).later (ba (br _) (.cells #[.int .i64 e', .int .i64 f] 23)))
      have X3_7 := Lib.hid (Own2.made wd7 e' f 23)
      clear hb7 B6 X0_6 X1_6 X2_6 D6
      obtain ⟨_, c0, c1, _, _⟩ := X2_7.out
      obtain ⟨_, d0, d1, _, _⟩ := X3_7.out
      go_wp2_with fail
      refine (AD.out _).mono ?_
      rintro e w8 ⟨rfl, hb8⟩
      have B8 := Lib.hid (ba (bl B7.out hb8) (.cells #[.int .i64 x, .int .i64 y] 23))
      have X0_8 := Lib.hid ((X0_7.out.later hb8).later (ba (br _) (.cells #[.int .i64 x, .int .i64 y] 23)))
      have X1_8 := Lib.hid ((X1_7.out.later hb8).later (ba (br _) (.cells #[.int .i64 x, .int .i64 y] 23)))
      have X4_8 := Lib.hid (Own2.made w8 x y 23)
      clear hb8 B7 X0_7 X1_7 X2_7 X3_7 c0 c1 d0 d1
      obtain ⟨_, a0, a1, _, _⟩ := X0_8.out
      obtain ⟨_, b0, b1, _, _⟩ := X1_8.out
      obtain ⟨_, c0, c1, _, _⟩ := X4_8.out
      go_wp2_with fail
      go_ret
      exact ⟨rfl, B8.out⟩
  · have fq := hq.fit
    have mq := hq.max
    have hkc : k ≤ cq := by omega
    have HQ := Lib.hid hq
    have HT := Lib.hid (hq.take hkl)
    have hd0 := hq.dropIf hkl
    obtain ⟨pd, hif⟩ : ∃ pd, (if cq = k then (some ⟨g, 0, none⟩ : Option Addr) else some ⟨g, k * 2, none⟩) = pd := ⟨_, rfl⟩
    rw [hif] at hd0
    have HD := Lib.hid hd0
    clear hd0
    have lT := Lib.hid (show (l.take k).length = k by rw [List.length_take]; omega)
    have lD := Lib.hid (show (l.drop k).length = l.length - k from List.length_drop)
    clear hq
    go_wp2_with fail
    refine (M.out _).mono ?_
    rintro e w3 ⟨rfl, rfl⟩
    clear M
    go_wp2_with fail
    go_cut [7] (fun v wc => Hid (wc.ownsRow w2.heap.size 23 2 v (l.drop k ++ l.take k).length (flatT (l.drop k ++ l.take k))) ∧ Hid (Below w2.heap.size w2 wc))
    case first =>
      go_region_law (first
        | (refine step_append_times rfl (.tmp 29) (.tmp 32) rfl w2.heap.size v' (l.drop k) (by rfl) hown' (some ⟨g, 0, none⟩) cq k (l.take k) lT.out (by rfl) ((HT.out.later (br _).drew).later hbx) (by rw [lD.out]; omega) (by rw [lT.out]; omega) hbx.size ?_; intro v2 wy hown2 hby)
        | (go_simp; go_at_call 28; refine (own_at _ _ _ (l.drop k) _ (HD.out.later (br _).drew) lD.out (by omega)).mono ?_; rintro e wx ⟨v', rfl, hown', hbx⟩))
      go_wp2_with fail
      go_meet
      exact ⟨Lib.hid hown2, Lib.hid ((bl (br w2).drew hbx).trans hby)⟩
    case rest =>
      obtain ⟨hown, hbc⟩ := hcut
      obtain ⟨pv, cv, rfl, hv⟩ := of_own hown.out
      have B3 := Lib.hid (bl B2.out hbc.out)
      have V3 := Lib.hid hv
      have Q3 := Lib.hid (HQ.out.later hbc.out)
      have T3 := Lib.hid (HT.out.later hbc.out)
      have D3 := Lib.hid (HD.out.later hbc.out)
      obtain ⟨nv, hnv⟩ : ∃ nv, (l.drop k ++ l.take k).length = nv := ⟨_, rfl⟩
      have AD := Lib.hid (fun W => add_any c d e' f W)
      rw [HO.out.both] at AD
      have H1 := Lib.hid HO.out.all
      have H2 := Lib.hid HO.out.turned
      have H3 := Lib.hid HO.out.left
      have H4 := Lib.hid HO.out.right
      have HN := Lib.hid hnv
      rw [hnv]
      clear hv hown hbc HQ HT HD B2 hnv HO
      go_wp2_with fail
      refine (sum_at (some ⟨g, 0, none⟩) cq l.length l x y _ Q3.out rfl H1.out).mono ?_
      rintro e wd4 ⟨rfl, hb4⟩
      have B4 := Lib.hid (ba (bl B3.out hb4) (.cells #[.int .i64 x, .int .i64 y] 23))
      have V4 := Lib.hid ((V3.out.later hb4).later (ba (br _) (.cells #[.int .i64 x, .int .i64 y] 23)))
      have T4 := Lib.hid ((T3.out.later hb4).later (ba (br _) (.cells #[.int .i64 x, .int .i64 y] 23)))
      have D4 := Lib.hid ((D3.out.later hb4).later (ba (br _) (.cells #[.int .i64 x, .int .i64 y] 23)))
      have X0_4 := Lib.hid (Own2.made wd4 x y 23)
      clear hb4 B3 V3 T3 D3 Q3
      go_wp2_with fail
      refine (sum_at pv cv nv (l.drop k ++ l.take k) x y _ V4.out HN.out H2.out).mono ?_
      rintro e wd5 ⟨rfl, hb5⟩
      have B5 := Lib.hid (ba (bl B4.out hb5) (.cells #[.int .i64 x, .int .i64 y] 23))
      have T5 := Lib.hid ((T4.out.later hb5).later (ba (br _) (.cells #[.int .i64 x, .int .i64 y] 23)))
      have D5 := Lib.hid ((D4.out.later hb5).later (ba (br _) (.cells #[.int .i64 x, .int .i64 y] 23)))
      have X0_5 := Lib.hid ((X0_4.out.later hb5).later (ba (br _) (.cells #[.int .i64 x, .int .i64 y] 23)))
      have X1_5 := Lib.hid (Own2.made wd5 x y 23)
      clear hb5 B4 T4 D4 X0_4 V4
      go_wp2_with fail
      refine (sum_at (some ⟨g, 0, none⟩) cq k (l.take k) c d _ T5.out lT.out H3.out).mono ?_
      rintro e wd6 ⟨rfl, hb6⟩
      have B6 := Lib.hid (ba (bl B5.out hb6) (.cells #[.int .i64 c, .int .i64 d] 23))
      have D6 := Lib.hid ((D5.out.later hb6).later (ba (br _) (.cells #[.int .i64 c, .int .i64 d] 23)))
      have X0_6 := Lib.hid ((X0_5.out.later hb6).later (ba (br _) (.cells #[.int .i64 c, .int .i64 d] 23)))
      have X1_6 := Lib.hid ((X1_5.out.later hb6).later (ba (br _) (.cells #[.int .i64 c, .int .i64 d] 23)))
      have X2_6 := Lib.hid (Own2.made wd6 c d 23)
      clear hb6 B5 D5 X0_5 X1_5 T5
      go_wp2_with fail
      refine (sum_at pd (cq - k) (l.length - k) (l.drop k) e' f _ D6.out lD.out H4.out).mono ?_
      rintro e wd7 ⟨rfl, hb7⟩
      have B7 := Lib.hid (ba (bl B6.out hb7) (.cells #[.int .i64 e', .int .i64 f] 23))
      have X0_7 := Lib.hid ((X0_6.out.later hb7).later (ba (br _) (.cells #[.int .i64 e', .int .i64 f] 23)))
      have X1_7 := Lib.hid ((X1_6.out.later hb7).later (ba (br _) (.cells #[.int .i64 e', .int .i64 f] 23)))
      have X2_7 := Lib.hid ((X2_6.out.later hb7).later (ba (br _) (.cells #[.int .i64 e', .int .i64 f] 23)))
      have X3_7 := Lib.hid (Own2.made wd7 e' f 23)
      clear hb7 B6 X0_6 X1_6 X2_6 D6
      obtain ⟨_, c0, c1, _, _⟩ := X2_7.out
      obtain ⟨_, d0, d1, _, _⟩ := X3_7.out
      go_wp2_with fail
      refine (AD.out _).mono ?_
      rintro e w8 ⟨rfl, hb8⟩
      have B8 := Lib.hid (ba (bl B7.out hb8) (.cells #[.int .i64 x, .int .i64 y] 23))
      have X0_8 := Lib.hid ((X0_7.out.later hb8).later (ba (br _) (.cells #[.int .i64 x, .int .i64 y] 23)))
      have X1_8 := Lib.hid ((X1_7.out.later hb8).later (ba (br _) (.cells #[.int .i64 x, .int .i64 y] 23)))
      have X4_8 := Lib.hid (Own2.made w8 x y 23)
      clear hb8 B7 X0_7 X1_7 X2_7 X3_7 c0 c1 d0 d1
      obtain ⟨_, a0, a1, _, _⟩ := X0_8.out
      obtain ⟨_, b0, b1, _, _⟩ := X1_8.out
      obtain ⟨_, c0, c1, _, _⟩ := X4_8.out
      go_wp2_with fail
      go_ret
      exact ⟨rfl, B8.out⟩

end Go.Proofs.YtjgkliiofechfaaDoor
