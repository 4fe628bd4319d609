/- MensNames returns true: texts and numbers of mensurations are read back; two mensurations have different ones. -/
import Derived.Test.YtflgmeajkflobaaDoorMLadder
namespace Go.Proofs.YtflgmeajkflobaaDoor
open Go.RowKit

theorem tex_back {q : Q4} (h : okM q) : parQ (texB q) = q ∧ parE (texB q) = 0 := by
  have hall : ∀ q ∈ mensL, parQ (texB q) = q ∧ parE (texB q) = 0 := by decide +kernel
  exact hall q ((mens_iff q).2 h)
theorem num_back {q : Q4} (h : okM q) : ofQ (numI q) = q ∧ ofE (numI q) = 0 := by
  have hall : ∀ q ∈ mensL, ofQ (numI q) = q ∧ ofE (numI q) = 0 := by decide +kernel
  exact hall q ((mens_iff q).2 h)
theorem tex_apart {q r : Q4} (h : okM q) (k : okM r) (e : texB q = texB r) : q = r := by
  have h1 := (tex_back h).1
  rw [e, (tex_back k).1] at h1
  exact h1.symm
theorem num_apart {q r : Q4} (h : okM q) (k : okM r) (e : numI q = numI r) : q = r := by
  have h1 := (num_back h).1
  rw [e, (num_back k).1] at h1
  exact h1.symm
theorem ne4 {a b c d a' b' c' d' : Int} (h : (a, b, c, d) ≠ (a', b', c', d')) : (a == a') = false ∨ (a = a' ∧ (b == b') = false) ∨ (a = a' ∧ b = b' ∧ (c == c') = false) ∨ (a = a' ∧ b = b' ∧ c = c' ∧ (d == d') = false) := by
  by_cases e1 : a = a'
  · by_cases e2 : b = b'
    · by_cases e3 : c = c'
      · exact .inr (.inr (.inr ⟨e1, e2, e3, by simpa using fun e4 => h (by rw [e1, e2, e3, e4])⟩))
      · exact .inr (.inr (.inl ⟨e1, e2, by simpa using e3⟩))
    · exact .inr (.inl ⟨e1, by simpa using e2⟩)
  · exact .inl (by simpa using e1)

set_option maxRecDepth 100000 in
set_option maxHeartbeats 8000000 in
theorem lnames_any (n k : Int) (hn : -9223372036854775808 ≤ n ∧ n ≤ 9223372036854775807) (hk : -9223372036854775808 ≤ k ∧ k ≤ 9223372036854775807) (w : World) : Calls Tryd.prog 8 #[.int .i64 n, .int .i64 k] w fun e w' => e = .returned (.bool true) ∧ Below w.heap.size w w' := by
  have KN := Lib.hid (fun W => known_any W)
  have M1 := Lib.hid (fun W => kmens_any n hn W)
  have M2 := Lib.hid (fun W => kmens_any k hk W)
  have hq := of_ok n
  have hr := of_ok k
  generalize ofN (n % 16) = q at *
  generalize ofN (k % 16) = r at *
  have X1 := Lib.hid (fun W => text_at (chkM_ok hq) (texS_ok hq) W)
  have X2 := Lib.hid (fun W => text_at (chkM_ok hr) (texS_ok hr) W)
  have U1 := Lib.hid (fun W => number_at (numV_ok hq) (chkM_ok hq) W)
  have U2 := Lib.hid (fun W => number_at (numV_ok hr) (chkM_ok hr) W)
  have RD := Lib.hid (fun W => reads_any (texB q) (by have := tex_len hq; unfold maxLen; omega) q (tex_back hq).1 (tex_back hq).2 W)
  have OF := Lib.hid (fun W => of_at (num_back hq).1 (num_back hq).2 W)
  by_cases he : q = r
  · subst he
    clear hn hk hq hr
    generalize texB q = t1 at *
    generalize numI q = u1 at *
    obtain ⟨a, b, c, d⟩ := q
    go_enter Tryd.func8, Tryd.ntmps8
    go_wp2_with fail
    refine (KN.out _).mono ?_
    rintro e w1 ⟨rfl, hb⟩
    have hB := Lib.hid hb
    clear hb KN
    go_wp2_with fail
    refine (M1.out _).mono ?_
    rintro e w2 ⟨rfl, hb⟩
    replace hB := Lib.hid (w_below hB.out hb)
    clear hb M1
    go_wp2_with fail
    refine (M2.out _).mono ?_
    rintro e w3 ⟨rfl, hb⟩
    have hbX := w_below hB.out hb
    replace hB := Lib.hid (w_alloc (w_alloc hbX (mO (a, b, c, d))) (mO (a, b, c, d)))
    have KA := Lib.hid ((Cell4.made w3 (a, b, c, d) 23).later (w_alloc (w_refl _) (mO (a, b, c, d))))
    have KB := Lib.hid (Cell4.made (w3.alloc (mO (a, b, c, d))) (a, b, c, d) 23)
    rw [World.size_alloc] at KB
    clear hb hbX M2
    obtain ⟨_, c0, c1, c2, c3, _, _, _, _⟩ := KA.out
    simp only at c0 c1 c2 c3
    go_wp2_with fail
    clear c0 c1 c2 c3
    refine (X1.out _).mono ?_
    rintro e w4 ⟨rfl, hb⟩
    replace hB := Lib.hid (w_below hB.out hb)
    replace KA := Lib.hid (KA.out.later hb)
    replace KB := Lib.hid (KB.out.later hb)
    clear hb X1
    obtain ⟨_, c0, c1, c2, c3, _, _, _, _⟩ := KB.out
    simp only at c0 c1 c2 c3
    go_wp2_with fail
    clear c0 c1 c2 c3
    refine (X2.out _).mono ?_
    rintro e w5 ⟨rfl, hb⟩
    replace hB := Lib.hid (w_below hB.out hb)
    replace KA := Lib.hid (KA.out.later hb)
    replace KB := Lib.hid (KB.out.later hb)
    clear hb X2
    obtain ⟨_, c0, c1, c2, c3, _, _, _, _⟩ := KA.out
    simp only at c0 c1 c2 c3
    go_wp2_with fail
    clear c0 c1 c2 c3
    refine (U1.out _).mono ?_
    rintro e w6 ⟨rfl, hb⟩
    replace hB := Lib.hid (w_below hB.out hb)
    replace KA := Lib.hid (KA.out.later hb)
    replace KB := Lib.hid (KB.out.later hb)
    clear hb U1
    obtain ⟨_, c0, c1, c2, c3, _, _, _, _⟩ := KB.out
    simp only at c0 c1 c2 c3
    go_wp2_with fail
    clear c0 c1 c2 c3
    refine (U2.out _).mono ?_
    rintro e w7 ⟨rfl, hb⟩
    replace hB := Lib.hid (w_below hB.out hb)
    replace KA := Lib.hid (KA.out.later hb)
    replace KB := Lib.hid (KB.out.later hb)
    clear hb U2
    obtain ⟨_, c0, c1, c2, c3, _, _, _, _⟩ := KA.out
    simp only at c0 c1 c2 c3
    go_wp2_with fail
    clear c0 c1 c2 c3
    refine (RD.out _).mono ?_
    rintro e w8 ⟨rfl, hb⟩
    replace hB := Lib.hid (w_below hB.out hb)
    replace KA := Lib.hid (KA.out.later hb)
    replace KB := Lib.hid (KB.out.later hb)
    clear hb RD
    go_wp2_with fail
    refine (OF.out _).mono ?_
    rintro e w9 ⟨rfl, hb⟩
    replace hB := Lib.hid (w_alloc (w_below hB.out hb) (mO (a, b, c, d)))
    replace KA := Lib.hid (KA.out.later hb)
    replace KB := Lib.hid (KB.out.later hb)
    clear hb OF
    obtain ⟨_, c0, c1, c2, c3, _, _, _, _⟩ := KA.out
    obtain ⟨_, d0, d1, d2, d3, _, _, _, _⟩ := KB.out
    simp only at c0 c1 c2 c3 d0 d1 d2 d3
    go_wp2_with fail
    go_ret
    exact ⟨rfl, hB.out⟩
  · have ht := beq_no (t := texB q) (s := texB r) (fun e => he (tex_apart hq hr e.symm))
    have hu : (numI q == numI r) = false := by simpa using fun e => he (num_apart hq hr e)
    clear hn hk hq hr
    generalize texB q = t1 at *
    generalize numI q = u1 at *
    generalize texB r = t2 at *
    generalize numI r = u2 at *
    obtain ⟨a, b, c, d⟩ := q
    obtain ⟨a', b', c', d'⟩ := r
    have h4 := ne4 he
    clear he
    go_enter Tryd.func8, Tryd.ntmps8
    go_wp2_with fail
    refine (KN.out _).mono ?_
    rintro e w1 ⟨rfl, hb⟩
    have hB := Lib.hid hb
    clear hb KN
    go_wp2_with fail
    refine (M1.out _).mono ?_
    rintro e w2 ⟨rfl, hb⟩
    replace hB := Lib.hid (w_below hB.out hb)
    clear hb M1
    go_wp2_with fail
    refine (M2.out _).mono ?_
    rintro e w3 ⟨rfl, hb⟩
    have hbX := w_below hB.out hb
    replace hB := Lib.hid (w_alloc (w_alloc hbX (mO (a, b, c, d))) (mO (a', b', c', d')))
    have KA := Lib.hid ((Cell4.made w3 (a, b, c, d) 23).later (w_alloc (w_refl _) (mO (a', b', c', d'))))
    have KB := Lib.hid (Cell4.made (w3.alloc (mO (a, b, c, d))) (a', b', c', d') 23)
    rw [World.size_alloc] at KB
    clear hb hbX M2
    obtain ⟨_, c0, c1, c2, c3, _, _, _, _⟩ := KA.out
    simp only at c0 c1 c2 c3
    go_wp2_with fail
    clear c0 c1 c2 c3
    refine (X1.out _).mono ?_
    rintro e w4 ⟨rfl, hb⟩
    replace hB := Lib.hid (w_below hB.out hb)
    replace KA := Lib.hid (KA.out.later hb)
    replace KB := Lib.hid (KB.out.later hb)
    clear hb X1
    obtain ⟨_, c0, c1, c2, c3, _, _, _, _⟩ := KB.out
    simp only at c0 c1 c2 c3
    go_wp2_with fail
    clear c0 c1 c2 c3
    refine (X2.out _).mono ?_
    rintro e w5 ⟨rfl, hb⟩
    replace hB := Lib.hid (w_below hB.out hb)
    replace KA := Lib.hid (KA.out.later hb)
    replace KB := Lib.hid (KB.out.later hb)
    clear hb X2
    obtain ⟨_, c0, c1, c2, c3, _, _, _, _⟩ := KA.out
    simp only at c0 c1 c2 c3
    go_wp2_with fail
    clear c0 c1 c2 c3
    refine (U1.out _).mono ?_
    rintro e w6 ⟨rfl, hb⟩
    replace hB := Lib.hid (w_below hB.out hb)
    replace KA := Lib.hid (KA.out.later hb)
    replace KB := Lib.hid (KB.out.later hb)
    clear hb U1
    obtain ⟨_, c0, c1, c2, c3, _, _, _, _⟩ := KB.out
    simp only at c0 c1 c2 c3
    go_wp2_with fail
    clear c0 c1 c2 c3
    refine (U2.out _).mono ?_
    rintro e w7 ⟨rfl, hb⟩
    replace hB := Lib.hid (w_below hB.out hb)
    replace KA := Lib.hid (KA.out.later hb)
    replace KB := Lib.hid (KB.out.later hb)
    clear hb U2
    obtain ⟨_, c0, c1, c2, c3, _, _, _, _⟩ := KA.out
    simp only at c0 c1 c2 c3
    go_wp2_with fail
    clear c0 c1 c2 c3
    refine (RD.out _).mono ?_
    rintro e w8 ⟨rfl, hb⟩
    replace hB := Lib.hid (w_below hB.out hb)
    replace KA := Lib.hid (KA.out.later hb)
    replace KB := Lib.hid (KB.out.later hb)
    clear hb RD
    go_wp2_with fail
    refine (OF.out _).mono ?_
    rintro e w9 ⟨rfl, hb⟩
    replace hB := Lib.hid (w_alloc (w_below hB.out hb) (mO (a, b, c, d)))
    replace KA := Lib.hid (KA.out.later hb)
    replace KB := Lib.hid (KB.out.later hb)
    clear hb OF
    obtain ⟨_, c0, c1, c2, c3, _, _, _, _⟩ := KA.out
    obtain ⟨_, d0, d1, d2, d3, _, _, _, _⟩ := KB.out
    simp only at c0 c1 c2 c3 d0 d1 d2 d3
    rcases h4 with h4 | ⟨rfl, h4⟩ | ⟨rfl, rfl, h4⟩ | ⟨rfl, rfl, rfl, h4⟩
    all_goals
      go_wp2_with fail
      go_ret
      exact ⟨rfl, hB.out⟩

end Go.Proofs.YtflgmeajkflobaaDoor
