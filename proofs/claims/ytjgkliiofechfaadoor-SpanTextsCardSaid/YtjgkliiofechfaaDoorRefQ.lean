/- The reference's Parse: for every text. -/
import Derived.Test.YtjgkliiofechfaaDoorRefW
import Derived.Test.YtjgkliiofechfaaDoorRefD
import Derived.Lib.IndexBytes
namespace Go.Proofs.YtjgkliiofechfaaDoor
open Go.RowKit

theorem ref_1 {l : List UInt8} (h : plainL (cutA l) = false) : refP l = (0, 0, 3) := by unfold refP; rw [if_pos (.inl h)]
theorem ref_2 {l : List UInt8} (h : cutR l ≠ []) (h2 : plainL ((cutR l).drop 1) = false) : refP l = (0, 0, 3) := by unfold refP; rw [if_pos (.inr ⟨h, h2⟩)]
theorem ref_3 {l : List UInt8} (h : plainL (cutA l) = true) (h2 : cutR l = [] ∨ plainL ((cutR l).drop 1) = true) (h3 : numL 1099511627776 0 (cutA l) = none) : refP l = (0, 0, 4) := by
  unfold refP
  rw [if_neg, h3]
  rintro (x | ⟨x, y⟩)
  · rw [h] at x; exact absurd x (by simp)
  · rcases h2 with z | z
    · exact x z
    · rw [z] at y; exact absurd y (by simp)
theorem ref_4 {l : List UInt8} {n : Int} (h : plainL (cutA l) = true) (h2 : cutR l = []) (h3 : numL 1099511627776 0 (cutA l) = some n) : refP l = (n, 1, 0) := by
  unfold refP
  rw [if_neg, h3]
  · show (if cutR l = [] then _ else _) = _
    rw [if_pos h2]
  · rintro (x | ⟨x, y⟩)
    · rw [h] at x; exact absurd x (by simp)
    · exact x h2
theorem ref_5 {l : List UInt8} {n : Int} (h : plainL (cutA l) = true) (h1 : cutR l ≠ []) (h2 : plainL ((cutR l).drop 1) = true) (h3 : numL 1099511627776 0 (cutA l) = some n) :
    refP l = (match numL 1048576 0 ((cutR l).drop 1) with | none => (0, 0, 4) | some d => if d < 2 ∨ gcdI n d ≠ 1 then (0, 0, 3) else (n, d, 0)) := by
  unfold refP
  rw [if_neg, h3]
  · show (if cutR l = [] then _ else _) = _
    rw [if_neg h1]
    rfl
  · rintro (x | ⟨x, y⟩)
    · rw [h] at x; exact absurd x (by simp)
    · rw [h2] at y; exact absurd y (by simp)

theorem numL_bds {most n : Int} {l : List UInt8} (hm : most ≤ 1099511627776) (h0 : 0 ≤ most) (hd : l.all isD = true) (h : numL most 0 l = some n) : 0 ≤ n ∧ n ≤ most := by
  rw [numL_cv most hm l 0 (by omega) h0 hd] at h
  split at h
  · cases h
  · cases h; exact ⟨cv_bds l hd, by omega⟩

theorem cut_parts (l : List UInt8) : cutA l ++ cutR l = l := List.takeWhile_append_dropWhile
theorem cutA_len (l : List UInt8) : (cutA l).length ≤ l.length := by
  have := congrArg List.length (cut_parts l)
  simp only [List.length_append] at this
  omega
theorem cut_take (l : List UInt8) : l.take (cutA l).length = cutA l := by
  have h := cut_parts l
  rw [show l.take (cutA l).length = (cutA l ++ cutR l).take (cutA l).length by rw [h]]
  simp
theorem cut_drop (l : List UInt8) : l.drop (cutA l).length = cutR l := by
  have h := cut_parts l
  rw [show l.drop (cutA l).length = (cutA l ++ cutR l).drop (cutA l).length by rw [h]]
  simp
theorem cut_end (l : List UInt8) : cutR l = [] ↔ (cutA l).length = l.length := by
  have := congrArg List.length (cut_parts l)
  simp only [List.length_append] at this
  constructor
  · intro h; rw [h] at this; simpa using this
  · intro h; exact List.length_eq_zero_iff.1 (by omega)
theorem cut_at : ∀ (l : List UInt8) (k : Nat) (hk : k < l.length), k ≤ (cutA l).length → ((l[k] == 47) = true ↔ k = (cutA l).length)
  | [], k, hk, _ => by simp at hk
  | c :: t, 0, _, _ => by
    by_cases h : c = 47
    · subst h; simp [cutA]
    · simp [cutA, h]
  | c :: t, k + 1, hk, h1 => by
    by_cases h : c = 47
    · subst h; simp [cutA] at h1
    · have e : cutA (c :: t) = c :: cutA t := by simp [cutA, h]
      rw [e] at h1 ⊢
      have := cut_at t k (by simpa using hk) (by simpa using h1)
      simpa using this

theorem byte47 (c : UInt8) : (c == 47) = ((c.toNat : Int) == 47) := by
  by_cases h : c = 47
  · subst h; rfl
  · have h2 : ¬ c.toNat = 47 := fun x => h (UInt8.toNat_inj.1 (by rw [x]; rfl))
    have x1 : (c == 47) = false := by simp [h]
    have x2 : ((c.toNat : Int) == 47) = false := by rw [beq_eq_false_iff_ne]; omega
    rw [x1, x2]

/-- What the reference's Parse goes by: where the text is cut, and what its parts are. -/
structure CutAt (s : ByteArray) (p : Nat) (bA bB : Bool) (oA oB : Option Int) : Prop where
  le : p ≤ s.size
  at47 : ∀ k (h : k < s.size), k ≤ p → (((s[k].toNat : Int) == 47) = true ↔ k = p)
  nil : cutR s.data.toList = [] ↔ p = s.size
  pa : plainL (cutA s.data.toList) = bA
  pb : plainL ((cutR s.data.toList).drop 1) = bB
  na : numL 1099511627776 0 (cutA s.data.toList) = oA
  nb : numL 1048576 0 ((cutR s.data.toList).drop 1) = oB
  plA : ∀ W, Calls Tryd.prog 57 #[.string (s.extract 0 p)] W fun e w' => e = .returned (.bool bA) ∧ W = w'
  plB : ∀ W, Calls Tryd.prog 57 #[.string (s.extract (p + 1) s.size)] W fun e w' => e = .returned (.bool bB) ∧ W = w'
  nuA : bA = true → ∀ W, Calls Tryd.prog 58 #[.string (s.extract 0 p), .int .i64 1099511627776] W fun e w' => e = .returned (numV oA) ∧ W = w'
  nuB : bB = true → ∀ W, Calls Tryd.prog 58 #[.string (s.extract (p + 1) s.size), .int .i64 1048576] W fun e w' => e = .returned (numV oB) ∧ W = w'
  bdA : bA = true → ∀ n, oA = some n → 0 ≤ n ∧ n ≤ 1099511627776
  bdB : bB = true → ∀ n, oB = some n → 0 ≤ n ∧ n ≤ 1048576

theorem cutAt (s : ByteArray) (hs : s.size ≤ maxLen) : ∃ p bA bB oA oB, CutAt s p bA bB oA oB := by
  have e0 : s.data.toList.length = s.size := by simp
  have hle := cutA_len s.data.toList
  have eA : (s.extract 0 (cutA s.data.toList).length).data.toList = cutA s.data.toList := by
    rw [Lib.extract_data]
    simp only [List.drop_zero, Nat.sub_zero]
    exact cut_take _
  have eB : (s.extract ((cutA s.data.toList).length + 1) s.size).data.toList = (cutR s.data.toList).drop 1 := by
    rw [Go.Lib.extract_to_end, ← cut_drop, List.drop_drop]
  have zA : (s.extract 0 (cutA s.data.toList).length).size ≤ maxLen := by rw [ByteArray.size_extract]; omega
  have zB : (s.extract ((cutA s.data.toList).length + 1) s.size).size ≤ maxLen := by rw [ByteArray.size_extract]; omega
  refine ⟨(cutA s.data.toList).length, _, _, _, _, by omega, ?_, ?_, rfl, rfl, rfl, rfl, ?_, ?_, ?_, ?_, ?_, ?_⟩
  · intro k h h1
    have := cut_at s.data.toList k (by omega) h1
    rw [← this, ← byte47]; exact Iff.rfl
  · rw [cut_end, e0]
  · intro W; have := plain_any _ W zA; rw [eA] at this; exact this
  · intro W; have := plain_any _ W zB; rw [eB] at this; exact this
  · intro h W; have := number_any _ 1099511627776 W zA (by omega) (by omega) (by rw [eA]; exact (plain_all h).1); rw [eA] at this; exact this
  · intro h W; have := number_any _ 1048576 W zB (by omega) (by omega) (by rw [eB]; exact (plain_all h).1); rw [eB] at this; exact this
  · intro h n hn; exact numL_bds (by omega) (by omega) (plain_all h).1 hn
  · intro h n hn; exact numL_bds (by omega) (by omega) (plain_all h).1 hn

set_option maxHeartbeats 4000000 in
theorem rparse_any (s : ByteArray) (w : World) (hs : s.size ≤ maxLen) :
    Calls Tryd.prog 37 #[.string s] w fun e w' => e = .returned (tev (refP s.data.toList)) ∧ Below w.heap.size w w' := by
  obtain ⟨p, bA, bB, oA, oB, h⟩ := cutAt s hs
  unfold maxLen at hs
  have hp := h.le
  have H := Lib.hid h
  clear h
  obtain ⟨i0, o0, o1, o2, o3⟩ := Own2.made w 0 0 23
  go_enter Tryd.func37, Tryd.ntmps37
  go_wp2_with fail
  go_loop [4, 5] (fun c i => ∃ cn k : Nat, k ≤ s.size ∧ cn ≤ s.size ∧ c = .int .i64 cn ∧ i = .int .i64 k ∧ Hid ((cn = s.size ∧ k ≤ p) ∨ (cn = p ∧ p < s.size ∧ k = p + 1))) (fun _ i => s.size - (intOf i).toNat)
  case atStart => exact ⟨s.size, 0, by omega, by omega, rfl, rfl, Lib.hid (.inl ⟨rfl, by omega⟩)⟩
  case round =>
    obtain ⟨cn, k, hk, hcn, rfl, rfl, hd⟩ := hrel
    by_cases hgo : k < s.size ∧ cn = s.size ∧ k ≤ p
    · obtain ⟨hlt, rfl, hkp⟩ := hgo
      have q1 : ((s.size : Int) == (s.size : Int)) = true := by simp
      by_cases h47 : ((s[k].toNat : Int) == 47) = true
      · have hkp2 := Lib.hid ((H.out.at47 k hlt hkp).1 h47)
        clear hd
        go_wp2_with fail
        go_round
        case rel => exact ⟨k, k + 1, by omega, by omega, rfl, by go_num, Lib.hid (.inr (by have := hkp2.out; omega))⟩
        case measure => simp [intOf]; omega
      · have hkp2 : k ≠ p := fun x => h47 ((H.out.at47 k hlt hkp).2 x)
        have h47' : ((s[k].toNat : Int) == 47) = false := by simpa using h47
        clear hd h47
        go_wp2_with fail
        go_round
        case rel => exact ⟨s.size, k + 1, by omega, by omega, rfl, by go_num, Lib.hid (.inl ⟨rfl, by omega⟩)⟩
        case measure => simp [intOf]; omega
    · obtain rfl : cn = p := by rcases hd.out with x | x <;> omega
      have hex : k < s.size → ¬ (cn : Int) = s.size := by
        intro x y
        rcases hd.out with z | z <;> omega
      clear hd hgo
      have PA := Lib.hid H.out.plA
      have PB := Lib.hid H.out.plB
      by_cases hk2 : k < s.size
      · have hq : ¬ (cn : Int) = s.size := hex hk2
        have hq2 : ((cn : Int) == s.size) = false := by simpa using hq
        clear hex hq
        cases bA with
        | false =>
          have hr := Lib.hid (ref_1 H.out.pa)
          go_wp2_with fail
          refine (PA.out _).mono ?_
          rintro e w1 ⟨rfl, rfl⟩
          go_wp2_with fail
          refine bodyPost_ret (v := .tuple #[.agg #[.int .i64 0, .int .i64 0], .int .i64 3]) (by simp [results, Tryd.results37, go_sem, o0, o1]) rfl ⟨by rw [hr.out], ?_⟩
          exact by repeat (first | exact br _ | refine ba ?_ _ | refine bs ?_ (by first | (simp; done) | (simp; omega) | omega) _)
        | true =>
          by_cases hend : cn = s.size
          · exact absurd hend (by have := hq2; rw [beq_eq_false_iff_ne] at this; omega)
          · have hend2 := Lib.hid (show cutR s.data.toList ≠ [] from fun x => hend (H.out.nil.1 x))
            have hlt2 : (cn : Int) < s.size := by omega
            have heq2 : ((cn : Int) == s.size) = false := by rw [beq_eq_false_iff_ne]; omega
            clear hend
            cases bB with
            | false =>
              have hr := Lib.hid (ref_2 hend2.out H.out.pb)
              go_wp2_with fail
              refine (PA.out _).mono ?_
              rintro e w1 ⟨rfl, rfl⟩
              go_wp2_with fail
              refine (PB.out _).mono ?_
              rintro e w1 ⟨rfl, rfl⟩
              go_wp2_with fail
              refine bodyPost_ret (v := .tuple #[.agg #[.int .i64 0, .int .i64 0], .int .i64 3]) (by simp [results, Tryd.results37, go_sem, o0, o1]) rfl ⟨by rw [hr.out], ?_⟩
              exact by repeat (first | exact br _ | refine ba ?_ _ | refine bs ?_ (by first | (simp; done) | (simp; omega) | omega) _)
            | true =>
              cases oA with
              | none =>
                have NA := Lib.hid (show ∀ W, Calls Tryd.prog 58 #[.string (s.extract 0 cn), .int .i64 1099511627776] W fun e w' => e = .returned (.tuple #[.int .i64 0, .bool false]) ∧ W = w' from H.out.nuA rfl)
                have hr := Lib.hid (ref_3 H.out.pa (.inr H.out.pb) H.out.na)
                go_wp2_with fail
                refine (PA.out _).mono ?_
                rintro e w1 ⟨rfl, rfl⟩
                go_wp2_with fail
                refine (PB.out _).mono ?_
                rintro e w1 ⟨rfl, rfl⟩
                go_wp2_with fail
                refine (NA.out _).mono ?_
                rintro e w1 ⟨rfl, rfl⟩
                go_wp2_with fail
                refine bodyPost_ret (v := .tuple #[.agg #[.int .i64 0, .int .i64 0], .int .i64 4]) (by simp [results, Tryd.results37, go_sem, o0, o1]) rfl ⟨by rw [hr.out], ?_⟩
                exact by repeat (first | exact br _ | refine ba ?_ _ | refine bs ?_ (by first | (simp; done) | (simp; omega) | omega) _)
              | some n =>
                have NA := Lib.hid (show ∀ W, Calls Tryd.prog 58 #[.string (s.extract 0 cn), .int .i64 1099511627776] W fun e w' => e = .returned (.tuple #[.int .i64 n, .bool true]) ∧ W = w' from H.out.nuA rfl)
                have b5 := Lib.hid (ref_5 H.out.pa hend2.out H.out.pb H.out.na)
                obtain ⟨n0, n1⟩ := H.out.bdA rfl n rfl
                cases oB with
                | none =>
                  have NB := Lib.hid (show ∀ W, Calls Tryd.prog 58 #[.string (s.extract (cn + 1) s.size), .int .i64 1048576] W fun e w' => e = .returned (.tuple #[.int .i64 0, .bool false]) ∧ W = w' from H.out.nuB rfl)
                  have hr := Lib.hid (show refP s.data.toList = (0, 0, 4) by rw [b5.out, H.out.nb])
                  go_wp2_with fail
                  refine (PA.out _).mono ?_
                  rintro e w1 ⟨rfl, rfl⟩
                  go_wp2_with fail
                  refine (PB.out _).mono ?_
                  rintro e w1 ⟨rfl, rfl⟩
                  go_wp2_with fail
                  refine (NA.out _).mono ?_
                  rintro e w1 ⟨rfl, rfl⟩
                  go_wp2_with fail
                  refine (NB.out _).mono ?_
                  rintro e w1 ⟨rfl, rfl⟩
                  go_wp2_with fail
                  refine bodyPost_ret (v := .tuple #[.agg #[.int .i64 0, .int .i64 0], .int .i64 4]) (by simp [results, Tryd.results37, go_sem, o0, o1]) rfl ⟨by rw [hr.out], ?_⟩
                  exact by repeat (first | exact br _ | refine ba ?_ _ | refine bs ?_ (by first | (simp; done) | (simp; omega) | omega) _)
                | some d =>
                  have NB := Lib.hid (show ∀ W, Calls Tryd.prog 58 #[.string (s.extract (cn + 1) s.size), .int .i64 1048576] W fun e w' => e = .returned (.tuple #[.int .i64 d, .bool true]) ∧ W = w' from H.out.nuB rfl)
                  have b6 := Lib.hid (show refP s.data.toList = if d < 2 ∨ gcdI n d ≠ 1 then (0, 0, 3) else (n, d, 0) by rw [b5.out, H.out.nb])
                  obtain ⟨d0, d1⟩ := H.out.bdB rfl d rfl
                  by_cases hd2 : d < 2
                  · have hr := Lib.hid (show refP s.data.toList = (0, 0, 3) by rw [b6.out, if_pos (.inl hd2)])
                    go_wp2_with fail
                    refine (PA.out _).mono ?_
                    rintro e w1 ⟨rfl, rfl⟩
                    go_wp2_with fail
                    refine (PB.out _).mono ?_
                    rintro e w1 ⟨rfl, rfl⟩
                    go_wp2_with fail
                    refine (NA.out _).mono ?_
                    rintro e w1 ⟨rfl, rfl⟩
                    go_wp2_with fail
                    refine (NB.out _).mono ?_
                    rintro e w1 ⟨rfl, rfl⟩
                    go_wp2_with fail
                    refine bodyPost_ret (v := .tuple #[.agg #[.int .i64 0, .int .i64 0], .int .i64 3]) (by simp [results, Tryd.results37, go_sem, o0, o1]) rfl ⟨by rw [hr.out], ?_⟩
                    exact by repeat (first | exact br _ | refine ba ?_ _ | refine bs ?_ (by first | (simp; done) | (simp; omega) | omega) _)
                  · have G := Lib.hid (fun W => gcd_any n d W (by omega) (by omega) (by omega) (by omega))
                    by_cases hg : gcdI n d = 1
                    · have hr := Lib.hid (show refP s.data.toList = (n, d, 0) by rw [b6.out, if_neg (by omega)])
                      rw [hg] at G
                      clear hg
                      go_wp2_with fail
                      refine (PA.out _).mono ?_
                      rintro e w1 ⟨rfl, rfl⟩
                      go_wp2_with fail
                      refine (PB.out _).mono ?_
                      rintro e w1 ⟨rfl, rfl⟩
                      go_wp2_with fail
                      refine (NA.out _).mono ?_
                      rintro e w1 ⟨rfl, rfl⟩
                      go_wp2_with fail
                      refine (NB.out _).mono ?_
                      rintro e w1 ⟨rfl, rfl⟩
                      go_wp2_with fail
                      refine (G.out _).mono ?_
                      rintro e w1 ⟨rfl, rfl⟩
                      go_wp2_with fail
                      refine bodyPost_ret (v := .tuple #[.agg #[.int .i64 n, .int .i64 d], .int .i64 0]) (by simp [results, Tryd.results37, go_sem]) rfl ⟨by rw [hr.out], ?_⟩
                      exact by repeat (first | exact br _ | refine ba ?_ _ | refine bs ?_ (by first | (simp; done) | (simp; omega) | omega) _)
                    · have hr := Lib.hid (show refP s.data.toList = (0, 0, 3) by rw [b6.out, if_pos (.inr hg)])
                      have hg2 : (gcdI n d != 1) = true := by simp [hg]
                      clear hg
                      go_wp2_with fail
                      refine (PA.out _).mono ?_
                      rintro e w1 ⟨rfl, rfl⟩
                      go_wp2_with fail
                      refine (PB.out _).mono ?_
                      rintro e w1 ⟨rfl, rfl⟩
                      go_wp2_with fail
                      refine (NA.out _).mono ?_
                      rintro e w1 ⟨rfl, rfl⟩
                      go_wp2_with fail
                      refine (NB.out _).mono ?_
                      rintro e w1 ⟨rfl, rfl⟩
                      go_wp2_with fail
                      refine (G.out _).mono ?_
                      rintro e w1 ⟨rfl, rfl⟩
                      go_wp2_with fail
                      refine bodyPost_ret (v := .tuple #[.agg #[.int .i64 0, .int .i64 0], .int .i64 3]) (by simp [results, Tryd.results37, go_sem, o0, o1]) rfl ⟨by rw [hr.out], ?_⟩
                      exact by repeat (first | exact br _ | refine ba ?_ _ | refine bs ?_ (by first | (simp; done) | (simp; omega) | omega) _)
      · clear hex
        cases bA with
        | false =>
          have hr := Lib.hid (ref_1 H.out.pa)
          go_wp2_with fail
          refine (PA.out _).mono ?_
          rintro e w1 ⟨rfl, rfl⟩
          go_wp2_with fail
          refine bodyPost_ret (v := .tuple #[.agg #[.int .i64 0, .int .i64 0], .int .i64 3]) (by simp [results, Tryd.results37, go_sem, o0, o1]) rfl ⟨by rw [hr.out], ?_⟩
          exact by repeat (first | exact br _ | refine ba ?_ _ | refine bs ?_ (by first | (simp; done) | (simp; omega) | omega) _)
        | true =>
          by_cases hend : cn = s.size
          · have hend2 := H.out.nil.2 hend
            have hlt2 : ¬ (cn : Int) < s.size := by omega
            have heq2 : ((cn : Int) == s.size) = true := by rw [beq_iff_eq]; omega
            cases oA with
            | none =>
              have NA := Lib.hid (show ∀ W, Calls Tryd.prog 58 #[.string (s.extract 0 cn), .int .i64 1099511627776] W fun e w' => e = .returned (.tuple #[.int .i64 0, .bool false]) ∧ W = w' from H.out.nuA rfl)
              have hr := Lib.hid (ref_3 H.out.pa (.inl hend2) H.out.na)
              clear hend2 hend
              go_wp2_with fail
              refine (PA.out _).mono ?_
              rintro e w1 ⟨rfl, rfl⟩
              go_wp2_with fail
              refine (NA.out _).mono ?_
              rintro e w1 ⟨rfl, rfl⟩
              go_wp2_with fail
              refine bodyPost_ret (v := .tuple #[.agg #[.int .i64 0, .int .i64 0], .int .i64 4]) (by simp [results, Tryd.results37, go_sem, o0, o1]) rfl ⟨by rw [hr.out], ?_⟩
              exact by repeat (first | exact br _ | refine ba ?_ _ | refine bs ?_ (by first | (simp; done) | (simp; omega) | omega) _)
            | some n =>
              have NA := Lib.hid (show ∀ W, Calls Tryd.prog 58 #[.string (s.extract 0 cn), .int .i64 1099511627776] W fun e w' => e = .returned (.tuple #[.int .i64 n, .bool true]) ∧ W = w' from H.out.nuA rfl)
              have hr := Lib.hid (ref_4 H.out.pa hend2 H.out.na)
              clear hend2 hend
              go_wp2_with fail
              refine (PA.out _).mono ?_
              rintro e w1 ⟨rfl, rfl⟩
              go_wp2_with fail
              refine (NA.out _).mono ?_
              rintro e w1 ⟨rfl, rfl⟩
              go_wp2_with fail
              refine bodyPost_ret (v := .tuple #[.agg #[.int .i64 n, .int .i64 1], .int .i64 0]) (by simp [results, Tryd.results37, go_sem]) rfl ⟨by rw [hr.out], ?_⟩
              exact by repeat (first | exact br _ | refine ba ?_ _ | refine bs ?_ (by first | (simp; done) | (simp; omega) | omega) _)
          · have hend2 := Lib.hid (show cutR s.data.toList ≠ [] from fun x => hend (H.out.nil.1 x))
            have hlt2 : (cn : Int) < s.size := by omega
            have heq2 : ((cn : Int) == s.size) = false := by rw [beq_eq_false_iff_ne]; omega
            clear hend
            cases bB with
            | false =>
              have hr := Lib.hid (ref_2 hend2.out H.out.pb)
              go_wp2_with fail
              refine (PA.out _).mono ?_
              rintro e w1 ⟨rfl, rfl⟩
              go_wp2_with fail
              refine (PB.out _).mono ?_
              rintro e w1 ⟨rfl, rfl⟩
              go_wp2_with fail
              refine bodyPost_ret (v := .tuple #[.agg #[.int .i64 0, .int .i64 0], .int .i64 3]) (by simp [results, Tryd.results37, go_sem, o0, o1]) rfl ⟨by rw [hr.out], ?_⟩
              exact by repeat (first | exact br _ | refine ba ?_ _ | refine bs ?_ (by first | (simp; done) | (simp; omega) | omega) _)
            | true =>
              cases oA with
              | none =>
                have NA := Lib.hid (show ∀ W, Calls Tryd.prog 58 #[.string (s.extract 0 cn), .int .i64 1099511627776] W fun e w' => e = .returned (.tuple #[.int .i64 0, .bool false]) ∧ W = w' from H.out.nuA rfl)
                have hr := Lib.hid (ref_3 H.out.pa (.inr H.out.pb) H.out.na)
                go_wp2_with fail
                refine (PA.out _).mono ?_
                rintro e w1 ⟨rfl, rfl⟩
                go_wp2_with fail
                refine (PB.out _).mono ?_
                rintro e w1 ⟨rfl, rfl⟩
                go_wp2_with fail
                refine (NA.out _).mono ?_
                rintro e w1 ⟨rfl, rfl⟩
                go_wp2_with fail
                refine bodyPost_ret (v := .tuple #[.agg #[.int .i64 0, .int .i64 0], .int .i64 4]) (by simp [results, Tryd.results37, go_sem, o0, o1]) rfl ⟨by rw [hr.out], ?_⟩
                exact by repeat (first | exact br _ | refine ba ?_ _ | refine bs ?_ (by first | (simp; done) | (simp; omega) | omega) _)
              | some n =>
                have NA := Lib.hid (show ∀ W, Calls Tryd.prog 58 #[.string (s.extract 0 cn), .int .i64 1099511627776] W fun e w' => e = .returned (.tuple #[.int .i64 n, .bool true]) ∧ W = w' from H.out.nuA rfl)
                have b5 := Lib.hid (ref_5 H.out.pa hend2.out H.out.pb H.out.na)
                obtain ⟨n0, n1⟩ := H.out.bdA rfl n rfl
                cases oB with
                | none =>
                  have NB := Lib.hid (show ∀ W, Calls Tryd.prog 58 #[.string (s.extract (cn + 1) s.size), .int .i64 1048576] W fun e w' => e = .returned (.tuple #[.int .i64 0, .bool false]) ∧ W = w' from H.out.nuB rfl)
                  have hr := Lib.hid (show refP s.data.toList = (0, 0, 4) by rw [b5.out, H.out.nb])
                  go_wp2_with fail
                  refine (PA.out _).mono ?_
                  rintro e w1 ⟨rfl, rfl⟩
                  go_wp2_with fail
                  refine (PB.out _).mono ?_
                  rintro e w1 ⟨rfl, rfl⟩
                  go_wp2_with fail
                  refine (NA.out _).mono ?_
                  rintro e w1 ⟨rfl, rfl⟩
                  go_wp2_with fail
                  refine (NB.out _).mono ?_
                  rintro e w1 ⟨rfl, rfl⟩
                  go_wp2_with fail
                  refine bodyPost_ret (v := .tuple #[.agg #[.int .i64 0, .int .i64 0], .int .i64 4]) (by simp [results, Tryd.results37, go_sem, o0, o1]) rfl ⟨by rw [hr.out], ?_⟩
                  exact by repeat (first | exact br _ | refine ba ?_ _ | refine bs ?_ (by first | (simp; done) | (simp; omega) | omega) _)
                | some d =>
                  have NB := Lib.hid (show ∀ W, Calls Tryd.prog 58 #[.string (s.extract (cn + 1) s.size), .int .i64 1048576] W fun e w' => e = .returned (.tuple #[.int .i64 d, .bool true]) ∧ W = w' from H.out.nuB rfl)
                  have b6 := Lib.hid (show refP s.data.toList = if d < 2 ∨ gcdI n d ≠ 1 then (0, 0, 3) else (n, d, 0) by rw [b5.out, H.out.nb])
                  obtain ⟨d0, d1⟩ := H.out.bdB rfl d rfl
                  by_cases hd2 : d < 2
                  · have hr := Lib.hid (show refP s.data.toList = (0, 0, 3) by rw [b6.out, if_pos (.inl hd2)])
                    go_wp2_with fail
                    refine (PA.out _).mono ?_
                    rintro e w1 ⟨rfl, rfl⟩
                    go_wp2_with fail
                    refine (PB.out _).mono ?_
                    rintro e w1 ⟨rfl, rfl⟩
                    go_wp2_with fail
                    refine (NA.out _).mono ?_
                    rintro e w1 ⟨rfl, rfl⟩
                    go_wp2_with fail
                    refine (NB.out _).mono ?_
                    rintro e w1 ⟨rfl, rfl⟩
                    go_wp2_with fail
                    refine bodyPost_ret (v := .tuple #[.agg #[.int .i64 0, .int .i64 0], .int .i64 3]) (by simp [results, Tryd.results37, go_sem, o0, o1]) rfl ⟨by rw [hr.out], ?_⟩
                    exact by repeat (first | exact br _ | refine ba ?_ _ | refine bs ?_ (by first | (simp; done) | (simp; omega) | omega) _)
                  · have G := Lib.hid (fun W => gcd_any n d W (by omega) (by omega) (by omega) (by omega))
                    by_cases hg : gcdI n d = 1
                    · have hr := Lib.hid (show refP s.data.toList = (n, d, 0) by rw [b6.out, if_neg (by omega)])
                      rw [hg] at G
                      clear hg
                      go_wp2_with fail
                      refine (PA.out _).mono ?_
                      rintro e w1 ⟨rfl, rfl⟩
                      go_wp2_with fail
                      refine (PB.out _).mono ?_
                      rintro e w1 ⟨rfl, rfl⟩
                      go_wp2_with fail
                      refine (NA.out _).mono ?_
                      rintro e w1 ⟨rfl, rfl⟩
                      go_wp2_with fail
                      refine (NB.out _).mono ?_
                      rintro e w1 ⟨rfl, rfl⟩
                      go_wp2_with fail
                      refine (G.out _).mono ?_
                      rintro e w1 ⟨rfl, rfl⟩
                      go_wp2_with fail
                      refine bodyPost_ret (v := .tuple #[.agg #[.int .i64 n, .int .i64 d], .int .i64 0]) (by simp [results, Tryd.results37, go_sem]) rfl ⟨by rw [hr.out], ?_⟩
                      exact by repeat (first | exact br _ | refine ba ?_ _ | refine bs ?_ (by first | (simp; done) | (simp; omega) | omega) _)
                    · have hr := Lib.hid (show refP s.data.toList = (0, 0, 3) by rw [b6.out, if_pos (.inr hg)])
                      have hg2 : (gcdI n d != 1) = true := by simp [hg]
                      clear hg
                      go_wp2_with fail
                      refine (PA.out _).mono ?_
                      rintro e w1 ⟨rfl, rfl⟩
                      go_wp2_with fail
                      refine (PB.out _).mono ?_
                      rintro e w1 ⟨rfl, rfl⟩
                      go_wp2_with fail
                      refine (NA.out _).mono ?_
                      rintro e w1 ⟨rfl, rfl⟩
                      go_wp2_with fail
                      refine (NB.out _).mono ?_
                      rintro e w1 ⟨rfl, rfl⟩
                      go_wp2_with fail
                      refine (G.out _).mono ?_
                      rintro e w1 ⟨rfl, rfl⟩
                      go_wp2_with fail
                      refine bodyPost_ret (v := .tuple #[.agg #[.int .i64 0, .int .i64 0], .int .i64 3]) (by simp [results, Tryd.results37, go_sem, o0, o1]) rfl ⟨by rw [hr.out], ?_⟩
                      exact by repeat (first | exact br _ | refine ba ?_ _ | refine bs ?_ (by first | (simp; done) | (simp; omega) | omega) _)

end Go.Proofs.YtjgkliiofechfaaDoor
