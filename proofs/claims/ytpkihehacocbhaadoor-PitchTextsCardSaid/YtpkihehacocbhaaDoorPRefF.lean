/- The reference's pitch of a text. -/
import Derived.Test.YtpkihehacocbhaaDoorPRefE
namespace Go.Proofs.YtpkihehacocbhaaDoor
open Go.RowKit

def ParsePost (s : ByteArray) (w : World) (e : Ending) (w' : World) : Prop := ∃ r : Pi3 × Int, ParseR s r ∧ e = .returned (.tuple #[pv r.1, .int .i64 r.2]) ∧ Below w.heap.size w w'
/-- The pitch with a number and an Alter. -/
def atP (n : Nat) (k : Int) : Pi3 := ((n : Int) % 7, (n : Int) / 7, k)
theorem atP_ok {n : Nat} {k : Int} (hn : n ≤ 62) (h1 : -1 ≤ k) (h2 : k ≤ 1) : okP (atP n k) := ofV_okP ⟨⟨by omega, by omega⟩, h1, h2⟩
theorem atP_of {p : Pi3} (h : okP p) : ∃ n : Nat, n ≤ 62 ∧ p = atP n p.2.2 := by
  obtain ⟨h1, h2⟩ := num_bd h
  refine ⟨(numI p).toNat, by omega, ?_⟩
  have e : ((numI p).toNat : Int) = numI p := by omega
  unfold atP
  rw [e]
  have := of_num h
  rw [of_ok ⟨⟨h1, h2⟩, h.2.2⟩] at this
  exact (congrArg Prod.fst this).symm
theorem parse_none {s : ByteArray} (h : ∀ n : Nat, n < 63 → ∀ k : Int, -1 ≤ k → k ≤ 1 → s ≠ ⟨(textL (atP n k)).toArray⟩) : ParseR s ((0, 0, 0), 3) :=
  .inr ⟨fun p hp => by
    obtain ⟨n, hn, e⟩ := atP_of hp
    rw [e]
    exact h n (by omega) _ hp.2.2.1 hp.2.2.2, rfl⟩

theorem beq_no {t s : ByteArray} (h : s ≠ t) : (t.toList == s.toList) = false := by
  rw [Lib.toList_data, Lib.toList_data, beq_eq_false_iff_ne]
  intro e
  exact h (by cases s; cases t; congr; exact (Array.toList_inj.1 e).symm)

set_option maxHeartbeats 4000000 in
theorem rparse_any (s : ByteArray) (w : World) : Calls Tryd.prog 30 #[.string s] w (ParsePost s w) := by
  have RES := Lib.hid (Cell3.made w (0, 0, 0) 23)
  go_enter Tryd.func30, Tryd.ntmps30
  go_wp2_with fail
  go_loopw [4] (fun i wr => ∃ n : Nat, n ≤ 63 ∧ i = .int .i64 n ∧ Hid (Below (w.alloc (.cells #[.int .i64 0, .int .i64 0, .int .i64 0] 23)).heap.size (w.alloc (.cells #[.int .i64 0, .int .i64 0, .int .i64 0] 23)) wr) ∧ Hid (∀ m : Nat, m < n → ∀ k : Int, -1 ≤ k → k ≤ 1 → s ≠ ⟨(textL (atP m k)).toArray⟩)) (fun i _ => 63 - (intOf i).toNat)
  case atStart => exact ⟨0, by omega, rfl, Lib.hid (w_refl _), Lib.hid (fun m h => by omega)⟩
  case round =>
    obtain ⟨n, hn, rfl, hb, hall⟩ := hrel
    by_cases hlt : n < 63
    · have hlt' : (n : Int) < 63 := by omega
      go_wp2_with fail
      go_loopw [5] (fun j wq => ∃ k : Int, -1 ≤ k ∧ k ≤ 2 ∧ j = .int .i64 k ∧ Hid (Below wr.heap.size wr wq) ∧ Hid (∀ k' : Int, -1 ≤ k' → k' < k → s ≠ ⟨(textL (atP n k')).toArray⟩)) (fun j _ => (2 - intOf j).toNat)
      case atStart => exact ⟨-1, by omega, by omega, rfl, Lib.hid (w_refl _), Lib.hid (fun k' h1 h2 => by omega)⟩
      case round =>
        obtain ⟨k, hk1, hk2, rfl, hb2, hall2⟩ := hrel
        by_cases hlk : k ≤ 1
        · have hok := atP_ok (show n ≤ 62 by omega) hk1 hlk
          have O := Lib.hid (fun W => rof_any (n : Int) k W)
          rw [of_ok ⟨⟨by omega, by omega⟩, hk1, hlk⟩] at O
          have T := Lib.hid (fun W => rtext_any (atP n k) W)
          unfold TextPost at T
          rw [textV_ok hok] at T
          unfold OfPost at O
          have POS := Lib.hid (show s = ⟨(textL (atP n k)).toArray⟩ → ParseR s (atP n k, 0) from fun e => .inl ⟨hok, e, rfl⟩)
          have NEG := Lib.hid (show s ≠ ⟨(textL (atP n k)).toArray⟩ → ∀ k' : Int, -1 ≤ k' → k' < k + 1 → s ≠ ⟨(textL (atP n k')).toArray⟩ from fun h k' h1 h2 => by
            by_cases e : k' = k
            · rw [e]; exact h
            · exact hall2.out k' h1 (by omega))
          clear hok hall hall2
          generalize (⟨(textL (atP n k)).toArray⟩ : ByteArray) = t at *
          unfold atP at *
          generalize (n : Int) % 7 = p1 at *
          generalize (n : Int) / 7 = p2 at *
          go_wp2_with fail
          refine (O.out _).mono ?_
          rintro e w1 ⟨rfl, hb3⟩
          have hB := Lib.hid (w_alloc (w_below hb2.out hb3) (.cells #[.int .i64 p1, .int .i64 p2, .int .i64 k] 23))
          clear hb3 O hb2
          go_wp2_with fail
          refine (T.out _).mono ?_
          rintro e w2 ⟨rfl, hb3⟩
          have hB2 := Lib.hid (w_below hB.out hb3)
          obtain ⟨_, q0, q1, q2, _, _, _⟩ := (Cell3.made w1 (p1, p2, k) 23).later hb3
          obtain ⟨hin, d0, d1, d2, f0, f1, f2⟩ := (RES.out.later hb.out).later hB2.out
          simp only at q0 q1 q2
          clear T hB hb3
          by_cases e : s = t
          · have hP := Lib.hid (POS.out e)
            have hfin := Lib.hid (w_below (w_alloc (w_refl w) (.cells #[.int .i64 0, .int .i64 0, .int .i64 0] 23)) (w_below hb.out hB2.out))
            subst e
            clear POS NEG
            go_wp2_with fail
            refine bodyPost_ret (v := .tuple #[pv (p1, p2, k), .int .i64 0]) (by simp [results, Tryd.results30, go_sem, d0, d1, d2]) rfl ⟨_, hP.out, rfl, ?_⟩
            exact w_set (w_set (w_set hfin.out (by simp) _) (by simp) _) (by simp) _
          · have hN := Lib.hid (NEG.out e)
            have hne := beq_no e
            have hb9 := Lib.hid hB2.out
            clear POS NEG
            go_wp2_with fail
            go_roundw
            case rel => exact ⟨k + 1, by omega, by omega, by go_num, hb9, hN⟩
            case measure => simp [intOf]; omega
        · obtain rfl : k = 2 := by omega
          have hall3 := Lib.hid (show ∀ m : Nat, m < n + 1 → ∀ k : Int, -1 ≤ k → k ≤ 1 → s ≠ ⟨(textL (atP m k)).toArray⟩ from fun m hm k h1 h2 => by
            by_cases e : m = n
            · rw [e]; exact hall2.out k h1 (by omega)
            · exact hall.out m (by omega) k h1 h2)
          have hb9 := Lib.hid (w_below hb.out hb2.out)
          clear hall hall2
          go_wp2_with fail
          go_roundw
          case rel => exact ⟨n + 1, by omega, by go_num, hb9, hall3⟩
          case measure => simp [intOf]; omega
    · obtain rfl : n = 63 := by omega
      have hP := Lib.hid (parse_none (fun m hm k h1 h2 => hall.out m hm k h1 h2))
      obtain ⟨hin, d0, d1, d2, f0, f1, f2⟩ := RES.out.later hb.out
      have hfin := Lib.hid (w_below (w_alloc (w_refl w) (.cells #[.int .i64 0, .int .i64 0, .int .i64 0] 23)) hb.out)
      clear hall
      go_wp2_with fail
      refine bodyPost_ret (v := .tuple #[pv (0, 0, 0), .int .i64 3]) (by simp [results, Tryd.results30, go_sem, d0, d1, d2]) rfl ⟨_, hP.out, rfl, ?_⟩
      exact w_set (w_set (w_set hfin.out (by simp) _) (by simp) _) (by simp) _

end Go.Proofs.YtpkihehacocbhaaDoor
