/- The reference's cut: the words of a line, for every line. -/
import Derived.Test.YtdjkgnganbeonaaDoorWMem
namespace Go.Proofs.YtdjkgnganbeonaaDoor
open Go.RowKit

/-- What the words of a line come back as. -/
def CutPost (s : ByteArray) (f : Int) (w : World) (e : Ending) (w' : World) : Prop :=
  ∃ ws b, Cuts s f 0 ws b ∧ ws.length ≤ s.size ∧ Below w.heap.size w w' ∧
    match b with
    | none => ∃ v, e = .returned (.tuple #[v, .int .i64 (-1)]) ∧ w'.ownsRow w.heap.size 53 3 v ws.length (flatW ws)
    | some j => e = .returned (.tuple #[.slice none 0 0, .int .i64 (j : Nat)]) ∧ j < s.size

/-- The words so far, at a place. -/
structure CutInv (s : ByteArray) (f : Int) (w wr : World) (i : Nat) (acc : List Wd) (v : Value) : Prop where
  own : wr.ownsRow w.heap.size 53 3 v acc.length (flatW acc)
  bel : Below w.heap.size w wr
  cuts : ∀ ws b, Cuts s f i ws b → Cuts s f 0 (acc ++ ws) b

theorem CutInv.blank {s : ByteArray} {f : Int} {w wr : World} {i : Nat} {acc : List Wd} {v : Value} (h : CutInv s f w wr i acc v) (hb : bt s i = 32) : CutInv s f w wr (i + 1) acc v :=
  ⟨h.own, h.bel, fun ws b t => h.cuts ws b (.blank hb t)⟩
theorem CutInv.stop {s : ByteArray} {f : Int} {w wr : World} {i : Nat} {acc : List Wd} {v : Value} (h : CutInv s f w wr i acc v) (hl : acc.length ≤ s.size) (hc : Cuts s f i [] none) :
    CutPost s f w (.returned (.tuple #[v, .int .i64 (-1)])) wr :=
  ⟨acc, none, by have := h.cuts [] none hc; rwa [List.append_nil] at this, hl, h.bel, v, rfl, h.own⟩
theorem CutInv.bad {s : ByteArray} {f : Int} {w wr : World} {i : Nat} {acc : List Wd} {v : Value} (h : CutInv s f w wr i acc v) (hl : acc.length ≤ s.size) (hi : i < s.size) (hc : Cuts s f i [] (some i)) :
    CutPost s f w (.returned (.tuple #[.slice none 0 0, .int .i64 i])) wr :=
  ⟨acc, some i, by have := h.cuts [] (some i) hc; rwa [List.append_nil] at this, hl, h.bel, rfl, hi⟩
theorem CutInv.more {s : ByteArray} {f : Int} {w wr w2 : World} {i k : Nat} {acc : List Wd} {v v' : Value} {x : Wd} (h : CutInv s f w wr i acc v)
    (hown : w2.ownsRow w.heap.size 53 3 v' (acc ++ [x]).length (flatW (acc ++ [x]))) (hb : Below w.heap.size w w2) (hc : ∀ ws b, Cuts s f k ws b → Cuts s f i (x :: ws) b) : CutInv s f w w2 k (acc ++ [x]) v' :=
  ⟨hown, hb, fun ws b t => by have := h.cuts (x :: ws) b (hc ws b t); rwa [List.append_assoc]⟩

set_option maxRecDepth 100000 in
set_option maxHeartbeats 4000000 in
theorem rcut_any (s : ByteArray) (f : Int) (w : World) (hs : s.size ≤ 1000000) (f0 : 0 ≤ f) (f1 : f ≤ 1000000) : Calls Tryd.prog 34 #[.string s, .int .i64 f] w (CutPost s f w) := by
  obtain ⟨i0, hi0, hz0, hz1, hz2⟩ := info_parts info_word
  go_enter Tryd.func34, Tryd.ntmps34
  go_wp2_with fail
  go_loopw [6, 7] (fun v x wr => ∃ (i : Nat) (acc : List Wd), i ≤ s.size ∧ acc.length ≤ i ∧ x = .int .i64 i ∧ Hid (CutInv s f w wr i acc v)) (fun _ x _ => s.size - (intOf x).toNat)
  case atStart => exact ⟨0, [], by omega, by simp, rfl, Lib.hid ⟨World.ownsRow_nil _ _ _ _, w_refl w, fun ws b t => t⟩⟩
  case round =>
    obtain ⟨i, acc, hi, hacc, rfl, hinv⟩ := hrel
    by_cases hlt : i < s.size
    · have hb := Lib.hid (bt_in hlt)
      by_cases c1 : (s[i].toNat : Int) = 59
      · have c1' : ((s[i].toNat : Int) != 59) = false := by simpa using c1
        have hfin := Lib.hid (hinv.out.stop (by omega) (.note (by rw [hb.out]; exact c1)))
        clear c1 hb hinv
        go_wp2_with fail
        go_ret2
        exact hfin.out
      · have c1' : ((s[i].toNat : Int) != 59) = true := by simpa using c1
        by_cases c2 : (s[i].toNat : Int) = 32
        · have c2' : ((s[i].toNat : Int) == 32) = true := by simpa using c2
          have hnew := Lib.hid (hinv.out.blank (by rw [hb.out]; exact c2))
          clear c1 c2 hb hinv
          go_wp2_with fail
          go_roundw
          case rel => exact ⟨i + 1, acc, by omega, by omega, by go_num, hnew⟩
          case measure => simp [intOf]; omega
        · have c2' : ((s[i].toNat : Int) == 32) = false := by simpa using c2
          by_cases c3 : (s[i].toNat : Int) = 34
          · have c3' : ((s[i].toNat : Int) == 34) = true := by simpa using c3
            have h34 := Lib.hid (show bt s i = 34 by rw [hb.out]; exact c3)
            have Q := Lib.hid (fun W => rquoted_any s i W (by unfold maxLen; omega) h34.out)
            clear c1 c2 c3 hb
            go_wp2_with fail
            refine (Q.out _).mono ?_
            rintro e w1 ⟨⟨r, rfl, hr⟩, rfl⟩
            clear Q
            rcases hr with ⟨k, rfl, hq⟩ | ⟨rfl, hq⟩
            · have hk1 := hq.long
              have hk2 := hq.fits
              have hq1 := Lib.hid hq
              have k1 : IntKind.i64.wrap ((k : Int) - 1) = ((k - 1 : Nat) : Int) := by rw [IntWalk.i64_in _ (by omega)]; omega
              have k0 : ¬ (k : Int) < 0 := by omega
              have k2 : k - 1 ≤ s.size := by omega
              have k3 : i + 1 ≤ k - 1 := by omega
              have hown := Lib.hid (hinv.out.own.alloc (.cells #[.int .i64 (f + i), .string (s.extract (i + 1) (k - 1)), .bool true] 53))
              have hbel := Lib.hid (w_alloc hinv.out.bel (.cells #[.int .i64 (f + i), .string (s.extract (i + 1) (k - 1)), .bool true] 53))
              have hsz := Lib.hid hbel.out.size
              have hlts := Lib.hid hinv.out.own.lt
              clear hq
              go_wp2_with (at_builtin; refine wpList_append_own _ rfl _ _ 42 rfl w.heap.size 53 i0 (.agg #[.int .i64 0, .string ⟨#[]⟩, .bool false]) 3 32 Tryd.underlying42 hi0 hz0 hz1 hz2 rfl (by decide) _ acc.length (flatW acc) rfl hown.out ⟨wr.heap.size, 0, none⟩ 1 1 (flatW [⟨f + i, s.extract (i + 1) (k - 1), true⟩]) rfl rfl (new_word _ _ _ _ _) (flatW_one _) (by unfold maxLen; omega) (by omega) hsz.out ?_)
              intro v' w2 hown2 hgrow _
              have hnew := Lib.hid (hinv.out.more (k := k) (x := ⟨f + i, s.extract (i + 1) (k - 1), true⟩) (by rw [flatW_app, List.length_append]; exact hown2) (hbel.out.grown hgrow hsz.out (fun g hg => (hlts.out g hg).1)) (fun ws b t => .quote hq1.out t))
              clear hown hown2 hgrow hbel hinv hlts hsz hq1
              go_wp2_with fail
              go_roundw
              case rel => exact ⟨k, _, by omega, by rw [List.length_append]; simp; omega, rfl, hnew⟩
              case measure => simp [intOf]; omega
            · have hfin := Lib.hid (hinv.out.bad (by omega) hlt (.badq h34.out hq))
              clear hinv hq
              go_wp2_with fail
              go_ret2
              exact hfin.out
          · have c3' : ((s[i].toNat : Int) == 34) = false := by simpa using c3
            by_cases c4 : plainI (s[i].toNat : Int) = true
            · have hpi := Lib.hid (show plainI (bt s i) = true by rw [hb.out]; exact c4)
              clear c1 c2 c3 hb
              go_wp2_with fail
              refine (rplain_c _ _).mono ?_
              rintro e w1 ⟨rfl, rfl⟩
              go_wp2_with fail
              go_loop [9] (fun y => ∃ k : Nat, i ≤ k ∧ k ≤ s.size ∧ y = .int .i64 k ∧ Hid (∀ m, i ≤ m → m < k → plainI (bt s m) = true)) (fun y => s.size - (intOf y).toNat)
              case atStart => exact ⟨i, by omega, by omega, rfl, Lib.hid (fun m a b => by omega)⟩
              case round =>
                obtain ⟨k, hik, hk, rfl, hall⟩ := hrel
                by_cases hgo : ∃ h : k < s.size, plainI (s[k].toNat : Int) = true
                · obtain ⟨hlk, hpk⟩ := hgo
                  have hnew := Lib.hid (show ∀ m, i ≤ m → m < k + 1 → plainI (bt s m) = true by
                    intro m a b
                    by_cases hm : m = k
                    · rw [hm, bt_in hlk]; exact hpk
                    · exact hall.out m a (by omega))
                  clear hall
                  go_wp2_with fail
                  refine (rplain_c _ _).mono ?_
                  rintro e w1 ⟨rfl, rfl⟩
                  go_wp2_with fail
                  go_round
                  case rel => exact ⟨k + 1, by omega, by omega, by go_num, hnew⟩
                  case measure => simp [intOf]; omega
                · have hend := Lib.hid (show plainI (bt s k) = false by
                    by_cases hlk : k < s.size
                    · rw [bt_in hlk]
                      have : ¬ plainI (s[k].toNat : Int) = true := fun x => hgo ⟨hlk, x⟩
                      simpa using this
                    · rw [bt_out hlk]; rfl)
                  have hik2 : i < k := by
                    rcases Nat.lt_or_ge i k with x | x
                    · exact x
                    · have e : i = k := by omega
                      have h1 := hend.out
                      rw [← e, hpi.out] at h1; cases h1
                  have hpl := Lib.hid (show PlainAt s i k from ⟨hik2, hk, hall.out, hend.out⟩)
                  have hown := Lib.hid (hinv.out.own.alloc (.cells #[.int .i64 (f + i), .string (s.extract i k), .bool false] 53))
                  have hbel := Lib.hid (w_alloc hinv.out.bel (.cells #[.int .i64 (f + i), .string (s.extract i k), .bool false] 53))
                  have hsz := Lib.hid hbel.out.size
                  have hlts := Lib.hid hinv.out.own.lt
                  have part : (¬ k < s.size) ∨ ∃ h : k < s.size, plainI (s[k].toNat : Int) = false := by
                    by_cases hlk : k < s.size
                    · right
                      have h1 := hend.out
                      rw [bt_in hlk] at h1
                      exact ⟨hlk, h1⟩
                    · exact .inl hlk
                  clear hgo hend hall
                  have step : ∀ v' w2, w2.ownsRow w.heap.size 53 3 v' (acc.length + 1) (flatW acc ++ flatW [⟨f + i, s.extract i k, false⟩]) → (wr.alloc (.cells #[.int .i64 (f + i), .string (s.extract i k), .bool false] 53)).grownBy w2 (Value.ownBlock u6) → CutInv s f w w2 k (acc ++ [⟨f + i, s.extract i k, false⟩]) v' := fun v' w2 hown2 hgrow =>
                    hinv.out.more (k := k) (x := ⟨f + i, s.extract i k, false⟩) (by rw [flatW_app, List.length_append]; exact hown2) (hbel.out.grown hgrow hsz.out (fun g hg => (hlts.out g hg).1)) (fun ws b t => .word hpl.out t)
                  have Hstep := Lib.hid step
                  clear step hpl hbel hlts hinv
                  rcases part with hlk | ⟨hlk, hpk⟩
                  · go_wp2_with (at_builtin; refine wpList_append_own _ rfl _ _ 42 rfl w.heap.size 53 i0 (.agg #[.int .i64 0, .string ⟨#[]⟩, .bool false]) 3 32 Tryd.underlying42 hi0 hz0 hz1 hz2 rfl (by decide) _ acc.length (flatW acc) rfl hown.out ⟨wr.heap.size, 0, none⟩ 1 1 (flatW [⟨f + i, s.extract i k, false⟩]) rfl rfl (new_word _ _ _ _ _) (flatW_one _) (by unfold maxLen; omega) (by omega) hsz.out ?_)
                    intro v' w2 hown2 hgrow _
                    have hnew := Lib.hid (Hstep.out v' w2 hown2 hgrow)
                    clear hown hown2 hgrow hsz Hstep
                    go_wp2_with fail
                    go_roundw
                    case rel => exact ⟨k, _, by omega, by rw [List.length_append]; simp; omega, rfl, hnew⟩
                    case measure => simp [intOf]; omega
                  · go_wp2_with fail
                    refine (rplain_c _ _).mono ?_
                    rintro e w1 ⟨rfl, rfl⟩
                    go_wp2_with (at_builtin; refine wpList_append_own _ rfl _ _ 42 rfl w.heap.size 53 i0 (.agg #[.int .i64 0, .string ⟨#[]⟩, .bool false]) 3 32 Tryd.underlying42 hi0 hz0 hz1 hz2 rfl (by decide) _ acc.length (flatW acc) rfl hown.out ⟨wr.heap.size, 0, none⟩ 1 1 (flatW [⟨f + i, s.extract i k, false⟩]) rfl rfl (new_word _ _ _ _ _) (flatW_one _) (by unfold maxLen; omega) (by omega) hsz.out ?_)
                    intro v' w2 hown2 hgrow _
                    have hnew := Lib.hid (Hstep.out v' w2 hown2 hgrow)
                    clear hown hown2 hgrow hsz Hstep
                    go_wp2_with fail
                    go_roundw
                    case rel => exact ⟨k, _, by omega, by rw [List.length_append]; simp; omega, rfl, hnew⟩
                    case measure => simp [intOf]; omega
            · have c4' : plainI (s[i].toNat : Int) = false := by simpa using c4
              have hfin := Lib.hid (hinv.out.bad (by omega) hlt (.bad (by rw [hb.out]; omega) (by rw [hb.out]; exact c1) (by rw [hb.out]; exact c2) (by rw [hb.out]; exact c3) (by rw [hb.out]; exact c4')))
              clear c1 c2 c3 c4 hb hinv
              go_wp2_with fail
              refine (rplain_c _ _).mono ?_
              rintro e w1 ⟨rfl, rfl⟩
              go_wp2_with fail
              go_ret2
              exact hfin.out
    · obtain rfl : i = s.size := by omega
      have hfin := Lib.hid (hinv.out.stop hacc (.stop rfl))
      clear hinv
      go_wp2_with fail
      go_ret2
      exact hfin.out

end Go.Proofs.YtdjkgnganbeonaaDoor
