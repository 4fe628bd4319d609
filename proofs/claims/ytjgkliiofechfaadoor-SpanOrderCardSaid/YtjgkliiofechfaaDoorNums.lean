/- The numbers of a text: what span.numbers reads, for every text. -/
import Derived.Test.YtjgkliiofechfaaDoorCheck
import Derived.Lib.OthersKept
import Derived.WalkSmall
import Derived.WalkMore
namespace Go.Proofs.YtjgkliiofechfaaDoor
open Go.RowKit

/-- What the program reads from some byte on: a number n with dg digits so far, a first number before it or none. -/
def numsL : List UInt8 → Int → Int → Option Int → Option (Option Int × Int)
  | [], n, dg, f => if dg = 0 then none else some (f, n)
  | c :: t, n, dg, f =>
    if c.toNat = 47 ∧ 0 < dg ∧ f = none then numsL t 0 0 (some n)
    else if 48 ≤ c.toNat ∧ c.toNat ≤ 57 ∧ (dg = 0 ∨ 0 < n) then numsL t (if 1099511627777 < n * 10 + ((c.toNat : Int) - 48) then 1099511627777 else n * 10 + ((c.toNat : Int) - 48)) (dg + 1) f
    else none

/-- What the call hands back for it. -/
def NumsPost (r : Option (Option Int × Int)) (w : World) (e : Ending) (w' : World) : Prop :=
  Below w.heap.size w w' ∧ match r with
  | none => e = .returned (.tuple #[.slice none 0 0, .bool false])
  | some (none, n) => ∃ g cap, e = .returned (.tuple #[.slice (some ⟨g, 0, none⟩) 1 cap, .bool true]) ∧ w'.cell? ⟨g, 0, none⟩ = some (.int .i64 n)
  | some (some a, n) => ∃ g cap, e = .returned (.tuple #[.slice (some ⟨g, 0, none⟩) 2 cap, .bool true]) ∧ w'.cell? ⟨g, 0, none⟩ = some (.int .i64 a) ∧ w'.cell? ⟨g, 1, none⟩ = some (.int .i64 n)

/-- The list so far, as a value. -/
def ListIs (wr : World) (base : Nat) (f : Option Int) (v : Value) : Prop :=
  match f with
  | none => v = .slice none 0 0
  | some a => ∃ g cap, v = .slice (some ⟨g, 0, none⟩) 1 cap ∧ wr.ownsRow base 3 1 v 1 [.int .i64 a]

theorem info_int : (Tryd.prog.info? 3).map (fun i => (i.zero, i.size, i.bytes)) = some (some (.int .i64 0), 1, 8) := by kernel_rfl

theorem width_pos (s : ByteArray) (pos : Nat) (h : pos < s.size) : 1 ≤ (Utf8.decode s pos).2 := by
  by_cases ha : (s[pos]'h).toNat < 128
  · rw [decode_ascii s pos h ha]; exact Nat.le_refl _
  · exact (decode_high s pos h (by omega)).2

theorem drop_byte (s : ByteArray) (pos : Nat) (h : pos < s.size) : s.data.toList.drop pos = s[pos] :: s.data.toList.drop (pos + 1) := by
  rw [List.drop_eq_getElem_cons (by simpa using h)]; rfl

theorem decode_parts (s : ByteArray) (pos : Nat) (h : pos < s.size) : ∃ ru wd, Utf8.decode s pos = (ru, wd) ∧ 1 ≤ wd ∧ ((ru = s[pos].toNat ∧ wd = 1) ∨ (128 ≤ ru ∧ 128 ≤ s[pos].toNat)) := by
  refine ⟨(Utf8.decode s pos).1, (Utf8.decode s pos).2, rfl, width_pos s pos h, ?_⟩
  by_cases ha : (s[pos]'h).toNat < 128
  · left; rw [decode_ascii s pos h ha]; exact ⟨rfl, rfl⟩
  · right; exact ⟨(decode_high s pos h (by omega)).1, by omega⟩

theorem listIs_iterAt {wr : World} {base k : Nat} {f : Option Int} {v : Value} {s : ByteArray} {p : Nat} (h : ListIs wr base f v) (hk : k < base) : ListIs (wr.iterAt k s p) base f v := by
  cases f with
  | none => exact h
  | some a =>
    obtain ⟨g, cap, rfl, ho⟩ := h
    exact ⟨g, cap, rfl, ownsRow_iterAt ho hk s p⟩

theorem new_int (w : World) (n : Int) (t : TypeId) : ∀ j u, [Value.int .i64 n][j]? = some u → (w.alloc (.cells #[.int .i64 n] t)).cell? ((⟨w.heap.size, 0, none⟩ : Addr).add j) = some u := by
  intro j u hu
  cases j with
  | zero => simp at hu; subst hu; simp [go_sem, Addr.add]
  | succ j => simp at hu

theorem own_one {w : World} {base size : Nat} {e : TypeId} {v x : Value} {n : Nat} {xs : List Value} (h : w.ownsRow base e size v n (x :: xs)) : ∃ g cap, v = .slice (some ⟨g, 0, none⟩) n cap := by
  rcases h.2 with ⟨_, rfl⟩ | ⟨g, cap, cur, hv, _⟩
  · have := h.1
    simp at this
  · exact ⟨g, cap, hv⟩

/-- What is neither a stroke nor a digit in its place ends the reading. -/
theorem numsL_stop {c : UInt8} {t : List UInt8} {n dg : Int} {f : Option Int} (h1 : ¬ (c.toNat = 47 ∧ 0 < dg ∧ f = none)) (h2 : ¬ (48 ≤ c.toNat ∧ c.toNat ≤ 57 ∧ (dg = 0 ∨ 0 < n))) : numsL (c :: t) n dg f = none := by
  show (if _ then _ else _) = _
  rw [if_neg h1, if_neg h2]
theorem numsL_cut {c : UInt8} {t : List UInt8} {n dg : Int} (h1 : c.toNat = 47) (h2 : 0 < dg) : numsL (c :: t) n dg none = numsL t 0 0 (some n) := by
  show (if _ then _ else _) = _
  rw [if_pos ⟨h1, h2, rfl⟩]
theorem numsL_digit {c : UInt8} {t : List UInt8} {n dg : Int} {f : Option Int} (h1 : 48 ≤ c.toNat) (h2 : c.toNat ≤ 57) (h3 : dg = 0 ∨ 0 < n) :
    numsL (c :: t) n dg f = numsL t (if 1099511627777 < n * 10 + ((c.toNat : Int) - 48) then 1099511627777 else n * 10 + ((c.toNat : Int) - 48)) (dg + 1) f := by
  show (if _ then _ else _) = _
  rw [if_neg (by omega), if_pos ⟨h1, h2, h3⟩]

set_option maxHeartbeats 4000000 in
theorem nums_any (s : ByteArray) (w : World) (hs : s.size ≤ maxLen) : Calls Tryd.prog 56 #[.string s] w (NumsPost (numsL s.data.toList 0 0 none) w) := by
  unfold maxLen at hs
  obtain ⟨i0, hi0, hz0, hz1, hz2⟩ := info_parts info_int
  go_enter Tryd.func56, Tryd.ntmps56
  go_wp2_with fail
  go_step3
  go_wp2_with fail
  go_step3
  go_wp2_with fail
  go_loopw [2, 4, 5] (fun v x y wr => ∃ (pos : Nat) (n dg : Int) (f : Option Int), pos ≤ s.size ∧ x = .int .i64 n ∧ y = .int .i64 dg ∧ 0 ≤ n ∧ n ≤ 1099511627777 ∧ 0 ≤ dg ∧ dg ≤ pos ∧
      Hid (ListIs wr (w.heap.size + 1) f v) ∧ Hid (wr.heap[w.heap.size]? = some (.stringIter s pos)) ∧ Hid (Below w.heap.size w wr) ∧ Hid (numsL (s.data.toList.drop pos) n dg f = numsL s.data.toList 0 0 none)) (fun _ _ _ wr => s.size - wr.iterPos w.heap.size)
  case atStart => exact ⟨0, 0, 0, none, by omega, rfl, rfl, by omega, by omega, by omega, by omega, Lib.hid rfl, Lib.hid (World.iter_heap w s 0), Lib.hid (ba (br w) _), Lib.hid rfl⟩
  case round =>
    obtain ⟨pos, n, dg, f, hp, rfl, rfl, hn0, hn1, hd0, hd1, hlist, hit, hb, hg⟩ := hrel
    have hsz : w.heap.size < wr.heap.size := (Array.getElem?_eq_some_iff.1 hit.out).1
    by_cases hlt : pos < s.size
    · obtain ⟨ru, wd, hdec, hwd, hru⟩ := decode_parts s pos hlt
      have hnx : ∀ ty, (Instr.next (.pointer (some ⟨w.heap.size, 0, none⟩)) true ty).run Tryd.prog wr = .ok (.tuple #[.bool true, .int .i64 pos, .int .i32 ru]) (wr.iterAt w.heap.size s (pos + wd)) := fun ty => by
        have := Lib.run_next_any_at (P := Tryd.prog) wr w.heap.size s pos ty hit.out hlt
        rw [hdec] at this; exact this
      have hb2 := Lib.hid (Lib.below_iterAt hb.out (k := w.heap.size) (Nat.le_refl _) s (pos + wd))
      have hit2 := Lib.hid (Lib.iterAt_heap wr w.heap.size s pos (pos + wd) hit.out)
      have hdrop := Lib.hid (drop_byte s pos hlt)
      have hip := Lib.hid (iterPos_of hit.out)
      by_cases hgo : 48 ≤ ru ∧ ru ≤ 57 ∧ (dg = 0 ∨ 0 < n)
      · have hstep := Lib.hid (show numsL (s.data.toList.drop (pos + 1)) (if 1099511627777 < n * 10 + ((ru : Int) - 48) then 1099511627777 else n * 10 + ((ru : Int) - 48)) (dg + 1) f = numsL s.data.toList 0 0 none ∧ wd = 1 by
          rw [← hg.out, hdrop.out]
          rcases hru with ⟨e1, e2⟩ | ⟨e1, _⟩
          · rw [e1, numsL_digit (by omega) (by omega) hgo.2.2]
            exact ⟨rfl, e2⟩
          · omega)
        obtain rfl : wd = 1 := hstep.out.2
        obtain ⟨k3, k4, k5⟩ := hgo
        have k1b : ((ru : Int) == 47) = false := by rw [beq_eq_false_iff_ne]; omega
        clear hdec hru hdrop hg hit hb hwd
        by_cases k6 : dg = 0
        · have k7 : (dg == 0) = true := by simp [k6]
          have k8 : dg ≤ 0 := by omega
          clear k6 k5
          go_wp2_with fail
          go_roundw
          case rel => exact ⟨pos + 1, _, dg + 1, f, by omega, rfl, rfl, by split <;> omega, by split <;> omega, by omega, by omega, Lib.hid (listIs_iterAt hlist.out (by omega)), hit2, hb2, Lib.hid hstep.out.1⟩
          case measure => rw [iterPos_of hit2.out, hip.out]; omega
        · have k7 : (dg == 0) = false := by simp [k6]
          have k8 : 0 < n := by omega
          clear k6 k5
          go_wp2_with fail
          go_roundw
          case rel => exact ⟨pos + 1, _, dg + 1, f, by omega, rfl, rfl, by split <;> omega, by split <;> omega, by omega, by omega, Lib.hid (listIs_iterAt hlist.out (by omega)), hit2, hb2, Lib.hid hstep.out.1⟩
          case measure => rw [iterPos_of hit2.out, hip.out]; omega
      · by_cases hcut : ru = 47 ∧ 0 < dg ∧ f = none
        · obtain ⟨rfl, k2, rfl⟩ := hcut
          have hstep := Lib.hid (show numsL (s.data.toList.drop (pos + 1)) 0 0 (some n) = numsL s.data.toList 0 0 none ∧ wd = 1 by
            rw [← hg.out, hdrop.out]
            rcases hru with ⟨e1, e2⟩ | ⟨e1, _⟩
            · rw [numsL_cut (by omega) k2]
              exact ⟨rfl, e2⟩
            · omega)
          obtain rfl : wd = 1 := hstep.out.2
          obtain rfl := hlist.out
          clear hgo hdec hru hdrop hg hit hb hwd hlist
          have hbs : w.heap.size ≤ (wr.iterAt w.heap.size s (pos + 1)).heap.size := hb2.out.size
          have hbt : w.heap.size < (wr.iterAt w.heap.size s (pos + 1)).heap.size := by rw [Lib.iterAt_size]; exact hsz
          go_wp2_with (at_builtin; refine wpList_append_own _ rfl _ _ 50 rfl (w.heap.size + 1) 3 i0 (.int .i64 0) 1 8 Tryd.underlying50 hi0 hz0 hz1 hz2 rfl (by decide) _ _ _ rfl ((World.ownsRow_nil _ _ _ _).alloc _) ⟨(wr.iterAt w.heap.size s (pos + 1)).heap.size, 0, none⟩ 1 1 [.int .i64 n] rfl rfl (new_int _ n _) (fun u hu => by simp at hu; subst hu; rfl) (by unfold maxLen; omega) (by omega) (by simp; omega) ?_)
          intro v' w1 hown hgrow _
          obtain ⟨g, cap, rfl⟩ := own_one hown
          have hl1 := Lib.hid (show ListIs w1 (w.heap.size + 1) (some n) (.slice (some ⟨g, 0, none⟩) 1 cap) from ⟨g, cap, rfl, hown⟩)
          have hb3 := Lib.hid ((ba hb2.out (.cells #[.int .i64 n] 3)).grown hgrow (by simp; omega) (fun k hk => by simp [Value.ownBlock] at hk))
          have hit3 := Lib.hid ((hgrow.block w.heap.size (by simp; omega) (by simp [Value.ownBlock])).trans ((heap_alloc_old _ _ hbt).trans hit2.out))
          clear hown hgrow hit2 hb2 hbs hbt
          go_wp2_with fail
          go_roundw
          case rel => exact ⟨pos + 1, 0, 0, some n, by omega, rfl, rfl, by omega, by omega, by omega, by omega, hl1, hit3, hb3, Lib.hid hstep.out.1⟩
          case measure => rw [iterPos_of hit3.out, hip.out]; omega
        · have hfin := Lib.hid (show NumsPost (numsL s.data.toList 0 0 none) w (.returned (.tuple #[.slice none 0 0, .bool false])) (wr.iterAt w.heap.size s (pos + wd)) by
            have e : numsL s.data.toList 0 0 none = none := by
              rw [← hg.out, hdrop.out]
              exact numsL_stop (fun h => hcut ⟨by omega, h.2⟩) (fun h => hgo ⟨by omega, by omega, h.2.2⟩)
            rw [e]; exact ⟨hb2.out, rfl⟩)
          clear hdec hru hb2 hit2 hdrop hit hb hg
          have hl := hlist.out
          by_cases k1 : ru = 47
          · subst k1
            by_cases k2 : 0 < dg
            · cases f with
              | none => exact absurd ⟨rfl, k2, rfl⟩ hcut
              | some a =>
                obtain ⟨g, cap, rfl, _⟩ := hl
                clear hgo hcut hlist
                go_wp2_with fail
                go_ret2
                exact hfin.out
            · clear hgo hcut hlist hl
              go_wp2_with fail
              go_ret2
              exact hfin.out
          · have k1b : ((ru : Int) == 47) = false := by rw [beq_eq_false_iff_ne]; omega
            clear hlist hl hcut
            by_cases k3 : ru < 48
            · clear hgo
              go_wp2_with fail
              go_ret2
              exact hfin.out
            by_cases k4 : 57 < ru
            · clear hgo
              go_wp2_with fail
              go_ret2
              exact hfin.out
            · have k5 : 0 < dg := by omega
              have k6 : n ≤ 0 := by omega
              have k7 : (dg == 0) = false := by rw [beq_eq_false_iff_ne]; omega
              clear hgo
              go_wp2_with fail
              go_ret2
              exact hfin.out
    · have hnx : ∀ ty, (Instr.next (.pointer (some ⟨w.heap.size, 0, none⟩)) true ty).run Tryd.prog wr = _ := fun ty => Lib.run_next_end_at wr w.heap.size s pos ty hit.out hlt
      have hend := Lib.hid (show numsL s.data.toList 0 0 none = if dg = 0 then none else some (f, n) by
        rw [← hg.out, List.drop_of_length_le (by simp; omega)]; rfl)
      have hbs : w.heap.size ≤ wr.heap.size := hb.out.size
      clear hit hg
      by_cases k6 : dg = 0
      · have k7 : (dg == 0) = true := by simp [k6]
        have hfin := Lib.hid (show NumsPost (numsL s.data.toList 0 0 none) w (.returned (.tuple #[.slice none 0 0, .bool false])) wr by
          rw [hend.out, if_pos k6]; exact ⟨hb.out, rfl⟩)
        clear k6 hend hlist hb
        go_wp2_with fail
        go_ret2
        exact hfin.out
      · have k7 : (dg == 0) = false := by simp [k6]
        have hend2 := Lib.hid (show numsL s.data.toList 0 0 none = some (f, n) by rw [hend.out, if_neg k6])
        clear k6 hend
        cases f with
        | none =>
          obtain rfl := hlist.out
          clear hlist
          go_wp2_with (at_builtin; refine wpList_append_own _ rfl _ _ 50 rfl (w.heap.size + 1) 3 i0 (.int .i64 0) 1 8 Tryd.underlying50 hi0 hz0 hz1 hz2 rfl (by decide) _ _ _ rfl ((World.ownsRow_nil _ _ _ _).alloc _) ⟨wr.heap.size, 0, none⟩ 1 1 [.int .i64 n] rfl rfl (new_int _ n _) (fun u hu => by simp at hu; subst hu; rfl) (by unfold maxLen; omega) (by omega) (by simp; omega) ?_)
          intro v' w1 hown hgrow _
          obtain ⟨g, cap, rfl⟩ := own_one hown
          have hfin := Lib.hid (show NumsPost (numsL s.data.toList 0 0 none) w (.returned (.tuple #[.slice (some ⟨g, 0, none⟩) 1 cap, .bool true])) w1 by
            rw [hend2.out]
            exact ⟨(ba hb.out (.cells #[.int .i64 n] 3)).grown hgrow (by simp; omega) (fun k hk => by simp [Value.ownBlock] at hk), g, cap, rfl, by have := hown.cells (g := g) rfl 0 _ rfl; simpa [Addr.add] using this⟩)
          clear hown hgrow hend2 hb
          go_wp2_with fail
          go_ret2
          exact hfin.out
        | some a =>
          obtain ⟨g0, cap0, rfl, hown0⟩ := hlist.out
          have ho := Lib.hid hown0
          clear hlist hown0
          go_wp2_with (at_builtin; refine wpList_append_own _ rfl _ _ 50 rfl (w.heap.size + 1) 3 i0 (.int .i64 0) 1 8 Tryd.underlying50 hi0 hz0 hz1 hz2 rfl (by decide) _ _ _ rfl (ho.out.alloc _) ⟨wr.heap.size, 0, none⟩ 1 1 [.int .i64 n] rfl rfl (new_int _ n _) (fun u hu => by simp at hu; subst hu; rfl) (by unfold maxLen; omega) (by omega) (by simp; omega) ?_)
          intro v' w1 hown hgrow _
          obtain ⟨g, cap, rfl⟩ := own_one hown
          have hfin := Lib.hid (show NumsPost (numsL s.data.toList 0 0 none) w (.returned (.tuple #[.slice (some ⟨g, 0, none⟩) 2 cap, .bool true])) w1 by
            rw [hend2.out]
            exact ⟨(ba hb.out (.cells #[.int .i64 n] 3)).grown hgrow (by simp; omega) (fun k hk => by have := (ho.out.lt k hk).1; omega), g, cap, rfl, by have := hown.cells (g := g) rfl 0 _ rfl; simpa [Addr.add] using this, by have := hown.cells (g := g) rfl 1 _ rfl; simpa [Addr.add] using this⟩)
          clear hown hgrow hend2 hb ho
          go_wp2_with fail
          go_ret2
          exact hfin.out

end Go.Proofs.YtjgkliiofechfaaDoor
