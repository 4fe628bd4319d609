/- The law's own awake: the chapter's first examples hold. -/
import Derived.Test.YtdjkgnganbeonaaDoorSame
import Derived.Test.YtdjkgnganbeonaaDoorCalc
import Derived.Test.YtdjkgnganbeonaaDoorRws
namespace Go.Proofs.YtdjkgnganbeonaaDoor
open Go.RowKit

/-! Slices written out -/
theorem lit_cells (w : World) (cs : List Value) (ty : TypeId) (j : Nat) : (w.alloc (.cells cs.toArray ty)).cell? ⟨w.heap.size, j, none⟩ = cs[j]? := by
  rw [Lib.cell_of_heap (heap_alloc_new w _)]; simp
theorem lit_words (w : World) (ws : List Wd) (ty : TypeId) (h : ws.length ≤ 1000) : WordsV (w.alloc (.cells (flatW ws).toArray ty)) (.slice (some ⟨w.heap.size, 0, none⟩) ws.length ws.length) ws :=
  ⟨_, _, rfl, Nat.le_refl _, by omega, (fun e => by cases e), flatW_len ws, fun _ => ⟨w.heap.size, 0, rfl, by simp, fun j u hu => by rw [Nat.zero_add, lit_cells]; exact hu⟩⟩
theorem lit_rows (w : World) (vs : List (Int × Value)) (rs : List Rw) (ty : TypeId) (h : rs.length ≤ 1000) (ha : AllR w none vs rs) : RowsV (w.alloc (.cells (flatR vs).toArray ty)) (.slice (some ⟨w.heap.size, 0, none⟩) rs.length rs.length) rs :=
  ⟨_, _, vs, none, rfl, ⟨Nat.le_refl _, by omega, (fun e => by cases e), by rw [flatR_len, ha.len], fun _ => ⟨w.heap.size, 0, rfl, by simp, fun j u hu => by rw [Nat.zero_add, lit_cells]; exact hu⟩⟩, ha.later (w_alloc (w_refl w) _)⟩

theorem shown_modest : Modest shownR := by
  refine ⟨by decide, fun r hr => ?_⟩
  simp only [shownR, List.mem_cons, List.not_mem_nil, or_false] at hr
  rcases hr with rfl | rfl
  all_goals
    refine ⟨by simp, fun x hx => ?_⟩
    simp only [List.mem_cons, List.not_mem_nil, or_false] at hx
    rcases hx with rfl | rfl <;> decide
theorem shown_text : textG [] shownR = ([112, 97, 114, 116, 32, 34, 67, 97, 110, 116, 117, 115, 32, 73, 34, 10, 98, 52, 32, 115, 45, 50, 42, 10], 0) := by kernel_rfl
theorem minus_four : signedRes (⟨#[45, 52]⟩ : ByteArray).data.toList = .tuple #[.int .i64 (-4), .bool true] := by kernel_rfl
theorem name_a : nameV (⟨#[97, 45, 49]⟩ : ByteArray).data.toList = true := by kernel_rfl
theorem name_1a : nameV (⟨#[49, 97]⟩ : ByteArray).data.toList = false := by kernel_rfl

set_option maxRecDepth 100000 in
set_option maxHeartbeats 4000000 in
theorem wake_any (w : World) : Calls Tryd.prog 9 #[] w fun e w' => e = .returned (.bool true) ∧ Below w.heap.size w w' := by
  have R := Lib.hid (fun W => wrows_any shownB W (by decide))
  go_enter Tryd.func9, Tryd.ntmps9
  go_wp2_with fail
  refine (R.out _).mono ?_
  rintro e w1 ⟨rs, b, v, hres, hb1, rfl, hv1⟩
  obtain ⟨rfl, rfl⟩ := shown_res hres
  clear hres R
  have hv := Lib.hid hv1
  have hb := Lib.hid hb1
  clear hv1 hb1
  obtain ⟨W1, hW1⟩ : ∃ W1, w1.alloc (.cells #[.int .i64 0, .int .i64 0] 26) = W1 := ⟨_, rfl⟩
  have hz1 : W1.heap.size = w1.heap.size + 1 := by rw [← hW1]; simp
  have hwant := Lib.hid (show RowsV (((W1.alloc (.cells #[.int .i64 0, .string ⟨#[112, 97, 114, 116]⟩, .bool false, .int .i64 5, .string ⟨#[67, 97, 110, 116, 117, 115, 32, 73]⟩, .bool true] 53)).alloc (.cells #[.int .i64 22, .string ⟨#[98, 52]⟩, .bool false, .int .i64 25, .string ⟨#[115, 45, 50, 42]⟩, .bool false] 53)).alloc
      (.cells #[.int .i64 0, .slice (some ⟨w1.heap.size + 1, 0, none⟩) 2 2, .int .i64 22, .slice (some ⟨w1.heap.size + 1 + 1, 0, none⟩) 2 2] 44)) (.slice (some ⟨w1.heap.size + 1 + 1 + 1, 0, none⟩) 2 2) shownR from by
    have a := lit_words W1 [⟨0, ⟨#[112, 97, 114, 116]⟩, false⟩, ⟨5, ⟨#[67, 97, 110, 116, 117, 115, 32, 73]⟩, true⟩] 53 (by decide)
    have b := lit_words (W1.alloc (.cells #[.int .i64 0, .string ⟨#[112, 97, 114, 116]⟩, .bool false, .int .i64 5, .string ⟨#[67, 97, 110, 116, 117, 115, 32, 73]⟩, .bool true] 53)) [⟨22, ⟨#[98, 52]⟩, false⟩, ⟨25, ⟨#[115, 45, 50, 42]⟩, false⟩] 53 (by decide)
    rw [World.size_alloc, hz1] at b
    rw [hz1] at a
    have c := lit_rows _ [(0, .slice (some ⟨w1.heap.size + 1, 0, none⟩) 2 2), (22, .slice (some ⟨w1.heap.size + 1 + 1, 0, none⟩) 2 2)] shownR 44 (by decide) (show AllR _ none _ _ from ⟨⟨rfl, a.later (w_alloc (w_refl _) (.cells #[.int .i64 22, .string ⟨#[98, 52]⟩, .bool false, .int .i64 25, .string ⟨#[115, 45, 50, 42]⟩, .bool false] 53)), fun _ => by simp [Value.ownBlock]⟩, ⟨rfl, b, fun _ => by simp [Value.ownBlock]⟩, trivial⟩)
    simp only [World.size_alloc, hz1] at c
    exact c)
  obtain ⟨W4, hW4⟩ : ∃ W4, (((W1.alloc (.cells #[.int .i64 0, .string ⟨#[112, 97, 114, 116]⟩, .bool false, .int .i64 5, .string ⟨#[67, 97, 110, 116, 117, 115, 32, 73]⟩, .bool true] 53)).alloc (.cells #[.int .i64 22, .string ⟨#[98, 52]⟩, .bool false, .int .i64 25, .string ⟨#[115, 45, 50, 42]⟩, .bool false] 53)).alloc
      (.cells #[.int .i64 0, .slice (some ⟨w1.heap.size + 1, 0, none⟩) 2 2, .int .i64 22, .slice (some ⟨w1.heap.size + 1 + 1, 0, none⟩) 2 2] 44)) = W4 := ⟨_, rfl⟩
  rw [hW4] at hwant
  have hb14 : Below w1.heap.size w1 W4 := by
    rw [← hW4, ← hW1]
    exact w_alloc (w_alloc (w_alloc (w_alloc (w_refl w1) _) _) _) _
  have hf4 : Cell2 W4 w1.heap.size 0 0 := by
    have := Cell2.made w1 0 0 26
    rw [hW1] at this
    rw [← hW4]
    exact this.below (w_alloc (w_alloc (w_alloc (w_refl W1) _) _) _) (by omega)
  have hb4 := Lib.hid (w_below hb.out hb14)
  have hv4 := Lib.hid (hv.out.later hb14)
  have hf := Lib.hid hf4
  have HW1 := Lib.hid hW1
  have HW4 := Lib.hid hW4
  clear hv hb hb14 hf4 hW1 hW4 hz1
  simp only [fE, fA]
  go_wp2_with fail
  rw [HW1.out, HW4.out]
  refine (wtext_any _ _ _ hwant.out shown_modest).mono ?_
  rintro e w2 ⟨he, hb2⟩
  rw [shown_text] at he
  subst he
  have hv5 := Lib.hid (hv4.out.later hb2)
  have hwant5 := Lib.hid (hwant.out.later hb2)
  have hb5 := Lib.hid (w_below hb4.out hb2)
  have hf5 := Lib.hid (hf.out.below hb2 hf.out.inb)
  clear hb2 hv4 hwant hb4 hf HW1 HW4
  have SG := Lib.hid (fun W => show Calls Tryd.prog 21 #[.string ⟨#[45, 52]⟩] W fun e w' => e = .returned (.tuple #[.int .i64 (-4), .bool true]) ∧ W = w' from by have := wsigned_any ⟨#[45, 52]⟩ W (by unfold maxLen; decide); rw [minus_four] at this; exact this)
  have N1 := Lib.hid (fun W => show Calls Tryd.prog 19 #[.string ⟨#[97, 45, 49]⟩] W fun e w' => e = .returned (.bool true) ∧ W = w' from by have := wname_any ⟨#[97, 45, 49]⟩ W (by unfold maxLen; decide); rw [name_a] at this; exact this)
  have N2 := Lib.hid (fun W => show Calls Tryd.prog 19 #[.string ⟨#[49, 97]⟩] W fun e w' => e = .returned (.bool false) ∧ W = w' from by have := wname_any ⟨#[49, 97]⟩ W (by unfold maxLen; decide); rw [name_1a] at this; exact this)
  go_wp2_with fail
  refine (SG.out _).mono ?_
  rintro e w3 ⟨rfl, rfl⟩
  obtain ⟨_, o0, o1, o2, o3⟩ := hf5.out
  go_wp2_with fail
  refine (same_any _ _ _ _ _ _ hv5.out hwant5.out (SameR.refl true _)).mono ?_
  rintro e w4 ⟨rfl, hb6⟩
  have hbn := Lib.hid (w_below hb5.out hb6)
  clear hb6 hv5 hwant5 hb5 hf5 o0 o1 o2 o3
  go_wp2_with fail
  refine (N1.out _).mono ?_
  rintro e w5 ⟨rfl, rfl⟩
  go_wp2_with fail
  refine (N2.out _).mono ?_
  rintro e w5 ⟨rfl, rfl⟩
  go_wp2_with fail
  go_ret
  exact ⟨rfl, hbn.out⟩

end Go.Proofs.YtdjkgnganbeonaaDoor
