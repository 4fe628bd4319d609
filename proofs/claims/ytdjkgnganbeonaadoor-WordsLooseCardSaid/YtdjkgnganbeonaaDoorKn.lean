/- The law on the chapter's examples: its helpers. -/
import Derived.Test.YtdjkgnganbeonaaDoorWake
namespace Go.Proofs.YtdjkgnganbeonaaDoor
open Go.RowKit

set_option maxRecDepth 100000 in
set_option maxHeartbeats 4000000 in
theorem row_any (s : ByteArray) (q : Bool) (w : World) : Calls Tryd.prog 25 #[.string s, .bool q] w fun e w' => ∃ v, e = .returned v ∧ RowsV w' v [⟨0, [⟨0, s, q⟩]⟩] ∧ Below w.heap.size w w' := by
  go_enter Tryd.func25, Tryd.ntmps25
  go_wp2_with fail
  go_ret
  refine ⟨_, rfl, ?_, w_alloc (w_alloc (w_refl w) _) _⟩
  have a := lit_words w [⟨0, s, q⟩] 53 (by simp)
  have c := lit_rows _ [(0, .slice (some ⟨w.heap.size, 0, none⟩) 1 1)] [⟨0, [⟨0, s, q⟩]⟩] 44 (by simp) (show AllR _ none _ _ from ⟨⟨rfl, a, fun _ => by simp [Value.ownBlock]⟩, trivial⟩)
  simp only [World.size_alloc] at c
  exact c

set_option maxRecDepth 100000 in
set_option maxHeartbeats 4000000 in
theorem fault_any (T : ByteArray) (k : Int) (w : World) (hT : T.size ≤ 20000) (h : (rowsF T (T.size + 2) 0).2 = some (3, k)) : Calls Tryd.prog 26 #[.string T, .int .i64 k] w fun e w' => e = .returned (.bool true) ∧ Below w.heap.size w w' := by
  have R1 := Lib.hid (fun W => wrows_any T W (by omega))
  go_enter Tryd.func26, Tryd.ntmps26
  go_wp2_with fail
  refine (R1.out _).mono ?_
  rintro e w1 ⟨rs, b, v, hres, hb1, rfl, hv1⟩
  obtain ⟨rfl, rfl⟩ := rows_calc T (T.size + 2) hT (by omega) hres
  rw [h] at hv1 ⊢
  rw [if_neg (by simp)] at hv1
  obtain ⟨p, c, rfl, f1, f2⟩ := rows_nil hv1
  simp only [fE, fA, List.length_nil] at f1 ⊢
  have hb := Lib.hid hb1
  clear hb1 hv1 hres R1 h hT
  go_wp2_with fail
  go_ret
  exact ⟨rfl, w_alloc hb.out _⟩

set_option maxRecDepth 100000 in
set_option maxHeartbeats 4000000 in
theorem refused_any (v : Value) (rs : List Rw) (w : World) (hv : RowsV w v rs) (hm : Modest rs) (h : textG [] rs = ([], 3)) : Calls Tryd.prog 27 #[v] w fun e w' => e = .returned (.bool true) ∧ Below w.heap.size w w' := by
  have T := Lib.hid (wtext_any v rs w hv hm)
  obtain ⟨p, c, rfl, f1, f2⟩ := rows_nil hv
  clear hv hm
  go_enter Tryd.func27, Tryd.ntmps27
  go_wp2_with fail
  refine T.out.mono ?_
  rintro e w1 ⟨he, hb1⟩
  rw [h] at he
  subst he
  have hb := Lib.hid hb1
  clear hb1 T
  go_wp2_with fail
  go_ret
  exact ⟨rfl, hb.out⟩

/-! The constants -/
theorem kn_1 : rowsF ⟨#[]⟩ 31 0 = ([], none) := by kernel_rfl
theorem kn_2 : rowsF ⟨#[32, 59, 32, 120]⟩ 31 0 = ([], none) := by kernel_rfl
theorem kn_3 : rowsF ⟨#[97, 10, 32, 10, 98]⟩ 31 0 = ([⟨0, [⟨0, ⟨#[97]⟩, false⟩]⟩, ⟨4, [⟨4, ⟨#[98]⟩, false⟩]⟩], none) := by kernel_rfl
theorem kn_4 : rowsF ⟨#[34, 34, 32, 59, 34]⟩ 31 0 = ([⟨0, [⟨0, ⟨#[]⟩, true⟩]⟩], none) := by kernel_rfl
theorem kn_text : textG [] [⟨0, [⟨0, ⟨#[97, 32, 98]⟩, true⟩]⟩] = ([34, 97, 32, 98, 34, 10], 0) := by kernel_rfl
theorem kn_r1 : textG [] [⟨0, []⟩] = ([], 3) := by kernel_rfl
theorem kn_r2 : textG [] [⟨0, [⟨0, ⟨#[97, 32, 98]⟩, false⟩]⟩] = ([], 3) := by kernel_rfl
theorem kn_n1 : numRes (numberV (⟨#[49, 48, 57, 57, 53, 49, 49, 54, 50, 55, 55, 55, 54]⟩ : ByteArray).data.toList) = .tuple #[.int .i64 1099511627776, .bool true] := by kernel_rfl
theorem kn_n2 : numRes (numberV (⟨#[49, 48, 57, 57, 53, 49, 49, 54, 50, 55, 55, 55, 55]⟩ : ByteArray).data.toList) = .tuple #[.int .i64 0, .bool false] := by kernel_rfl
theorem kn_n3 : numRes (numberV (⟨#[48, 48, 55]⟩ : ByteArray).data.toList) = .tuple #[.int .i64 0, .bool false] := by kernel_rfl
theorem kn_s1 : signedRes (⟨#[45, 48]⟩ : ByteArray).data.toList = .tuple #[.int .i64 0, .bool false] := by kernel_rfl
theorem kn_s2 : signedRes (⟨#[43, 52]⟩ : ByteArray).data.toList = .tuple #[.int .i64 0, .bool false] := by kernel_rfl
theorem kn_p1 : pairRes ⟨#[51, 47, 50]⟩ 47 = .tuple #[.string ⟨#[51]⟩, .string ⟨#[50]⟩, .bool true] := by kernel_rfl
theorem kn_p2 : pairRes ⟨#[51, 47, 50, 47, 49]⟩ 47 = .tuple #[.string ⟨#[]⟩, .string ⟨#[]⟩, .bool false] := by kernel_rfl
theorem kn_p3 : pairRes ⟨#[47]⟩ 47 = .tuple #[.string ⟨#[]⟩, .string ⟨#[]⟩, .bool true] := by kernel_rfl
theorem kn_m : nameV (⟨#[45]⟩ : ByteArray).data.toList = false := by kernel_rfl
theorem kn_f1 : (rowsF ⟨#[97, 34, 98, 34]⟩ 6 0).2 = some (3, 1) := by kernel_rfl
theorem kn_f2 : (rowsF ⟨#[34, 97, 34, 98]⟩ 6 0).2 = some (3, 0) := by kernel_rfl
theorem kn_f3 : (rowsF ⟨#[34, 97]⟩ 4 0).2 = some (3, 0) := by kernel_rfl
theorem kn_f4 : (rowsF ⟨#[97, 32, 233]⟩ 5 0).2 = some (3, 2) := by kernel_rfl

theorem modest_one (a b : Int) (s : ByteArray) (q : Bool) (h : s.size ≤ 100000) : Modest [⟨a, [⟨b, s, q⟩]⟩] := by
  refine ⟨by simp, fun r hr => ?_⟩
  simp only [List.mem_cons, List.not_mem_nil, or_false] at hr
  subst hr
  refine ⟨by simp, fun x hx => ?_⟩
  simp only [List.mem_cons, List.not_mem_nil, or_false] at hx
  subst hx
  exact h
theorem modest_bare (a : Int) : Modest [⟨a, []⟩] := by
  refine ⟨by simp, fun r hr => ?_⟩
  simp only [List.mem_cons, List.not_mem_nil, or_false] at hr
  subst hr
  exact ⟨by simp, fun x hx => by simp at hx⟩

end Go.Proofs.YtdjkgnganbeonaaDoor
