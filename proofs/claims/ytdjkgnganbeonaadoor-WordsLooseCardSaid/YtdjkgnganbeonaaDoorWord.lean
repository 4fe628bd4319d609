/- The program's isWord and written: for every word. -/
import Derived.Test.YtdjkgnganbeonaaDoorNumb
import Derived.Test.YtdjkgnganbeonaaDoorPair
import Derived.Test.YtdjkgnganbeonaaDoorWWrite
namespace Go.Proofs.YtdjkgnganbeonaaDoor
open Go.RowKit

theorem plain_all (l : List UInt8) : l.all (fun c => plainC (clsI c.toNat)) = l.all (fun c => plainI c.toNat) := by congr 1; funext c; exact cls_plain _
theorem inside_all (l : List UInt8) : l.all (fun c => quotableC (clsI c.toNat)) = l.all (fun c => insideI c.toNat) := by congr 1; funext c; exact cls_quotable _

set_option maxRecDepth 100000 in
set_option maxHeartbeats 2000000 in
theorem wisword_any (x : Wd) (w : World) (hs : x.text.size ≤ 1000000) : Calls Tryd.prog 53 #[wv x] w fun e w' => e = .returned (.bool (okW x)) ∧ Below w.heap.size w w' := by
  obtain ⟨a, t, q⟩ := x
  simp only at hs
  have hl : t.data.toList.length = t.size := by simp
  show Calls Tryd.prog 53 #[.agg #[.int .i64 a, .string t, .bool q]] w _
  cases q with
  | true =>
    have R := Lib.hid (fun W => (wrun_quotable t W (by unfold maxLen; omega)).mono fun e w' h => (⟨h.1, h.2.symm⟩ : e = _ ∧ w' = W))
    obtain ⟨b, hb⟩ : ∃ b, ((runN quotableC t.data.toList : Int) == (t.size : Int)) = b := ⟨_, rfl⟩
    have hok := Lib.hid (show okW ⟨a, t, true⟩ = b by
      have h1 := runN_all quotableC t.data.toList
      rw [inside_all, hl] at h1
      unfold okW; simp only [if_true]
      rw [← h1, ← hb]
      by_cases e : runN quotableC t.data.toList = t.size
      · simp [e]
      · simp [e]; omega)
    clear hl
    go_enter Tryd.func53, Tryd.ntmps53
    go_wp2_with fail
    go_quiet ((go_at_call 42; exact Calls.quiet_of_same (R.out _)))
    go_wp2_with fail
    go_ret
    rw [hok.out]
    exact ⟨rfl, below_drewN (w_alloc (w_refl w) _) _⟩
  | false =>
    have R := Lib.hid (fun W => (wrun_plain t W (by unfold maxLen; omega)).mono fun e w' h => (⟨h.1, h.2.symm⟩ : e = _ ∧ w' = W))
    by_cases hz : 0 < t.size
    · have hem := ne_empty hz
      obtain ⟨b, hb⟩ : ∃ b, ((runN plainC t.data.toList : Int) == (t.size : Int)) = b := ⟨_, rfl⟩
      have hok := Lib.hid (show okW ⟨a, t, false⟩ = b by
        have h1 := runN_all plainC t.data.toList
        rw [plain_all, hl] at h1
        unfold okW
        simp only [decide_eq_true hz, Bool.and_true]
        show (t.data.toList.all fun c => plainI c.toNat) = b
        rw [← h1, ← hb]
        by_cases e : runN plainC t.data.toList = t.size
        · simp [e]
        · simp [e]; omega)
      clear hl
      go_enter Tryd.func53, Tryd.ntmps53
      go_wp2_with fail
      go_quiet ((go_at_call 42; exact Calls.quiet_of_same (R.out _)))
      go_wp2_with fail
      go_ret
      rw [hok.out]
      exact ⟨rfl, below_drewN (w_alloc (w_refl w) _) _⟩
    · have hem : t.toList.isEmpty = true := by simpa using (w_nil t).2 (by omega)
      have hok := Lib.hid (show okW ⟨a, t, false⟩ = false by unfold okW; simp only [decide_eq_false hz]; simp)
      clear hl R
      go_enter Tryd.func53, Tryd.ntmps53
      go_wp2_with fail
      go_quiet (fail)
      go_wp2_with fail
      go_ret
      rw [hok.out]
      exact ⟨rfl, below_drewN (w_alloc (w_refl w) _) _⟩

set_option maxRecDepth 100000 in
set_option maxHeartbeats 2000000 in
theorem wwritten_any (x : Wd) (w : World) (hs : x.text.size ≤ 1000000) : Calls Tryd.prog 54 #[wv x] w fun e w' => e = .returned (.string (writtenB x)) ∧ Below w.heap.size w w' := by
  obtain ⟨a, t, q⟩ := x
  simp only at hs
  show Calls Tryd.prog 54 #[.agg #[.int .i64 a, .string t, .bool q]] w _
  cases q with
  | true =>
    have z1 : ¬ 9223372036854775807 < 1 + t.size := by omega
    have z2 : ¬ 9223372036854775807 < 1 + t.size + 1 := by omega
    go_enter Tryd.func54, Tryd.ntmps54
    go_wp2_with fail
    go_ret
    exact ⟨rfl, w_alloc (w_refl w) _⟩
  | false =>
    go_enter Tryd.func54, Tryd.ntmps54
    go_wp2_with fail
    go_ret
    exact ⟨rfl, w_alloc (w_refl w) _⟩

/-! What is written, as lists of bytes -/
def wordL (x : Wd) : List UInt8 := if x.quoted = true then 34 :: (x.text.data.toList ++ [34]) else x.text.data.toList
theorem written_L (x : Wd) : (writtenB x).data.toList = wordL x := by
  obtain ⟨a, t, q⟩ := x
  cases q with
  | true => show ((⟨#[34]⟩ : ByteArray) ++ t ++ ⟨#[34]⟩).data.toList = _; simp [wordL]
  | false => rfl
def tailL : List Wd → List UInt8
  | [] => []
  | x :: t => 32 :: (wordL x ++ tailL t)
def lineL : List Wd → List UInt8
  | [] => []
  | x :: t => wordL x ++ tailL t
theorem tailL_snoc (x : Wd) : ∀ t, tailL (t ++ [x]) = tailL t ++ 32 :: wordL x
  | [] => by simp [tailL]
  | y :: t => by simp [tailL, tailL_snoc x t]
theorem lineL_snoc (x : Wd) (ws : List Wd) (h : ws ≠ []) : lineL (ws ++ [x]) = lineL ws ++ 32 :: wordL x := by
  cases ws with
  | nil => exact absurd rfl h
  | cons y t => simp [lineL, tailL_snoc]
theorem lineL_one (x : Wd) : lineL ([] ++ [x]) = wordL x := by simp [lineL, tailL]

/-- The error of a row. -/
def rowE (ws : List Wd) : Int := if ws = [] ∨ ws.all okW = false then 3 else if 1000 < (lineL ws).length then 4 else 0
/-- What Text hands back, from a text so far on. -/
def textG (out : List UInt8) : List Rw → List UInt8 × Int
  | [] => (out, 0)
  | r :: t => if rowE r.words ≠ 0 then ([], rowE r.words) else if 20000 < (out ++ (lineL r.words ++ [10])).length then ([], 4) else textG (out ++ (lineL r.words ++ [10])) t

end Go.Proofs.YtdjkgnganbeonaaDoor
