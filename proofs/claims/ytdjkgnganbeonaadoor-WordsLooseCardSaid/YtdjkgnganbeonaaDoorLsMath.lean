/- Lines that are decorated with blanks, comments and empty lines, as plain mathematics; pieces of lists of rows. -/
import Derived.Test.YtdjkgnganbeonaaDoorBackLaw
import Derived.Test.YtdjkgnganbeonaaDoorOwn
namespace Go.Proofs.YtdjkgnganbeonaaDoor
open Go.RowKit

def gapsB : List ByteArray := [⟨#[]⟩, ⟨#[32, 32]⟩, ⟨#[32, 59, 10, 10]⟩, ⟨#[59, 32, 34, 97, 10, 32, 32, 32]⟩, ⟨#[10]⟩]
def endsB : List ByteArray := [⟨#[]⟩, ⟨#[32]⟩, ⟨#[32, 32, 59, 32, 120, 59, 34]⟩, ⟨#[32, 59]⟩, ⟨#[59, 255]⟩]
def noB : ByteArray := ⟨#[]⟩

/-- A line without words. -/
theorem Reads.none {l : List UInt8} (h : EndL l) (hn : ∀ c ∈ l, c ≠ 10) (hl : l.length ≤ 1000) : Reads (l ++ [10]) [] := by
  have := Reads.line hn hl (bs := []) (fun f s hs => ⟨[], endL_cuts hs f h (Nat.zero_le _) (by rw [List.drop_zero]), rfl⟩)
  simpa using this

/-- A gap: lines without words, then blanks. -/
theorem gap_parts : ∀ n, n < 5 → ∃ (pre : List UInt8) (k : Nat), k ≤ 3 ∧ (gapsB.getD n noB).data.toList = pre ++ List.replicate k 32 ∧ Reads pre [] := by
  intro n hn
  have h5 : n = 0 ∨ n = 1 ∨ n = 2 ∨ n = 3 ∨ n = 4 := by omega
  rcases h5 with rfl | rfl | rfl | rfl | rfl
  · exact ⟨[], 0, by omega, rfl, Reads.nil⟩
  · exact ⟨[], 2, by omega, rfl, Reads.nil⟩
  · exact ⟨[32, 59, 10, 10], 0, by omega, rfl, Reads.app (b1 := []) (b2 := []) (l1 := [32, 59, 10]) (l2 := [10]) (Reads.none (l := [32, 59]) (.blank (.note [])) (by decide) (by decide)) (Reads.none (l := []) .nil (by decide) (by decide))⟩
  · exact ⟨[59, 32, 34, 97, 10], 3, by omega, rfl, Reads.none (l := [59, 32, 34, 97]) (.note _) (by decide) (by decide)⟩
  · exact ⟨[10], 0, by omega, rfl, Reads.none (l := []) .nil (by decide) (by decide)⟩
theorem end_parts : ∀ n, n < 5 → EndL (endsB.getD n noB).data.toList ∧ (∀ c ∈ (endsB.getD n noB).data.toList, c ≠ 10) := by
  intro n hn
  have h5 : n = 0 ∨ n = 1 ∨ n = 2 ∨ n = 3 ∨ n = 4 := by omega
  rcases h5 with rfl | rfl | rfl | rfl | rfl
  · exact ⟨.nil, by decide⟩
  · exact ⟨.blank .nil, by decide⟩
  · exact ⟨.blank (.blank (.note _)), by decide⟩
  · exact ⟨.blank (.note _), by decide⟩
  · exact ⟨.note _, by decide⟩
theorem gap_size : ∀ n, n < 5 → (gapsB.getD n noB).size ≤ 8 ∧ (endsB.getD n noB).size ≤ 7 := by decide

/-- A decorated line reads as its words. -/
theorem deco {n m : Nat} (hn : n < 5) (hm : m < 5) {ws : List Wd} (h : RowOk ws) : Reads ((gapsB.getD n noB).data.toList ++ (lineL ws ++ ((endsB.getD m noB).data.toList ++ [10]))) [bareW ws] := by
  obtain ⟨pre, k, hk, e, hp⟩ := gap_parts n hn
  obtain ⟨e1, e2⟩ := end_parts m hm
  have hs := (gap_size m hm).2
  have hl := h.good.2
  have hw : bareW ws ≠ [] := fun x => h.1 (bareW_nil x)
  have hL : (endsB.getD m noB).data.toList.length = (endsB.getD m noB).size := by simp
  have r := Reads.row k ws h.2.2.1 e1 e2 (by omega)
  rw [if_neg hw] at r
  have := Reads.app hp r
  rw [e]
  simpa using this

/-- The text so far and one line more. -/
theorem deco_more {T S : ByteArray} {bs : List (List (ByteArray × Bool))} {n m : Nat} (hT : Reads T.data.toList bs) (hn : n < 5) (hm : m < 5) {ws : List Wd} (h : RowOk ws) (hS : S = ⟨(lineL ws ++ [10]).toArray⟩) :
    Reads ((T ++ gapsB.getD n noB ++ S.extract 0 (S.size - 1) ++ endsB.getD m noB ++ (⟨#[10]⟩ : ByteArray)).data.toList) (bs ++ [bareW ws]) ∧ (T ++ gapsB.getD n noB ++ S.extract 0 (S.size - 1) ++ endsB.getD m noB ++ (⟨#[10]⟩ : ByteArray)).size ≤ T.size + 88 := by
  have hl := h.good.2
  have e : (S.extract 0 (S.size - 1)).data.toList = lineL ws := by
    have hsz : S.size = (lineL ws).length + 1 := by rw [hS, list_size]; simp
    have := extract_list (s := S) (L := lineL ws ++ [10]) (M := lineL ws) (i := 0) (R := [10]) (by rw [hS]) (by rw [List.drop_zero])
    rw [hsz, Nat.add_sub_cancel]
    simpa using this
  have hz : (S.extract 0 (S.size - 1)).size = (lineL ws).length := by rw [← e]; simp
  refine ⟨?_, ?_⟩
  · rw [data_app, data_app, data_app, data_app, e]
    have := Reads.app hT (deco hn hm h)
    simpa using this
  · have h1 := (gap_size n hn).1
    have h2 := (gap_size m hm).2
    rw [ByteArray.size_append, ByteArray.size_append, ByteArray.size_append, ByteArray.size_append, hz]
    show _ + 1 ≤ _
    omega

/-! ### Pieces of lists of rows -/
theorem AllR.take {w : World} {o : Option Nat} : ∀ {vs rs} (k : Nat), AllR w o vs rs → AllR w o (vs.take k) (rs.take k)
  | _, _, 0, _ => trivial
  | [], [], _ + 1, _ => trivial
  | _ :: _, _ :: _, k + 1, h => ⟨h.1, AllR.take k h.2⟩
  | [], _ :: _, _, h => h.elim
  | _ :: _, [], _, h => h.elim
theorem AllR.drop {w : World} {o : Option Nat} : ∀ {vs rs} (k : Nat), AllR w o vs rs → AllR w o (vs.drop k) (rs.drop k)
  | _, _, 0, h => h
  | [], [], _ + 1, _ => trivial
  | _ :: _, _ :: _, k + 1, h => AllR.drop k h.2
  | [], _ :: _, _, h => h.elim
  | _ :: _, [], _, h => h.elim
theorem flatR_sub (vs : List (Int × Value)) (i j q : Nat) (u : Value) (h : (flatR ((vs.take j).drop i))[q]? = some u) : (flatR vs)[i * 2 + q]? = some u := by
  obtain ⟨k, hk, hc⟩ := flatR_at _ q u h
  have hk' : i + k < min j vs.length := by rw [List.length_drop, List.length_take] at hk; omega
  have hg : ((vs.take j).drop i).getD k (0, .bool false) = vs.getD (i + k) (0, .bool false) := by
    rw [List.getD, List.getD, List.getElem?_drop, List.getElem?_take_of_lt (by omega)]
  obtain ⟨e0, e1⟩ := flatR_get2 vs (i + k) (by omega)
  rcases hc with ⟨rfl, rfl⟩ | ⟨rfl, rfl⟩
  · rw [hg, show i * 2 + k * 2 = (i + k) * 2 by omega]; exact e0
  · rw [hg, show i * 2 + (k * 2 + 1) = (i + k) * 2 + 1 by omega]; exact e1
/-- A piece of a list of rows. -/
theorem rowsV_sub {w : World} {b off N cap : Nat} {rs : List Rw} (h : RowsV w (.slice (some ⟨b, off, none⟩) N cap) rs) (i j n : Nat) (hij : i ≤ j) (hj : j ≤ rs.length) (hn : n = j - i) :
    RowsV w (.slice (some ⟨b, off + i * 2, none⟩) n (cap - i)) ((rs.take j).drop i) := by
  obtain ⟨p, c, vs, o, e, hs, ha⟩ := h
  simp only [Value.slice.injEq] at e
  obtain ⟨rfl, rfl, rfl⟩ := e
  have hl := ha.len
  have hlen : ((rs.take j).drop i).length = n := by rw [List.length_drop, List.length_take]; omega
  have f1 := hs.fit
  have f2 := hs.max
  refine ⟨some ⟨b, off + i * 2, none⟩, cap - i, (vs.take j).drop i, o, by rw [hlen], ⟨by omega, by omega, fun e => (by cases e), by rw [flatR_len, hlen, List.length_drop, List.length_take]; omega, fun h0 => ?_⟩, (ha.take j).drop i⟩
  rw [hlen] at h0
  obtain ⟨b', off', e, hb, hc⟩ := hs.at_ (by omega)
  simp only [Option.some.injEq, Addr.mk.injEq] at e
  obtain ⟨rfl, rfl, _⟩ := e
  refine ⟨b, off + i * 2, rfl, hb, fun q u hu => ?_⟩
  rw [Nat.add_assoc]
  exact hc _ u (flatR_sub vs i j q u hu)
theorem rowsV_addr {w : World} {p : Option Addr} {N cap : Nat} {rs : List Rw} (h : RowsV w (.slice p N cap) rs) (h0 : 0 < rs.length) : ∃ b off, p = some ⟨b, off, none⟩ := by
  obtain ⟨p, c, vs, o, e, hs, ha⟩ := h
  simp only [Value.slice.injEq] at e
  obtain ⟨rfl, rfl, rfl⟩ := e
  obtain ⟨b, off, e, _⟩ := hs.at_ h0
  exact ⟨b, off, e⟩
theorem one_row {rs : List Rw} {k : Nat} (h : k < rs.length) : (rs.take (k + 1)).drop k = [rs.getD k noRw] := by
  rw [take_getR h]
  have e : (rs.take k).length = k := by rw [List.length_take]; omega
  conv => lhs; arg 1; rw [← e]
  exact List.drop_left
theorem bare_take {rs : List Rw} {k : Nat} (h : k < rs.length) : bareR (rs.take (k + 1)) = bareR (rs.take k) ++ [bareW (rs.getD k noRw).words] := by
  rw [take_getR h]; unfold bareR; rw [List.map_append]; rfl

/-- The rows of both texts. -/
theorem both_rows {T : ByteArray} {l m : List Rw} (hT : Reads T.data.toList (bareR l)) (hm : ∀ r ∈ m, RowOk r.words) : Reads ((T ++ (⟨#[10]⟩ : ByteArray) ++ (⟨(bodyL m).toArray⟩ : ByteArray)).data.toList) (bareR (l ++ m)) := by
  rw [data_app, data_app]
  have h1 := Reads.app (Reads.app hT (Reads.none (l := []) .nil (by simp) (by simp))) (Reads.body m (fun r hr => (hm r hr).good.1))
  have e : bareR l ++ [] ++ bareR m = bareR (l ++ m) := by unfold bareR; rw [List.append_nil, List.map_append]
  rw [e] at h1
  simpa using h1
theorem whole_text {T : ByteArray} {bs} (h : Reads T.data.toList bs) (hl : T.size ≤ 20000) {rs : List Rw} {b : Option (Int × Int)} (k : RowsRes T rs b) : b = none ∧ bareR rs = bs := by
  have e : T = ⟨T.data.toList.toArray⟩ := bytes_of rfl
  rw [e] at k
  exact h.whole (by simpa using hl) k

end Go.Proofs.YtdjkgnganbeonaaDoor
