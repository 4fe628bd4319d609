/- An append of a slice that may be read to a list of the call's own. -/
import Derived.Test.YthokapebcplmkaaKMem
import Derived.Laws.AppendOwnNone
namespace Go.Proofs.Ythokapebcplmkaa
open Go.RowKit

theorem wpList_append_sl {w : World} {ops : Array Oper} {rest : List Oper} {o : Oper} {a : Act} {Q : Exit → Act → World → Prop} (hgd : o.guard = none) (s x : Operand) (t : TypeId)
    (ho : o.op = .call { callee := .builtin .append, args := #[s, x], argTypes := #[t, t] })
    (base : Nat) (e : TypeId) (i : TypeInfo) (z : Value) (size bytes : Nat) (ht : Try.prog.underlying t = some (.slice e)) (hi : Try.prog.info? e = some i) (hz : i.zero = some z)
    (hsize : i.size = size) (hby : i.bytes = bytes) (hzs : z.cells.size = size) (hsz : 0 < size)
    (v : Value) (n : Nat) (xs : List Value) (hs : a.eval s = v) (hown : w.ownsRow base e size v n xs)
    (q : Option Addr) (m c : Nat) (cs : List Value) (hx : a.eval x = .slice q m c) (hsl : SlP w size q m c cs)
    (h63 : n + m ≤ maxLen) (hbytes : (n + m) * bytes ≤ 140737488355328) (hbase : base ≤ w.heap.size)
    (h : ∀ v' w', w'.ownsRow base e size v' (n + m) (xs ++ cs) → w.grownBy w' v.ownBlock → wpList Try.prog ops Q rest (a.put o.dst v') w') :
    wpList Try.prog ops Q (o :: rest) a w := by
  cases q with
  | none =>
    obtain rfl := hsl.nil rfl
    obtain rfl : m = 0 := by have := hsl.fit; omega
    obtain rfl : cs = [] := List.eq_nil_of_length_eq_zero (by have := hsl.len; omega)
    refine wpList_append_own_none hgd s x t ho base e i size ht hi v n xs hs hown hx (h v w (by simpa using hown) ⟨rfl, rfl, rfl, Nat.le_refl _, fun _ _ _ => rfl⟩)
  | some ad =>
    refine wpList_append_own w hgd s x t ho base e i z size bytes ht hi hz hsize hby hzs hsz v n xs hs hown ad m c cs hx hsl.len ?_ hsl.one h63 hbytes hbase (fun v' w' h2 h3 _ => h v' w' h2 h3)
    intro j u hj
    by_cases h0 : 0 < m
    · obtain ⟨b, off, e2, _, hu⟩ := hsl.at_ h0
      cases e2
      rw [add_none]
      exact hu j u hj
    · obtain rfl : cs = [] := List.eq_nil_of_length_eq_zero (by have := hsl.len; rw [show m = 0 by omega] at this; omega)
      simp at hj

end Go.Proofs.Ythokapebcplmkaa
