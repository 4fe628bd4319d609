/- Ligatures made of numbers. -/
import Derived.Test.YtedkcnphplpacaaLgPath
import Derived.Test.YtedkcnphplpacaaLgAwake
namespace Go.Proofs.Ytedkcnphplpacaa
open Go.RowKit

def csM (kd : Nat → Nat) (i : Nat) : Bool := decide (0 < i) && (((kd (i + 1) % 4 : Nat) : Int) == 0 && !(decide (i = 1) && ((kd 0 % 4 : Nat) : Int) == 1))
def coM (P : List Int) (kd : Nat → Nat) (i : Nat) : Bool := (decide (i + 1 < P.length) && decide (P.getD (i + 1) 0 < P.getD i 0)) && ((kd (i + 1) % 3 : Nat) : Int) == 1
def obM (P : List Int) (kd : Nat → Nat) : Nat → Bool
  | 0 => coM P kd 0
  | i + 1 => coM P kd (i + 1) && !obM P kd i
def st0 (kd : Nat → Nat) (i : Nat) : Int := if i = 0 then ((kd 0 % 4 : Nat) : Int) else 0
def sg0 (P : List Int) (kd : Nat → Nat) (i : Nat) : Sg := ⟨4, 0, P.getD i 0, 0, false, st0 kd i, false, decide (i + 1 = P.length), 0, 0, 0, 0, false, 0, 0, 0, 0⟩
def sgM (P : List Int) (kd : Nat → Nat) (i : Nat) : Sg := ⟨4, 0, P.getD i 0, 0, false, (if csM kd i = true then 3 else st0 kd i), obM P kd i, decide (i + 1 = P.length), 0, 0, 0, 0, false, 0, 0, 0, 0⟩
def lsM (P : List Int) (kd : Nat → Nat) (k : Nat) : List Sg := (List.range P.length).map fun i => if i < k then sgM P kd i else sg0 P kd i
theorem lsM_len (P : List Int) (kd : Nat → Nat) (k : Nat) : (lsM P kd k).length = P.length := by unfold lsM; simp
theorem lsM_at (P : List Int) (kd : Nat → Nat) (k : Nat) {i : Nat} (h : i < P.length) : (lsM P kd k)[i]? = some (if i < k then sgM P kd i else sg0 P kd i) := by
  unfold lsM; rw [List.getElem?_map, List.getElem?_range h]; rfl
theorem lsM_set (P : List Int) (kd : Nat → Nat) {k : Nat} (h : k < P.length) : (lsM P kd k).set k (sgM P kd k) = lsM P kd (k + 1) := by
  apply List.ext_getElem?
  intro i
  by_cases hi : i < P.length
  · rw [lsM_at P kd (k + 1) hi]
    by_cases e : k = i
    · subst e
      rw [List.getElem?_set_self (by rw [lsM_len]; exact h), if_pos (by omega)]
    · rw [List.getElem?_set_ne e, lsM_at P kd k hi]
      by_cases g : i < k
      · rw [if_pos g, if_pos (by omega)]
      · rw [if_neg g, if_neg (by omega)]
  · rw [List.getElem?_eq_none (by rw [List.length_set, lsM_len]; omega), List.getElem?_eq_none (by rw [lsM_len]; omega)]
theorem set_self {α : Type} {l : List α} {k : Nat} {s : α} (h : l[k]? = some s) : l.set k s = l := by
  apply List.ext_getElem?
  intro i
  by_cases e : k = i
  · subst e
    rw [List.getElem?_set_self (List.getElem?_eq_some_iff.1 h).1, h]
  · rw [List.getElem?_set_ne e]
theorem lsM_zero (P : List Int) (kd : Nat → Nat) : drawG P ((kd 0 % 4 : Nat) : Int) [] = lsM P kd 0 := by
  apply List.ext_getElem?
  intro i
  unfold drawG
  by_cases hi : i < P.length
  · rw [lsM_at P kd 0 hi, if_neg (by omega)]
    have hd : ∀ j, j < P.length → (drL P [])[j]? = some (drS (P.getD j 0) (decide (j + 1 = P.length)) false) := fun j hj => by
      unfold drL; rw [List.getElem?_map, List.getElem?_range hj]; simp
    by_cases e : 0 = i
    · subst e
      rw [List.getElem?_set_self (by rw [drL_len]; exact hi)]
      have : (drL P []).getD 0 zS = drS (P.getD 0 0) (decide (0 + 1 = P.length)) false := by simp [List.getD, hd 0 hi]
      rw [this]; rfl
    · rw [List.getElem?_set_ne e, hd i hi]
      unfold sg0 st0
      rw [if_neg (fun h => e h.symm)]; rfl
  · rw [List.getElem?_eq_none (by rw [List.length_set, drL_len]; omega), List.getElem?_eq_none (by rw [lsM_len]; omega)]
def kdM (n : Int) (i : Nat) : Nat := (n % 1048576).toNat / 3 ^ i
theorem kdM_zero (n : Int) : ((kdM n 0 : Nat) : Int) = n % 1048576 := by unfold kdM; rw [Nat.pow_zero, Nat.div_one]; omega
theorem kdM_succ (n : Int) (i : Nat) : kdM n (i + 1) = kdM n i / 3 := by unfold kdM; rw [Nat.pow_succ, Nat.div_div_eq_div_mul]
theorem kdM_le (n : Int) (i : Nat) : kdM n i ≤ 1048575 := by
  unfold kdM
  have := Nat.div_le_self (n % 1048576).toNat (3 ^ i)
  omega
def madeG (nums : List Int) (n : Int) : List Sg := if 2 ≤ (pathG nums).length then lsM (pathG nums) (kdM n) (pathG nums).length else []

set_option maxRecDepth 100000 in
set_option maxHeartbeats 4000000 in
theorem made_any (nums : List Int) (hz : ∀ z ∈ nums, -9223372036854775808 ≤ z ∧ z ≤ 9223372036854775807) (m : Int) (hm : -9223372036854775808 ≤ m) (hm1 : m ≤ 9223372036854775807) (p : Option Addr) (cp : Nat) (w : World) (hp : SlP w 1 p nums.length cp (ints nums)) :
    Calls Try.prog 32 #[.slice p nums.length cp, .int .i64 m] w fun e w' => ∃ v, e = .returned (.tuple #[v, .bool (decide (2 ≤ (pathG nums).length))]) ∧ OwnL w w' 30 17 v (madeG nums m).length (flatG (madeG nums m)) := by
  have PA := Lib.hid (path_any nums hz p cp w hp)
  have hPO := pathG_ok nums
  have hD := show madeG nums m = if 2 ≤ (pathG nums).length then lsM (pathG nums) (kdM m) (pathG nums).length else [] from rfl
  generalize madeG nums m = MG at *
  generalize pathG nums = P at *
  have h8 := hPO.len
  obtain ⟨n, hn⟩ : ∃ n, P.length = n := ⟨_, rfl⟩
  rw [hn] at PA hD h8 ⊢
  clear hz hp hPO
  by_cases h2 : 2 ≤ n
  · rw [decide_eq_true h2]
    rw [if_pos h2] at hD
    have h2' : ¬ (n : Int) < 2 := by omega
    have MD := Lib.hid (fun W => mod_any m 1048576 W hm hm1 (by decide) (by decide))
    have DR := Lib.hid (show ∀ q c W, SlP W 1 q n c (ints P) → Calls Try.prog 10 #[.slice q n c, .int .i64 ((kdM m 0 % 4 : Nat) : Int), .slice none 0 0] W fun e w' => ∃ v, e = .returned v ∧ OwnL W w' 30 17 v n (flatG (lsM P (kdM m) 0)) from fun q c W h => by
      have := drawn_any P ((kdM m 0 % 4 : Nat) : Int) [] (by omega) q c none 0 W (by rw [hn]; exact h) (sl_nil W)
      rw [lsM_zero P (kdM m), hn] at this
      exact this)
    have hk0 : 0 ≤ m % 1048576 := by omega
    have hk1 : Int.tmod (m % 1048576) 4 = ((kdM m 0 % 4 : Nat) : Int) := by
      rw [Int.tmod_eq_emod_of_nonneg hk0, ← kdM_zero]; omega
    have HK0 := Lib.hid (kdM_zero m)
    have HKs := Lib.hid (kdM_succ m)
    have HKl := Lib.hid (kdM_le m)
    have hlen : ∀ k, (lsM P (kdM m) k).length = n := fun k => by rw [lsM_len, hn]
    have HLS := Lib.hid (show ∀ k, k < n → (lsM P (kdM m) k).set k (sgM P (kdM m) k) = lsM P (kdM m) (k + 1) from fun k hk => lsM_set P (kdM m) (by omega))
    have HLA := Lib.hid (show ∀ k i, i < n → (lsM P (kdM m) k)[i]? = some (if i < k then sgM P (kdM m) i else sg0 P (kdM m) i) from fun k i hi => lsM_at P (kdM m) k (by omega))
    have HLN := Lib.hid hlen
    have HSM := Lib.hid (show ∀ k, sgM P (kdM m) k = ⟨4, 0, P.getD k 0, 0, false, (if csM (kdM m) k = true then 3 else st0 (kdM m) k), obM P (kdM m) k, decide (k + 1 = P.length), 0, 0, 0, 0, false, 0, 0, 0, 0⟩ from fun k => rfl)
    have HS0 := Lib.hid (show ∀ k, sg0 P (kdM m) k = ⟨4, 0, P.getD k 0, 0, false, st0 (kdM m) k, false, decide (k + 1 = P.length), 0, 0, 0, 0, false, 0, 0, 0, 0⟩ from fun k => rfl)
    have HOB := Lib.hid (show ∀ k, obM P (kdM m) k = (((decide (k + 1 < n) && decide (P.getD (k + 1) 0 < P.getD k 0)) && ((kdM m (k + 1) % 3 : Nat) : Int) == 1) && (decide (k = 0) || !obM P (kdM m) (k - 1))) from fun k => by
      rw [← hn]
      cases k with
      | zero => show coM P (kdM m) 0 = _; unfold coM; simp
      | succ k => show (coM P (kdM m) (k + 1) && !obM P (kdM m) k) = _; unfold coM; simp)
    have HCS := Lib.hid (show ∀ k, csM (kdM m) k = (decide (0 < k) && (((kdM m (k + 1) % 4 : Nat) : Int) == 0 && !(decide (k = 1) && ((kdM m 0 % 4 : Nat) : Int) == 1))) from fun k => rfl)
    have HST := Lib.hid (show st0 (kdM m) 0 = ((kdM m 0 % 4 : Nat) : Int) from rfl)
    rw [hD, hlen]
    clear hlen hD hm hm1
    generalize obM P (kdM m) = OB at *
    generalize csM (kdM m) = CSF at *
    generalize st0 (kdM m) = ST at *
    generalize lsM P (kdM m) = LM at *
    generalize sgM P (kdM m) = SM at *
    generalize sg0 P (kdM m) = S0 at *
    generalize ((kdM m 0 % 4 : Nat) : Int) = k4 at *
    generalize kdM m = kd at *
    generalize m % 1048576 = m0 at *
    go_enter Try.func32, Try.ntmps32
    go_wp2_with fail
    refine PA.out.mono ?_
    rintro e w1 ⟨v, rfl, ho⟩
    obtain ⟨qp, cpp, rfl⟩ := ho.val
    obtain ⟨_, _, e9, hsl⟩ := SlP.of_own ho.row (by rw [← hn]; exact ints_len P) (ints_one P)
    injection e9 with e9 _ e10
    subst e9 e10
    have HP1 := Lib.hid hsl
    have B1 := Lib.hid ho.bel
    clear ho hsl PA
    go_wp2_with fail
    refine (MD.out _).mono ?_
    rintro e w1' ⟨rfl, rfl⟩
    clear MD
    go_wp2_with fail
    refine (DR.out _ _ _ HP1.out).mono ?_
    rintro e W0 ⟨v, rfl, ho⟩
    obtain ⟨ql, c, rfl⟩ := ho.val
    obtain ⟨g, rfl, hgb, _⟩ := own_some ho.row (by omega)
    obtain ⟨W1, hW1⟩ : ∃ W1, w1 = W1 := ⟨_, rfl⟩
    subst hW1
    have H0 := Lib.hid ho
    have HPp := Lib.hid HP1.out
    obtain ⟨ka, hka⟩ : ∃ ka : Int, ((kd 0 : Nat) : Int) = ka := ⟨_, rfl⟩
    have hm0 : m0 = ((kd 0 : Nat) : Int) := HK0.out.symm
    subst hm0
    clear ho DR HP1 hk1 hk0 hka
    generalize w1 = W1 at *
    go_wp2_with fail
    go_loopw [7, 9] (fun s7 s9 wr => ∃ k : Nat, k ≤ n ∧ s9 = .int .i64 (k : Int) ∧ s7 = .int .i64 ((kd k : Nat) : Int) ∧ Hid (OwnL W1 wr 30 17 (.slice (some ⟨g, 0, none⟩) n c) n (flatG (LM k)))) (fun _ s9 _ => n - (intOf s9).toNat)
    case atStart => exact ⟨0, by omega, rfl, rfl, H0⟩
    case round =>
      rename World => wr
      clear H0 HK0
      obtain ⟨k, hk, rfl, rfl, FL⟩ := hrel
      by_cases hlt : k < n
      · have hlt' : (k : Int) < n := by omega
        have hk0 : (0 : Int) ≤ k := by omega
        have hd3 : Int.tdiv ((kd k : Nat) : Int) 3 = ((kd (k + 1) : Nat) : Int) := by
          rw [HKs.out k, Int.tdiv_eq_ediv_of_nonneg (by omega)]; omega
        have hkl := HKl.out (k + 1)
        have hkl0 := HKl.out k
        have hb0 : (0 : Int) ≤ ((kd (k + 1) : Nat) : Int) := by omega
        have hb1 : ((kd (k + 1) : Nat) : Int) ≤ 1048575 := by omega
        have ht4 : Int.tmod ((kd (k + 1) : Nat) : Int) 4 = ((kd (k + 1) % 4 : Nat) : Int) := by rw [Int.tmod_eq_emod_of_nonneg hb0]; omega
        have ht3 : Int.tmod ((kd (k + 1) : Nat) : Int) 3 = ((kd (k + 1) % 3 : Nat) : Int) := by rw [Int.tmod_eq_emod_of_nonneg hb0]; omega
        have hx : IntKind.i64.wrap ((kd (k + 1) : Nat) : Int) = ((kd (k + 1) : Nat) : Int) := IntWalk.i64_in _ (by omega)
        have HCO := Lib.hid (HOB.out k)
        have HCS1 := Lib.hid (HCS.out k)
        have hsm := HSM.out k
        have hs0 := HLA.out k k hlt
        rw [if_neg (Nat.lt_irrefl k), HS0.out k] at hs0
        have HK := Lib.hid hs0
        have HZ0 := Lib.hid (show ∃ z : Sg, (LM k)[0]? = some z ∧ (0 < k → z.stem = k4) from by
          have := HLA.out k 0 (by omega)
          by_cases h0 : 0 < k
          · rw [if_pos h0, HSM.out 0] at this
            refine ⟨_, this, fun _ => ?_⟩
            have hc : CSF 0 = false := HCS.out 0
            simp only [hc]
            exact HST.out
          · exact ⟨_, this, fun h => absurd h h0⟩)
        have HPv0 := Lib.hid (show ∀ j, k = j + 1 → ∃ z : Sg, (LM k)[j]? = some z ∧ z.obl = OB (k - 1) from fun j hj => by
          have := HLA.out k j (by omega)
          rw [if_pos (by omega), HSM.out j] at this
          exact ⟨_, this, by rw [hj]; rfl⟩)
        have hset := HLS.out k hlt
        have hln := HLN.out k
        rw [hsm] at hset
        clear HOB HCS HSM HS0 HLA HLS HLN HST hs0 hsm HKs HKl hkl hkl0
        generalize hLN0 : LM (k + 1) = LN at *
        have HLN1 := Lib.hid hLN0
        clear hLN0
        generalize LM k = L at *
        generalize ((kd (k + 1) % 4 : Nat) : Int) = r4 at *
        generalize ((kd (k + 1) % 3 : Nat) : Int) = r3 at *
        generalize CSF k = CS at *
        generalize OB k = CO at *
        generalize OB (k - 1) = pv at *
        generalize ST k = sk at *
        generalize decide (k + 1 = P.length) = lb at *
        generalize P.getD k 0 = pk at hset HK
        go_upto_region 10 with (fail)
        go_cut [47] (fun s47 wx => s47 = .bool CS ∧ Hid (wr = wx))
        case first =>
          by_cases hp : 0 < k
          · have hp' : (0 : Int) < k := by omega
            rw [decide_eq_true hp] at HCS1
            cases h4 : (r4 == 0) with
            | false =>
              rw [h4] at HCS1
              have hB := HCS1.out
              clear HCS1
              go_wp2_with fail
              go_meet
              exact ⟨by rw [hB]; rfl, Lib.hid rfl⟩
            | true =>
              rw [h4] at HCS1
              by_cases h1 : k = 1
              · have h1' : ((k : Int) == 1) = true := by simp; omega
                rw [decide_eq_true h1] at HCS1
                obtain ⟨z, hz0, hz1⟩ := HZ0.out
                have z5 := FL.out.row.cellAt (0 * 17 + 5) (by omega)
                rw [flatG_at L 0 z hz0 5 (by decide)] at z5
                have z5' : wr.cell? ⟨g, 5, none⟩ = some (.int .i64 z.stem) := z5
                have hn0 : (0 : Int) < n := by omega
                rw [hz1 hp] at z5'
                have hB := HCS1.out
                clear HCS1 h1 hz0 hz1 z5
                go_wp2_with fail
                go_meet
                exact ⟨by rw [hB]; rfl, Lib.hid rfl⟩
              · have h1' : ((k : Int) == 1) = false := by simp; omega
                rw [decide_eq_false h1] at HCS1
                have hB := HCS1.out
                clear HCS1 h1
                go_wp2_with fail
                go_meet
                exact ⟨by rw [hB]; rfl, Lib.hid rfl⟩
          · have hp' : ¬ (0 : Int) < k := by omega
            rw [decide_eq_false hp] at HCS1
            have hB := HCS1.out
            clear HCS1
            go_wp2_with fail
            go_meet
            exact ⟨by rw [hB]; rfl, Lib.hid rfl⟩
        case rest =>
        obtain ⟨rfl, hww⟩ := hcut
        obtain rfl := hww.out
        clear hww HCS1 HZ0
        have hs5 := flatG_at L k _ HK.out 5 (by decide)
        cases CS with
        | true =>
          rw [if_pos rfl] at hset
          obtain ⟨s1, hs1⟩ : ∃ s1 : Sg, (⟨4, 0, pk, 0, false, 3, false, lb, 0, 0, 0, 0, false, 0, 0, 0, 0⟩ : Sg) = s1 := ⟨_, rfl⟩
          obtain ⟨L1, hL1⟩ : ∃ L1, L.set k s1 = L1 := ⟨_, rfl⟩
          have d5 : wr.cell? ⟨g, k * 17 + 5, none⟩ = some (.int .i64 sk) := by
            rw [FL.out.row.cellAt (k * 17 + 5) (by omega), hs5]; rfl
          have fr5 := FL.out.row.frozenAt (k * 17 + 5)
          have R2 := own_set FL.out.row (k * 17 + 5) (.int .i64 3)
          rw [flatG_stem L k _ _ HK.out, show setSt (⟨4, 0, pk, 0, false, sk, false, lb, 0, 0, 0, 0, false, 0, 0, 0, 0⟩ : Sg) 3 = s1 from hs1, hL1] at R2
          have FL2 := Lib.hid (show OwnL W1 (wr.setCell ⟨g, k * 17 + 5, none⟩ (.int .i64 3)) 30 17 (.slice (some ⟨g, 0, none⟩) n c) n (flatG L1) from ⟨w_put FL.out.bel hgb _ _, R2⟩)
          have HK1 := Lib.hid (show L1[k]? = some s1 by rw [← hL1]; exact List.getElem?_set_self (by rw [hln]; exact hlt))
          have HF2 := Lib.hid (show (CO = true → L1.set k (setOb s1 true) = LN) ∧ (CO = false → L1 = LN) from by
            constructor
            · intro e; rw [← hL1, List.set_set, ← hset, e, ← hs1]; rfl
            · intro e; rw [← hL1, ← hset, e, ← hs1])
          have HPv := Lib.hid (show ∀ j, k = j + 1 → L1[j]? = some ((L1.getD j zS)) ∧ (L1.getD j zS).obl = pv from fun j hj => by
            obtain ⟨z, hz, ho⟩ := HPv0.out j hj
            have : L1[j]? = some z := by rw [← hL1, List.getElem?_set_ne (by omega)]; exact hz
            refine ⟨by simp [List.getD, this], ?_⟩
            simp only [List.getD, this]; exact ho)
          clear R2 HK hset hs5 HPv0 hL1 hs1
          go_upto_region 12 with (fail)
          clear FL d5 fr5
          have FL := FL2
          clear FL2
          generalize wr.setCell ⟨g, k * 17 + 5, none⟩ (.int .i64 3) = y at *
          go_cut [86] (fun s86 wx => s86 = .bool CO ∧ Hid (OwnL W1 wx 30 17 (.slice (some ⟨g, 0, none⟩) n c) n (flatG L1)))
          case first =>
            clear HF2
            have PP := HPp.out.later FL.out.bel
            by_cases hk1 : k + 1 < n
            · have hk1' : (k : Int) + 1 < n := by omega
              have x2 : IntKind.i64.wrap ((k : Int) + 1) = (k : Int) + 1 := IntWalk.i64_in _ (by omega)
              have hk1z : (0 : Int) ≤ (k : Int) + 1 := by omega
              obtain ⟨bp, op, hpe, -, -⟩ := PP.at_ (by omega)
              rw [hpe] at PP
              have p0 := int_at PP hlt
              have p1 := int_at PP hk1
              rw [decide_eq_true hk1] at HCO
              obtain ⟨pa, hpa⟩ : ∃ z, P.getD (k + 1) 0 = z := ⟨_, rfl⟩
              obtain ⟨pb, hpb⟩ : ∃ z, P.getD k 0 = z := ⟨_, rfl⟩
              rw [hpa] at p1 HCO
              rw [hpb] at p0 HCO
              clear hpa hpb
              subst hpe
              clear PP HPp
              by_cases hq : pa < pb
              · have hqd : decide (pa < pb) = true := decide_eq_true hq
                rw [hqd] at HCO
                cases hr3 : (r3 == 1) with
                | false =>
                  rw [hr3] at HCO
                  have hB := HCO.out
                  clear HCO
                  go_quiet (fail)
                  go_wp2_with fail
                  go_meet
                  exact ⟨by rw [hB]; rfl, Lib.hid (FL.out.later ⟨rfl, rfl, rfl, Nat.le_refl _, fun _ _ => rfl⟩)⟩
                | true =>
                  rw [hr3] at HCO
                  by_cases hz : k = 0
                  · have hz1 : ((k : Int) == 0) = true := by simp; omega
                    rw [decide_eq_true hz] at HCO
                    have hB := HCO.out
                    clear HCO hz
                    go_quiet (fail)
                    go_wp2_with fail
                    go_meet
                    exact ⟨by rw [hB]; rfl, Lib.hid (FL.out.later ⟨rfl, rfl, rfl, Nat.le_refl _, fun _ _ => rfl⟩)⟩
                  · have hz1 : ((k : Int) == 0) = false := by simp; omega
                    rw [decide_eq_false hz] at HCO
                    have hB := HCO.out
                    obtain ⟨j, hj⟩ : ∃ j, k = j + 1 := ⟨k - 1, by omega⟩
                    have x3 : IntKind.i64.wrap ((k : Int) - 1) = (j : Int) := by rw [IntWalk.i64_in _ (by omega)]; omega
                    have hj0 : (0 : Int) ≤ (j : Int) := by omega
                    have hj1 : (j : Int) < n := by omega
                    have o6 := FL.out.row.cellAt (j * 17 + 6) (by omega)
                    rw [flatG_at L1 j _ (HPv.out j hj).1 6 (by decide)] at o6
                    have o6' : y.cell? ⟨g, j * 17 + 6, none⟩ = some (.bool pv) := by rw [o6, ← (HPv.out j hj).2]; rfl
                    clear HCO hz hj o6 HPv
                    go_quiet (fail)
                    go_wp2_with fail
                    go_meet
                    exact ⟨by rw [hB]; rfl, Lib.hid (FL.out.later ⟨rfl, rfl, rfl, Nat.le_refl _, fun _ _ => rfl⟩)⟩
              · have hq' : decide (pa < pb) = false := decide_eq_false hq
                rw [hq'] at HCO
                have hB := HCO.out
                clear HCO hq
                go_quiet (fail)
                go_wp2_with fail
                go_meet
                exact ⟨by rw [hB]; rfl, Lib.hid (FL.out.later ⟨rfl, rfl, rfl, Nat.le_refl _, fun _ _ => rfl⟩)⟩
            · have hk1' : decide ((k : Int) + 1 < n) = false := decide_eq_false (by omega)
              have x2 : IntKind.i64.wrap ((k : Int) + 1) = (k : Int) + 1 := IntWalk.i64_in _ (by omega)
              rw [decide_eq_false hk1] at HCO
              have hB := HCO.out
              clear HCO hk1 PP
              go_quiet (fail)
              go_wp2_with fail
              go_meet
              exact ⟨by rw [hB]; rfl, Lib.hid (FL.out.later ⟨rfl, rfl, rfl, Nat.le_refl _, fun _ _ => rfl⟩)⟩
          case rest =>
            clear FL HCO HPv
            obtain ⟨rfl, FL⟩ := hcut
            rename World => y2
            have hs6 := flatG_at L1 k _ HK1.out 6 (by decide)
            cases CO with
            | true =>
              have d6 : y2.cell? ⟨g, k * 17 + 6, none⟩ = some (.bool s1.obl) := by
                rw [FL.out.row.cellAt (k * 17 + 6) (by omega), hs6]; rfl
              have fr6 := FL.out.row.frozenAt (k * 17 + 6)
              have R3 := own_set FL.out.row (k * 17 + 6) (.bool true)
              rw [flatG_obl L1 k s1 true HK1.out, HF2.out.1 rfl] at R3
              have HN := Lib.hid (show OwnL W1 (y2.setCell ⟨g, k * 17 + 6, none⟩ (.bool true)) 30 17 (.slice (some ⟨g, 0, none⟩) n c) n (flatG (LN)) from ⟨w_put FL.out.bel hgb _ _, R3⟩)
              clear R3 FL HF2 hs6
              go_wp2_with fail
              go_roundw
              case rel => exact ⟨k + 1, by omega, by go_num, rfl, (by rw [HLN1.out]; exact HN)⟩
              case measure => simp [intOf]; omega
            | false =>
              have e2 := HF2.out.2 rfl
              rw [e2] at FL
              clear HF2 hs6 e2
              go_wp2_with fail
              go_roundw
              case rel => exact ⟨k + 1, by omega, by go_num, rfl, (by rw [HLN1.out]; exact FL)⟩
              case measure => simp [intOf]; omega
        | false =>
          rw [if_neg (by decide)] at hset
          obtain ⟨s1, hs1⟩ : ∃ s1 : Sg, (⟨4, 0, pk, 0, false, sk, false, lb, 0, 0, 0, 0, false, 0, 0, 0, 0⟩ : Sg) = s1 := ⟨_, rfl⟩
          rw [hs1] at HK
          obtain ⟨L1, hL1⟩ : ∃ L1, L = L1 := ⟨_, rfl⟩
          subst hL1
          have HK1 := HK
          have HF2 := Lib.hid (show (CO = true → L.set k (setOb s1 true) = LN) ∧ (CO = false → L = LN) from by
            constructor
            · intro e; rw [← hset, e, ← hs1]; rfl
            · intro e; rw [← hset, e, hs1, set_self HK1.out])
          have HPv := Lib.hid (show ∀ j, k = j + 1 → L[j]? = some ((L.getD j zS)) ∧ (L.getD j zS).obl = pv from fun j hj => by
            obtain ⟨z, hz, ho⟩ := HPv0.out j hj
            refine ⟨by simp [List.getD, hz], ?_⟩
            simp only [List.getD, hz]; exact ho)
          clear HK hset hs5 HPv0 hs1
          go_upto_region 12 with (fail)
          obtain ⟨y, hy⟩ : ∃ y, wr = y := ⟨_, rfl⟩
          subst hy
          go_cut [86] (fun s86 wx => s86 = .bool CO ∧ Hid (OwnL W1 wx 30 17 (.slice (some ⟨g, 0, none⟩) n c) n (flatG L)))
          case first =>
            clear HF2
            have PP := HPp.out.later FL.out.bel
            by_cases hk1 : k + 1 < n
            · have hk1' : (k : Int) + 1 < n := by omega
              have x2 : IntKind.i64.wrap ((k : Int) + 1) = (k : Int) + 1 := IntWalk.i64_in _ (by omega)
              have hk1z : (0 : Int) ≤ (k : Int) + 1 := by omega
              obtain ⟨bp, op, hpe, -, -⟩ := PP.at_ (by omega)
              rw [hpe] at PP
              have p0 := int_at PP hlt
              have p1 := int_at PP hk1
              rw [decide_eq_true hk1] at HCO
              obtain ⟨pa, hpa⟩ : ∃ z, P.getD (k + 1) 0 = z := ⟨_, rfl⟩
              obtain ⟨pb, hpb⟩ : ∃ z, P.getD k 0 = z := ⟨_, rfl⟩
              rw [hpa] at p1 HCO
              rw [hpb] at p0 HCO
              clear hpa hpb
              subst hpe
              clear PP HPp
              by_cases hq : pa < pb
              · have hqd : decide (pa < pb) = true := decide_eq_true hq
                rw [hqd] at HCO
                cases hr3 : (r3 == 1) with
                | false =>
                  rw [hr3] at HCO
                  have hB := HCO.out
                  clear HCO
                  go_quiet (fail)
                  go_wp2_with fail
                  go_meet
                  exact ⟨by rw [hB]; rfl, Lib.hid (FL.out.later ⟨rfl, rfl, rfl, Nat.le_refl _, fun _ _ => rfl⟩)⟩
                | true =>
                  rw [hr3] at HCO
                  by_cases hz : k = 0
                  · have hz1 : ((k : Int) == 0) = true := by simp; omega
                    rw [decide_eq_true hz] at HCO
                    have hB := HCO.out
                    clear HCO hz
                    go_quiet (fail)
                    go_wp2_with fail
                    go_meet
                    exact ⟨by rw [hB]; rfl, Lib.hid (FL.out.later ⟨rfl, rfl, rfl, Nat.le_refl _, fun _ _ => rfl⟩)⟩
                  · have hz1 : ((k : Int) == 0) = false := by simp; omega
                    rw [decide_eq_false hz] at HCO
                    have hB := HCO.out
                    obtain ⟨j, hj⟩ : ∃ j, k = j + 1 := ⟨k - 1, by omega⟩
                    have x3 : IntKind.i64.wrap ((k : Int) - 1) = (j : Int) := by rw [IntWalk.i64_in _ (by omega)]; omega
                    have hj0 : (0 : Int) ≤ (j : Int) := by omega
                    have hj1 : (j : Int) < n := by omega
                    have o6 := FL.out.row.cellAt (j * 17 + 6) (by omega)
                    rw [flatG_at L j _ (HPv.out j hj).1 6 (by decide)] at o6
                    have o6' : wr.cell? ⟨g, j * 17 + 6, none⟩ = some (.bool pv) := by rw [o6, ← (HPv.out j hj).2]; rfl
                    clear HCO hz hj o6 HPv
                    go_quiet (fail)
                    go_wp2_with fail
                    go_meet
                    exact ⟨by rw [hB]; rfl, Lib.hid (FL.out.later ⟨rfl, rfl, rfl, Nat.le_refl _, fun _ _ => rfl⟩)⟩
              · have hq' : decide (pa < pb) = false := decide_eq_false hq
                rw [hq'] at HCO
                have hB := HCO.out
                clear HCO hq
                go_quiet (fail)
                go_wp2_with fail
                go_meet
                exact ⟨by rw [hB]; rfl, Lib.hid (FL.out.later ⟨rfl, rfl, rfl, Nat.le_refl _, fun _ _ => rfl⟩)⟩
            · have hk1' : decide ((k : Int) + 1 < n) = false := decide_eq_false (by omega)
              have x2 : IntKind.i64.wrap ((k : Int) + 1) = (k : Int) + 1 := IntWalk.i64_in _ (by omega)
              rw [decide_eq_false hk1] at HCO
              have hB := HCO.out
              clear HCO hk1 PP
              go_quiet (fail)
              go_wp2_with fail
              go_meet
              exact ⟨by rw [hB]; rfl, Lib.hid (FL.out.later ⟨rfl, rfl, rfl, Nat.le_refl _, fun _ _ => rfl⟩)⟩
          case rest =>
            clear FL HCO HPv
            obtain ⟨rfl, FL⟩ := hcut
            rename World => y2
            have hs6 := flatG_at L k _ HK1.out 6 (by decide)
            cases CO with
            | true =>
              have d6 : y2.cell? ⟨g, k * 17 + 6, none⟩ = some (.bool s1.obl) := by
                rw [FL.out.row.cellAt (k * 17 + 6) (by omega), hs6]; rfl
              have fr6 := FL.out.row.frozenAt (k * 17 + 6)
              have R3 := own_set FL.out.row (k * 17 + 6) (.bool true)
              rw [flatG_obl L k s1 true HK1.out, HF2.out.1 rfl] at R3
              have HN := Lib.hid (show OwnL W1 (y2.setCell ⟨g, k * 17 + 6, none⟩ (.bool true)) 30 17 (.slice (some ⟨g, 0, none⟩) n c) n (flatG (LN)) from ⟨w_put FL.out.bel hgb _ _, R3⟩)
              clear R3 FL HF2 hs6
              go_wp2_with fail
              go_roundw
              case rel => exact ⟨k + 1, by omega, by go_num, rfl, (by rw [HLN1.out]; exact HN)⟩
              case measure => simp [intOf]; omega
            | false =>
              have e2 := HF2.out.2 rfl
              rw [e2] at FL
              clear HF2 hs6 e2
              go_wp2_with fail
              go_roundw
              case rel => exact ⟨k + 1, by omega, by go_num, rfl, (by rw [HLN1.out]; exact FL)⟩
              case measure => simp [intOf]; omega
      · obtain rfl : k = n := by omega
        have hlt' : ¬ ((k : Int) < k) := by omega
        have HE := Lib.hid (show OwnL w wr 30 17 (.slice (some ⟨g, 0, none⟩) k c) k (flatG (LM k)) from ⟨w_below B1.out FL.out.bel, own_base FL.out.row B1.out.size⟩)
        clear HOB HCS HSM HS0 HLA HLS HLN HST HKs HKl FL
        go_wp2_with fail
        go_ret2
        exact ⟨_, rfl, HE.out⟩
  · rw [decide_eq_false h2]
    rw [if_neg h2] at hD
    subst hD
    have h2' : (n : Int) < 2 := by omega
    clear h2
    go_enter Try.func32, Try.ntmps32
    go_wp2_with fail
    refine PA.out.mono ?_
    rintro e w1 ⟨v, rfl, ho⟩
    obtain ⟨qp, cpp, rfl⟩ := ho.val
    have B1 := Lib.hid ho.bel
    clear ho PA
    go_wp2_with fail
    go_ret2
    exact ⟨_, rfl, B1.out, World.ownsRow_nil _ _ _ _⟩

end Go.Proofs.Ytedkcnphplpacaa
