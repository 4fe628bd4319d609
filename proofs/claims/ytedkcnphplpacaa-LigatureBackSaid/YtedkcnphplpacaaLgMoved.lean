/- LigatureMoved returns true: moving all places changes no value. -/
import Derived.Test.YtedkcnphplpacaaLgMadeB
namespace Go.Proofs.Ytedkcnphplpacaa
open Go.RowKit

def setPl (s : Sg) (x : Int) : Sg := { s with place := x }
theorem flatG_place : ∀ (l : List Sg) (i : Nat) (s : Sg) (x : Int), l[i]? = some s → (flatG l).set (i * 17 + 2) (.int .i64 x) = flatG (l.set i (setPl s x))
  | [], _, _, _, h => by simp at h
  | a :: t, 0, s, x, h => by
    simp at h; subst h
    show (sgL a ++ flatG t).set 2 _ = sgL (setPl a x) ++ flatG t
    rw [List.set_append_left _ _ (by rw [sgL_len]; decide)]; rfl
  | a :: t, i + 1, s, x, h => by
    have ih := flatG_place t i s x (by simpa using h)
    show (sgL a ++ flatG t).set _ _ = sgL a ++ flatG (t.set i (setPl s x))
    rw [List.set_append_right _ _ (by rw [sgL_len]; omega), sgL_len, show (i + 1) * 17 + 2 - 17 = i * 17 + 2 by omega, ih]
/-- The first k signs have been moved. -/
def mvL (n : Nat) (pl st : Nat → Int) (ob : Nat → Bool) (d : Int) (k : Nat) : List Sg := mkL n (fun i => if i < k then pl i + d else pl i) st ob
theorem mvL_zero (n : Nat) (pl st : Nat → Int) (ob : Nat → Bool) (d : Int) : mvL n pl st ob d 0 = mkL n pl st ob := by
  unfold mvL; congr 1
theorem mvL_all (n : Nat) (pl st : Nat → Int) (ob : Nat → Bool) (d : Int) : mvL n pl st ob d n = mkL n (fun i => pl i + d) st ob := by
  unfold mvL mkL
  refine List.map_congr_left (fun i hi => ?_)
  unfold mkS
  dsimp only
  rw [if_pos (List.mem_range.1 hi)]
theorem mvL_put {n : Nat} (pl st : Nat → Int) (ob : Nat → Bool) (d : Int) {k : Nat} (h : k < n) : (mvL n pl st ob d k).set k (setPl ((mvL n pl st ob d k).getD k zS) (pl k + d)) = mvL n pl st ob d (k + 1) := by
  unfold mvL
  rw [mkL_getD _ _ _ _ h]
  apply List.ext_getElem?
  intro i
  by_cases hi : i < n
  · rw [mkL_at _ _ _ _ hi]
    by_cases e : k = i
    · subst e
      rw [List.getElem?_set_self (by rw [mkL_len]; exact h)]
      unfold setPl mkS
      simp only
      rw [if_pos (Nat.lt_succ_self k)]
    · rw [List.getElem?_set_ne e, mkL_at _ _ _ _ hi]
      unfold mkS
      dsimp only
      by_cases g : i < k
      · rw [if_pos g, if_pos (by omega)]
      · rw [if_neg g, if_neg (by omega)]
  · rw [List.getElem?_eq_none (by rw [List.length_set, mkL_len]; omega), List.getElem?_eq_none (by rw [mkL_len]; omega)]

set_option maxRecDepth 100000 in
set_option maxHeartbeats 4000000 in
theorem lmoved_any (nums : List Int) (hz : ∀ z ∈ nums, -9223372036854775808 ≤ z ∧ z ≤ 9223372036854775807) (m : Int) (hm : -9223372036854775808 ≤ m) (hm1 : m ≤ 9223372036854775807) (by_ : Int) (hb0 : -9223372036854775808 ≤ by_) (hb1 : by_ ≤ 9223372036854775807) (p : Option Addr) (cp : Nat) (w : World) (hp : SlP w 1 p nums.length cp (ints nums)) :
    Calls Try.prog 8 #[.slice p nums.length cp, .int .i64 m, .int .i64 by_] w fun e w' => e = .returned (.bool true) ∧ Below w.heap.size w w' := by
  have MA := Lib.hid (made_any nums hz m hm hm1 p cp w hp)
  have hPO := pathG_ok nums
  have hD := show madeG nums m = if 2 ≤ (pathG nums).length then lsM (pathG nums) (kdM m) (pathG nums).length else [] from rfl
  generalize madeG nums m = MG at *
  generalize pathG nums = P at *
  have AW := Lib.hid (fun W => lawake_any W)
  by_cases h2 : 2 ≤ P.length
  · rw [if_pos h2, lsM_mk] at hD
    rw [decide_eq_true h2] at MA
    have h8 := hPO.len
    have OKd := Lib.hid (fun d hd => made_mk hPO h2 (kdM m) d hd)
    have OK0 := Lib.hid (show MkOk P.length (fun i => P.getD i 0) (stMd (kdM m)) (obM P (kdM m)) from by
      have := made_mk hPO h2 (kdM m) 0 (by omega)
      simpa using this)
    have VS := Lib.hid (fun d => mk_vals (pl := fun i => P.getD i 0) (st := stMd (kdM m)) (ob := obM P (kdM m)) h2 d)
    have MVp := Lib.hid (show ∀ d k, k < P.length → (mvL P.length (fun i => P.getD i 0) (stMd (kdM m)) (obM P (kdM m)) d k).set k (setPl ((mvL P.length (fun i => P.getD i 0) (stMd (kdM m)) (obM P (kdM m)) d k).getD k zS) (P.getD k 0 + d)) = mvL P.length (fun i => P.getD i 0) (stMd (kdM m)) (obM P (kdM m)) d (k + 1) from fun d k hk => mvL_put (fun i => P.getD i 0) (stMd (kdM m)) (obM P (kdM m)) d hk)
    have MVg := Lib.hid (show ∀ d k, k < P.length → ∃ s, (mvL P.length (fun i => P.getD i 0) (stMd (kdM m)) (obM P (kdM m)) d k)[k]? = some s ∧ s.place = P.getD k 0 ∧ (mvL P.length (fun i => P.getD i 0) (stMd (kdM m)) (obM P (kdM m)) d k).getD k zS = s from fun d k hk => by
      refine ⟨_, mkL_at _ _ _ _ hk, ?_, mkL_getD _ _ _ _ hk⟩
      show (if k < k then P.getD k 0 + d else P.getD k 0) = P.getD k 0
      rw [if_neg (Nat.lt_irrefl k)])
    have MV0 := Lib.hid (fun d => mvL_zero P.length (fun i => P.getD i 0) (stMd (kdM m)) (obM P (kdM m)) d)
    have MVn := Lib.hid (fun d => mvL_all P.length (fun i => P.getD i 0) (stMd (kdM m)) (obM P (kdM m)) d)
    have hlen : MG.length = P.length := by rw [hD, mkL_len]
    have hPb := Lib.hid (fun k hk => hPO.bds k hk)
    clear hPO hz
    generalize stMd (kdM m) = st at *
    generalize obM P (kdM m) = ob at *
    generalize hpl : (fun i : Nat => P.getD i 0) = pl at *
    have hpe : ∀ i, P.getD i 0 = pl i := fun i => congrFun hpl i
    simp only [hpe] at MVp MVg hPb VS MVn
    have OKd2 := Lib.hid (show ∀ d, -4 ≤ d ∧ d ≤ 4 → (chkG (mkL P.length (fun i => pl i + d) st ob)).1 = 0 from fun d hd => by
      have := (OKd.out d hd).chk
      simp only [hpe] at this
      exact this)
    have OK2 := OK0.out.chk
    clear OKd OK0 hpe hpl
    rw [← hD] at OK2
    have MD := Lib.hid (fun W => mod_any by_ 9 W hb0 hb1 (by decide) (by decide))
    have hd0 : 0 ≤ by_ % 9 := by omega
    have hd1 : by_ % 9 ≤ 8 := by omega
    have xd : IntKind.i64.wrap (by_ % 9 - 4) = by_ % 9 - 4 := IntWalk.i64_in _ (by omega)
    generalize by_ % 9 = dm at *
    obtain ⟨d, hd⟩ : ∃ d, dm - 4 = d := ⟨_, rfl⟩
    rw [hd] at xd
    have OKD := OKd2.out d (by omega)
    have VSD := VS.out d
    have MVP := Lib.hid (MVp.out d)
    have MVG := Lib.hid (MVg.out d)
    have MVN := Lib.hid (MVn.out d)
    have MVZ := Lib.hid (MV0.out d)
    rw [hlen] at MA
    generalize hn : P.length = n at *
    have PV := Lib.hid (show ∀ q c W, SlP W 17 q n c (flatG MG) → Calls Try.prog 19 #[.slice q n c] W fun e w' => ∃ v, e = .returned (.tuple #[v, .int .i64 0]) ∧ IntV w' v (valsG MG) ∧ Below W.heap.size W w' from fun q c W h => by
      have := plvals_any MG (by omega) q c W (by rw [hlen]; exact h)
      unfold ValPost at this
      rw [if_pos OK2, OK2, hlen] at this
      exact this)
    have hlx : (mkL n (fun i => pl i + d) st ob).length = n := mkL_len _ _ _ _
    have PX := Lib.hid (show ∀ q c W, SlP W 17 q n c (flatG (mkL n (fun i => pl i + d) st ob)) → Calls Try.prog 19 #[.slice q n c] W fun e w' => ∃ v, e = .returned (.tuple #[v, .int .i64 0]) ∧ IntV w' v (valsG MG) ∧ Below W.heap.size W w' from fun q c W h => by
      have := plvals_any (mkL n (fun i => pl i + d) st ob) (by omega) q c W (by rw [hlx]; exact h)
      unfold ValPost at this
      rw [if_pos OKD, OKD, hlx, VSD, ← hD] at this
      exact this)
    have OS := Lib.hid (show ∀ q c W, SlP W 17 q n c (flatG MG) → Calls Try.prog 17 #[.slice q n c] W fun e w' => ∃ v, e = .returned v ∧ OwnL W w' 30 17 v n (flatG MG) from fun q c W h => by
      have := owns_any q c MG (by omega) W (by rw [hlen]; exact h)
      rw [hlen] at this
      exact this)
    have SI := Lib.hid (fun p q cp cq W hp hq => samei_any p q cp cq (valsG MG) W hp hq)
    have hMVl : ∀ k, (mvL n pl st ob d k).length = n := fun k => mkL_len _ _ _ _
    have HML := Lib.hid hMVl
    rw [← hD] at MVZ
    have HPL := Lib.hid hPb.out
    clear hMVl OKd2 VS MVp MVg MVn MV0 OK2 OKD VSD hD hlx hPb
    generalize mvL n pl st ob d = ML at *
    generalize mkL n (fun i => pl i + d) st ob = MX at *
    generalize valsG MG = VV at *
    go_enter Try.func8, Try.ntmps8
    go_wp2_with fail
    refine MA.out.mono ?_
    rintro e w1 ⟨v, rfl, ho⟩
    obtain ⟨ql, cl, rfl, hs⟩ := own_sg ho hlen
    have B := Lib.hid ho.bel
    have HL := Lib.hid hs
    clear ho hs MA
    go_wp2_with fail
    refine (MD.out _).mono ?_
    rintro e w1' ⟨rfl, rfl⟩
    clear MD
    go_wp2_with fail
    refine (OS.out _ _ _ HL.out).mono ?_
    rintro e w2 ⟨v, rfl, ho⟩
    obtain ⟨qx, cx, rfl⟩ := ho.val
    obtain ⟨g, rfl, hgb, _⟩ := own_some ho.row (by omega)
    have H0 := Lib.hid (show OwnL w1 w2 30 17 (.slice (some ⟨g, 0, none⟩) n cx) n (flatG (ML 0)) from MVZ.out.symm ▸ ho)
    clear ho OS MVZ
    go_wp2_with fail
    go_loopw [11] (fun s11 wr => ∃ k : Nat, k ≤ n ∧ s11 = .int .i64 (k : Int) ∧ Hid (OwnL w1 wr 30 17 (.slice (some ⟨g, 0, none⟩) n cx) n (flatG (ML k)))) (fun s11 _ => n - (intOf s11).toNat)
    case atStart => exact ⟨0, by omega, rfl, H0⟩
    case round =>
      rename World => wr
      clear H0
      obtain ⟨k, hk, rfl, FL⟩ := hrel
      by_cases hlt : k < n
      · have hlt' : (k : Int) < n := by omega
        have hk0 : (0 : Int) ≤ k := by omega
        obtain ⟨s, hs, hspl, hsd⟩ := MVG.out k hlt
        have hst := MVP.out k hlt
        rw [hsd] at hst
        have hpb := HPL.out k hlt
        have hs2 := flatG_at (ML k) k s hs 2 (by decide)
        have d2 : wr.cell? ⟨g, k * 17 + 2, none⟩ = some (.int .i64 (pl k)) := by
          rw [FL.out.row.cellAt (k * 17 + 2) (by omega), hs2, ← hspl]; rfl
        have fr2 := FL.out.row.frozenAt (k * 17 + 2)
        have R2 := own_set FL.out.row (k * 17 + 2) (.int .i64 (pl k + d))
        rw [flatG_place (ML k) k s _ hs, hst] at R2
        have HN := Lib.hid (show OwnL w1 (wr.setCell ⟨g, k * 17 + 2, none⟩ (.int .i64 (pl k + d))) 30 17 (.slice (some ⟨g, 0, none⟩) n cx) n (flatG (ML (k + 1))) from ⟨w_put FL.out.bel hgb _ _, R2⟩)
        obtain ⟨z, hz⟩ : ∃ z, pl k + d = z := ⟨_, rfl⟩
        have xk : IntKind.i64.wrap (pl k + d) = z := by rw [IntWalk.i64_in _ (by omega), hz]
        rw [hz] at HN
        clear R2 FL hs hst hsd hspl hs2 MVP MVG HML
        clear hz
        generalize pl k = pk at *
        go_wp2_with fail
        go_roundw
        case rel => exact ⟨k + 1, by omega, by go_num, HN⟩
        case measure => simp [intOf]; omega
      · obtain rfl : k = n := by omega
        have hlt' : ¬ ((k : Int) < k) := by omega
        obtain ⟨_, _, e9, hxs⟩ := SlP.of_own FL.out.row (by rw [flatG_len, HML.out]) (flatG_one _)
        injection e9 with e9 _ e10
        subst e9 e10
        rw [MVN.out] at hxs
        have HX := Lib.hid hxs
        have HL2 := Lib.hid (HL.out.later FL.out.bel)
        have B2 := Lib.hid (w_below B.out FL.out.bel)
        clear hxs FL MVP MVG MVN HML HPL HL B
        go_wp2_with fail
        refine (PV.out _ _ _ HL2.out).mono ?_
        rintro e w3 ⟨v, rfl, hv, hb⟩
        obtain ⟨q1, c1, rfl, hs1⟩ := hv
        have H1 := Lib.hid hs1
        replace HX := Lib.hid (HX.out.later hb)
        replace B2 := Lib.hid (w_below B2.out hb)
        clear hb hs1 PV HL2
        go_wp2_with fail
        refine (PX.out _ _ _ HX.out).mono ?_
        rintro e w4 ⟨v, rfl, hv, hb⟩
        obtain ⟨q2, c2, rfl, hs2⟩ := hv
        have H2 := Lib.hid hs2
        replace H1 := Lib.hid (H1.out.later hb)
        replace B2 := Lib.hid (w_below B2.out hb)
        clear hb hs2 PX HX
        go_wp2_with fail
        refine (SI.out _ _ _ _ _ H1.out H2.out).mono ?_
        rintro e w5 ⟨rfl, hb⟩
        replace B2 := Lib.hid (w_below B2.out hb)
        clear hb SI H1 H2
        go_wp2_with fail
        refine (AW.out _).mono ?_
        rintro e w6 ⟨rfl, hb⟩
        replace B2 := Lib.hid (w_below B2.out hb)
        clear hb AW
        go_wp2_with fail
        go_ret
        exact ⟨rfl, B2.out⟩
  · rw [decide_eq_false h2] at MA
    clear hD hPO h2
    go_enter Try.func8, Try.ntmps8
    go_wp2_with fail
    refine MA.out.mono ?_
    rintro e w1 ⟨v, rfl, ho⟩
    have B := Lib.hid ho.bel
    clear ho MA
    go_wp2_with fail
    refine (AW.out _).mono ?_
    rintro e w2 ⟨rfl, hb⟩
    replace B := Lib.hid (w_below B.out hb)
    clear hb AW
    go_wp2_with fail
    go_ret
    exact ⟨rfl, B.out⟩

end Go.Proofs.Ytedkcnphplpacaa
