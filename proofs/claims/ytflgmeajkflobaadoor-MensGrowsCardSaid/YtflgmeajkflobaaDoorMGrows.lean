/- MensGrows: a 3 in the place of a 2. -/
import Derived.Test.YtflgmeajkflobaaDoorMStep
namespace Go.Proofs.YtflgmeajkflobaaDoor
open Go.RowKit

/-- The mensuration with another number at a value. -/
def setQ (q : Q4) (v p : Int) : Q4 := if v = 1 then (p, q.2) else if v = 2 then (q.1, p, q.2.2) else if v = 3 then (q.1, q.2.1, p, q.2.2.2) else (q.1, q.2.1, q.2.2.1, p)
theorem set_ok {q : Q4} (h : okM q) {v p : Int} (hp : p = 2 ∨ p = 3) : okM (setQ q v p) := by
  obtain ⟨h1, h2, h3, h4⟩ := h
  unfold setQ
  split
  · exact ⟨hp, h2, h3, h4⟩
  split
  · exact ⟨h1, hp, h3, h4⟩
  split
  · exact ⟨h1, h2, hp, h4⟩
  · exact ⟨h1, h2, h3, hp⟩

set_option maxHeartbeats 4000000 in
theorem with_any (q : Q4) (v p : Int) (hv : 1 ≤ v ∧ v ≤ 4) (w : World) : Calls Tryd.prog 38 #[mv q, .int .i64 v, .int .i64 p] w fun e w' => e = .returned (mv (setQ q v p)) ∧ Below w.heap.size w w' := by
  obtain ⟨a, b, c, d⟩ := q
  have cv : v = 1 ∨ v = 2 ∨ v = 3 ∨ v = 4 := by omega
  rcases cv with rfl | rfl | rfl | rfl
  · show Calls _ _ _ _ fun e w' => e = .returned (mv (p, b, c, d)) ∧ _
    go_enter Tryd.func38, Tryd.ntmps38
    go_wp2_with fail
    refine bodyPost_ret (v := mv (p, b, c, d)) (by simp [results, Tryd.results38, go_sem]) rfl ⟨rfl, ?_⟩
    exact w_alloc (w_alloc (w_refl w) _) _
  · show Calls _ _ _ _ fun e w' => e = .returned (mv (a, p, c, d)) ∧ _
    go_enter Tryd.func38, Tryd.ntmps38
    go_wp2_with fail
    refine bodyPost_ret (v := mv (a, p, c, d)) (by simp [results, Tryd.results38, go_sem]) rfl ⟨rfl, ?_⟩
    exact w_alloc (w_alloc (w_refl w) _) _
  · show Calls _ _ _ _ fun e w' => e = .returned (mv (a, b, p, d)) ∧ _
    go_enter Tryd.func38, Tryd.ntmps38
    go_wp2_with fail
    refine bodyPost_ret (v := mv (a, b, p, d)) (by simp [results, Tryd.results38, go_sem]) rfl ⟨rfl, ?_⟩
    exact w_alloc (w_alloc (w_refl w) _) _
  · show Calls _ _ _ _ fun e w' => e = .returned (mv (a, b, c, p)) ∧ _
    go_enter Tryd.func38, Tryd.ntmps38
    go_wp2_with fail
    refine bodyPost_ret (v := mv (a, b, c, p)) (by simp [results, Tryd.results38, go_sem]) rfl ⟨rfl, ?_⟩
    exact w_alloc (w_alloc (w_refl w) _) _

theorem gro_facts {q : Q4} (h : okM q) {v g : Int} (hv : 1 ≤ v ∧ v ≤ 4) (hg : 1 ≤ g ∧ g ≤ 8) :
    (v < g → minI (setQ q v 2) g = minI (setQ q v 3) g) ∧ (g ≤ v → IntKind.i64.wrap (3 * minI (setQ q v 2) g * pieI g) = 3 * minI (setQ q v 2) g * pieI g ∧ IntKind.i64.wrap (2 * minI (setQ q v 3) g * pieI g) = 3 * minI (setQ q v 2) g * pieI g) := by
  have hall : ∀ q ∈ mensL, ∀ v ∈ ([1, 2, 3, 4] : List Int), ∀ g ∈ valsL, (v < g → minI (setQ q v 2) g = minI (setQ q v 3) g) ∧ (g ≤ v → IntKind.i64.wrap (3 * minI (setQ q v 2) g * pieI g) = 3 * minI (setQ q v 2) g * pieI g ∧ IntKind.i64.wrap (2 * minI (setQ q v 3) g * pieI g) = 3 * minI (setQ q v 2) g * pieI g) := by decide +kernel
  exact hall q ((mens_iff q).2 h) v (by simp only [List.mem_cons, List.not_mem_nil, or_false]; omega) g ((vals_iff g).2 hg)

set_option maxRecDepth 100000 in
set_option maxHeartbeats 8000000 in
theorem lgrows_any (n k : Int) (hn : -9223372036854775808 ≤ n ∧ n ≤ 9223372036854775807) (hk : -9223372036854775808 ≤ k ∧ k ≤ 9223372036854775807) (w : World) : Calls Tryd.prog 9 #[.int .i64 n, .int .i64 k] w fun e w' => e = .returned (.bool true) ∧ Below w.heap.size w w' := by
  have KN := Lib.hid (fun W => known_any W)
  have KM := Lib.hid (fun W => kmens_any n hn W)
  have MD := Lib.hid (fun W => mod_any k 4 W hk.1 hk.2 (by decide) (by decide))
  have hq := of_ok n
  generalize ofN (n % 16) = q at *
  obtain ⟨m, hm⟩ : ∃ m, k % 4 = m := ⟨_, rfl⟩
  have hmb : 0 ≤ m ∧ m ≤ 3 := by omega
  rw [hm] at MD
  obtain ⟨v, hv⟩ : ∃ v, 1 + m = v := ⟨_, rfl⟩
  have xv : IntKind.i64.wrap (1 + m) = v := by rw [IntWalk.i64_in _ (by omega)]; exact hv
  have hvb : 1 ≤ v ∧ v ≤ 4 := by omega
  have W2 := Lib.hid (fun W => with_any q v 2 hvb W)
  have W3 := Lib.hid (fun W => with_any q v 3 hvb W)
  have h2 := set_ok hq (v := v) (p := 2) (.inl rfl)
  have h3 := set_ok hq (v := v) (p := 3) (.inr rfl)
  have GF := Lib.hid (fun g (hg : 1 ≤ g ∧ g ≤ 8) => gro_facts hq hvb hg)
  generalize setQ q v 2 = qs at *
  generalize setQ q v 3 = qg at *
  have FS := Lib.hid (show ∀ g, 1 ≤ g ∧ g ≤ 8 → ∀ W, Calls Tryd.prog 12 #[mv qs, .int .i64 g] W fun e w' => e = .returned (tev (minI qs g, pieI g, 0)) ∧ Below W.heap.size W w' from fun g hg W => by
    have := full_any qs g W
    rw [fulV_ok (valE_ok h2 hg)] at this; exact this)
  have FG := Lib.hid (show ∀ g, 1 ≤ g ∧ g ≤ 8 → ∀ W, Calls Tryd.prog 12 #[mv qg, .int .i64 g] W fun e w' => e = .returned (tev (minI qg g, pieI g, 0)) ∧ Below W.heap.size W w' from fun g hg W => by
    have := full_any qg g W
    rw [fulV_ok (valE_ok h3 hg)] at this; exact this)
  have BS := Lib.hid (fun g (hg : 1 ≤ g ∧ g ≤ 8) => min_bd h2 hg)
  have BG := Lib.hid (fun g (hg : 1 ≤ g ∧ g ≤ 8) => min_bd h3 hg)
  clear hn hk hq hm hmb hv h2 h3
  generalize minI qs = ms at *
  generalize minI qg = mg at *
  obtain ⟨a, b, c, d⟩ := q
  obtain ⟨a2, b2, c2, d2⟩ := qs
  obtain ⟨a3, b3, c3, d3⟩ := qg
  go_enter Tryd.func9, Tryd.ntmps9
  go_wp2_with fail
  refine (KN.out _).mono ?_
  rintro e w1 ⟨rfl, hb⟩
  have hB := Lib.hid hb
  clear hb KN
  go_wp2_with fail
  refine (KM.out _).mono ?_
  rintro e w2 ⟨rfl, hb⟩
  replace hB := Lib.hid (w_alloc (w_below hB.out hb) (mO (a, b, c, d)))
  have K := Lib.hid (HoldsB.new w2 23 #[.int .i64 a, .int .i64 b, .int .i64 c, .int .i64 d])
  clear hb KM
  go_wp2_with fail
  refine (MD.out _).mono ?_
  rintro e w3 ⟨rfl, rfl⟩
  clear MD
  go_wp2_with fail
  go_cut [8, 9] (fun s8 s9 wx => ∃ B6 B7 : Nat, s8 = .pointer (some ⟨B6, 0, none⟩) ∧ s9 = .pointer (some ⟨B7, 0, none⟩) ∧ Hid (HoldsB wx B6 23 #[.int .i64 a2, .int .i64 b2, .int .i64 c2, .int .i64 d2]) ∧ Hid (HoldsB wx B7 23 #[.int .i64 a3, .int .i64 b3, .int .i64 c3, .int .i64 d3]) ∧ Hid (Below w.heap.size w wx))
  case first =>
    clear FS FG BS BG GF
    refine wp_region_held (S := fun W => W.cell? ⟨w2.heap.size, 0, none⟩ = some (.int .i64 a) ∧ W.cell? ⟨w2.heap.size, 1, none⟩ = some (.int .i64 b) ∧ W.cell? ⟨w2.heap.size, 2, none⟩ = some (.int .i64 c) ∧ W.cell? ⟨w2.heap.size, 3, none⟩ = some (.int .i64 d)) (by kernel_rfl) ?_
    change wpAnyH _ _ _ _ _ _ _ _ (World.drew _)
    have HK := Lib.hid (show HoldsB (World.drew (w2.alloc (mO (a, b, c, d)))) w2.heap.size 23 #[.int .i64 a, .int .i64 b, .int .i64 c, .int .i64 d] from K.out)
    have HB := Lib.hid hB.out.drew
    have hle0 : w.heap.size ≤ w2.heap.size + 1 := by have := hB.out.size; rwa [World.size_alloc] at this
    clear K hB
    generalize hw0 : World.drew (w2.alloc (mO (a, b, c, d))) = y0 at *
    clear hw0
    refine wpAnyH_take (i := 0) (v := mv (a, b, c, d)) rfl (by kernel_rfl) (by kernel_rfl) (by kernel_rfl) (fun _ _ _ h => h) (Or.inl ⟨by kernel_rfl, fun W hW => by (obtain ⟨hA, hB', hC, hD⟩ := hW; go_simp)⟩) ⟨HK.out.cell rfl, HK.out.cell rfl, HK.out.cell rfl, HK.out.cell rfl⟩ ?_
    refine wpAnyH_take (i := 1) (v := .int .i64 v) rfl (by kernel_rfl) (by kernel_rfl) (by kernel_rfl) (fun _ _ _ h => h) (Or.inl ⟨by kernel_rfl, fun _ _ => by go_simp⟩) ⟨HK.out.cell rfl, HK.out.cell rfl, HK.out.cell rfl, HK.out.cell rfl⟩ ?_
    refine wpAnyH_take (i := 3) (v := mv (a, b, c, d)) rfl (by kernel_rfl) (by kernel_rfl) (by kernel_rfl) (fun _ _ _ h => h) (Or.inl ⟨by kernel_rfl, fun W hW => by (obtain ⟨hA, hB', hC, hD⟩ := hW; go_simp)⟩) ⟨HK.out.cell rfl, HK.out.cell rfl, HK.out.cell rfl, HK.out.cell rfl⟩ ?_
    refine wpAnyH_take (i := 4) (v := .int .i64 v) rfl (by kernel_rfl) (by kernel_rfl) (by kernel_rfl) (fun _ _ _ h => h) (Or.inl ⟨by kernel_rfl, fun _ _ => by go_simp⟩) ⟨HK.out.cell rfl, HK.out.cell rfl, HK.out.cell rfl, HK.out.cell rfl⟩ ?_
    refine wpAnyH_ready (rs := [2, 6, 7]) (by kernel_rfl) (by simp) ?_
    refine AllReadyH.cons rfl (fun K hK => ?_) (AllReadyH.cons rfl (fun K hK => ?_) (AllReadyH.cons rfl (fun K hK => ?_) (AllReadyH.nil)))
    · rw [if_pos (by kernel_rfl)]
      have kc0 := HK.out.cell (j := 0) rfl
      have kc1 := HK.out.cell (j := 1) rfl
      have kc2 := HK.out.cell (j := 2) rfl
      have kc3 := HK.out.cell (j := 3) rfl
      go_simp
      clear kc0 kc1 kc2 kc3
      go_at_call 38
      refine (W2.out _).mono ?_
      rintro e y1 ⟨rfl, hb⟩
      replace HB := Lib.hid (w_below HB.out hb)
      replace HK := Lib.hid (HK.out.later hb)
      clear hb W2
      go_simp
      refine hK.out _ _ ⟨HK.out.cell rfl, HK.out.cell rfl, HK.out.cell rfl, HK.out.cell rfl⟩ (fun _ => ?_)
      clear hK K
      refine wpAnyH_ready (rs := [5, 6, 7]) (by kernel_rfl) (by simp) ?_
      refine AllReadyH.cons rfl (fun K hK => ?_) (AllReadyH.cons rfl (fun K hK => ?_) (AllReadyH.cons rfl (fun K hK => ?_) (AllReadyH.nil)))
      · rw [if_pos (by kernel_rfl)]
        have kc0 := HK.out.cell (j := 0) rfl
        have kc1 := HK.out.cell (j := 1) rfl
        have kc2 := HK.out.cell (j := 2) rfl
        have kc3 := HK.out.cell (j := 3) rfl
        go_simp
        clear kc0 kc1 kc2 kc3
        go_at_call 38
        refine (W3.out _).mono ?_
        rintro e y2 ⟨rfl, hb⟩
        replace HB := Lib.hid (w_below HB.out hb)
        replace HK := Lib.hid (HK.out.later hb)
        clear hb W3
        go_simp
        refine hK.out _ _ ⟨HK.out.cell rfl, HK.out.cell rfl, HK.out.cell rfl, HK.out.cell rfl⟩ (fun _ => ?_)
        clear hK K
        refine wpAnyH_ready (rs := [6, 7]) (by kernel_rfl) (by simp) ?_
        refine AllReadyH.cons rfl (fun K hK => ?_) (AllReadyH.cons rfl (fun K hK => ?_) (AllReadyH.nil))
        · refine step_alloc _ rfl rfl ?_
          intro y3 hb HN0
          have hlt6 := HK.out.lt
          replace HB := Lib.hid (w_below HB.out hb)
          replace HK := Lib.hid (HK.out.later hb)
          have H6 := Lib.hid HN0
          clear hb HN0
          refine hK.out _ _ ⟨HK.out.cell rfl, HK.out.cell rfl, HK.out.cell rfl, HK.out.cell rfl⟩ (fun _ => ?_)
          clear hK K
          refine wpAnyH_ready (rs := [7]) (by kernel_rfl) (by simp) ?_
          refine AllReadyH.cons rfl (fun K hK => ?_) (AllReadyH.nil)
          · refine step_alloc _ rfl rfl ?_
            intro y4 hb HN0
            have hlt7 := HK.out.lt
            have hlx7 := H6.out.lt
            replace HB := Lib.hid (w_below HB.out hb)
            replace HK := Lib.hid (HK.out.later hb)
            replace H6 := Lib.hid (H6.out.later hb)
            have H7 := Lib.hid HN0
            clear hb HN0
            refine hK.out _ _ ⟨HK.out.cell rfl, HK.out.cell rfl, HK.out.cell rfl, HK.out.cell rfl⟩ (fun _ => ?_)
            clear hK K
            refine wpAnyH_ready (rs := [8]) (by kernel_rfl) (by simp) ?_
            refine AllReadyH.cons rfl (fun K hK => ?_) AllReadyH.nil
            refine step_put _ rfl (.tmp 8) (.tmp 23) rfl (y2.heap.size) (0, 0, 0, 0) (a2, b2, c2, d2) (by kernel_rfl) (by kernel_rfl) H6.out ?_
            intro y5 hoth hnew hbel
            replace HB := Lib.hid (hbel _ HB.out (by omega))
            replace HK := Lib.hid (hoth _ _ _ (by omega) HK.out)
            replace H7 := Lib.hid (hoth _ _ _ (by omega) H7.out)
            replace H6 := Lib.hid hnew
            clear hoth hnew hbel
            refine hK.out _ _ ⟨HK.out.cell rfl, HK.out.cell rfl, HK.out.cell rfl, HK.out.cell rfl⟩ (fun _ => ?_)
            clear hK K
            refine wpAnyH_ready (rs := [9]) (by kernel_rfl) (by simp) ?_
            refine AllReadyH.cons rfl (fun K hK => ?_) AllReadyH.nil
            refine step_put _ rfl (.tmp 9) (.tmp 26) rfl (y3.heap.size) (0, 0, 0, 0) (a3, b3, c3, d3) (by kernel_rfl) (by kernel_rfl) H7.out ?_
            intro y6 hoth hnew hbel
            replace HB := Lib.hid (hbel _ HB.out (by omega))
            replace HK := Lib.hid (hoth _ _ _ (by omega) HK.out)
            replace H6 := Lib.hid (hoth _ _ _ (by omega) H6.out)
            replace H7 := Lib.hid hnew
            clear hoth hnew hbel
            refine hK.out _ _ ⟨HK.out.cell rfl, HK.out.cell rfl, HK.out.cell rfl, HK.out.cell rfl⟩ (fun _ => ?_)
            clear hK K
            refine wpAnyH_done (by kernel_rfl) ?_ _
            go_wp2_with fail
            go_meet
            exact ⟨_, _, rfl, rfl, H6, H7, HB⟩
        · refine step_alloc _ rfl rfl ?_
          intro y7 hb HN0
          have hlt7 := HK.out.lt
          replace HB := Lib.hid (w_below HB.out hb)
          replace HK := Lib.hid (HK.out.later hb)
          have H7 := Lib.hid HN0
          clear hb HN0
          refine hK.out _ _ ⟨HK.out.cell rfl, HK.out.cell rfl, HK.out.cell rfl, HK.out.cell rfl⟩ (fun _ => ?_)
          clear hK K
          refine wpAnyH_ready (rs := [6]) (by kernel_rfl) (by simp) ?_
          refine AllReadyH.cons rfl (fun K hK => ?_) (AllReadyH.nil)
          · refine step_alloc _ rfl rfl ?_
            intro y8 hb HN0
            have hlt6 := HK.out.lt
            have hlx6 := H7.out.lt
            replace HB := Lib.hid (w_below HB.out hb)
            replace HK := Lib.hid (HK.out.later hb)
            replace H7 := Lib.hid (H7.out.later hb)
            have H6 := Lib.hid HN0
            clear hb HN0
            refine hK.out _ _ ⟨HK.out.cell rfl, HK.out.cell rfl, HK.out.cell rfl, HK.out.cell rfl⟩ (fun _ => ?_)
            clear hK K
            refine wpAnyH_ready (rs := [8]) (by kernel_rfl) (by simp) ?_
            refine AllReadyH.cons rfl (fun K hK => ?_) AllReadyH.nil
            refine step_put _ rfl (.tmp 8) (.tmp 23) rfl (y7.heap.size) (0, 0, 0, 0) (a2, b2, c2, d2) (by kernel_rfl) (by kernel_rfl) H6.out ?_
            intro y9 hoth hnew hbel
            replace HB := Lib.hid (hbel _ HB.out (by omega))
            replace HK := Lib.hid (hoth _ _ _ (by omega) HK.out)
            replace H7 := Lib.hid (hoth _ _ _ (by omega) H7.out)
            replace H6 := Lib.hid hnew
            clear hoth hnew hbel
            refine hK.out _ _ ⟨HK.out.cell rfl, HK.out.cell rfl, HK.out.cell rfl, HK.out.cell rfl⟩ (fun _ => ?_)
            clear hK K
            refine wpAnyH_ready (rs := [9]) (by kernel_rfl) (by simp) ?_
            refine AllReadyH.cons rfl (fun K hK => ?_) AllReadyH.nil
            refine step_put _ rfl (.tmp 9) (.tmp 26) rfl (y2.heap.size) (0, 0, 0, 0) (a3, b3, c3, d3) (by kernel_rfl) (by kernel_rfl) H7.out ?_
            intro y10 hoth hnew hbel
            replace HB := Lib.hid (hbel _ HB.out (by omega))
            replace HK := Lib.hid (hoth _ _ _ (by omega) HK.out)
            replace H6 := Lib.hid (hoth _ _ _ (by omega) H6.out)
            replace H7 := Lib.hid hnew
            clear hoth hnew hbel
            refine hK.out _ _ ⟨HK.out.cell rfl, HK.out.cell rfl, HK.out.cell rfl, HK.out.cell rfl⟩ (fun _ => ?_)
            clear hK K
            refine wpAnyH_done (by kernel_rfl) ?_ _
            go_wp2_with fail
            go_meet
            exact ⟨_, _, rfl, rfl, H6, H7, HB⟩
      · refine step_alloc _ rfl rfl ?_
        intro y11 hb HN0
        have hlt6 := HK.out.lt
        replace HB := Lib.hid (w_below HB.out hb)
        replace HK := Lib.hid (HK.out.later hb)
        have H6 := Lib.hid HN0
        clear hb HN0
        refine hK.out _ _ ⟨HK.out.cell rfl, HK.out.cell rfl, HK.out.cell rfl, HK.out.cell rfl⟩ (fun _ => ?_)
        clear hK K
        refine wpAnyH_ready (rs := [5, 7]) (by kernel_rfl) (by simp) ?_
        refine AllReadyH.cons rfl (fun K hK => ?_) (AllReadyH.cons rfl (fun K hK => ?_) (AllReadyH.nil))
        · rw [if_pos (by kernel_rfl)]
          have kc0 := HK.out.cell (j := 0) rfl
          have kc1 := HK.out.cell (j := 1) rfl
          have kc2 := HK.out.cell (j := 2) rfl
          have kc3 := HK.out.cell (j := 3) rfl
          go_simp
          clear kc0 kc1 kc2 kc3
          go_at_call 38
          refine (W3.out _).mono ?_
          rintro e y12 ⟨rfl, hb⟩
          replace HB := Lib.hid (w_below HB.out hb)
          replace HK := Lib.hid (HK.out.later hb)
          replace H6 := Lib.hid (H6.out.later hb)
          clear hb W3
          go_simp
          refine hK.out _ _ ⟨HK.out.cell rfl, HK.out.cell rfl, HK.out.cell rfl, HK.out.cell rfl⟩ (fun _ => ?_)
          clear hK K
          refine wpAnyH_ready (rs := [7]) (by kernel_rfl) (by simp) ?_
          refine AllReadyH.cons rfl (fun K hK => ?_) (AllReadyH.nil)
          · refine step_alloc _ rfl rfl ?_
            intro y13 hb HN0
            have hlt7 := HK.out.lt
            have hlx7 := H6.out.lt
            replace HB := Lib.hid (w_below HB.out hb)
            replace HK := Lib.hid (HK.out.later hb)
            replace H6 := Lib.hid (H6.out.later hb)
            have H7 := Lib.hid HN0
            clear hb HN0
            refine hK.out _ _ ⟨HK.out.cell rfl, HK.out.cell rfl, HK.out.cell rfl, HK.out.cell rfl⟩ (fun _ => ?_)
            clear hK K
            refine wpAnyH_ready (rs := [8]) (by kernel_rfl) (by simp) ?_
            refine AllReadyH.cons rfl (fun K hK => ?_) AllReadyH.nil
            refine step_put _ rfl (.tmp 8) (.tmp 23) rfl (y1.heap.size) (0, 0, 0, 0) (a2, b2, c2, d2) (by kernel_rfl) (by kernel_rfl) H6.out ?_
            intro y14 hoth hnew hbel
            replace HB := Lib.hid (hbel _ HB.out (by omega))
            replace HK := Lib.hid (hoth _ _ _ (by omega) HK.out)
            replace H7 := Lib.hid (hoth _ _ _ (by omega) H7.out)
            replace H6 := Lib.hid hnew
            clear hoth hnew hbel
            refine hK.out _ _ ⟨HK.out.cell rfl, HK.out.cell rfl, HK.out.cell rfl, HK.out.cell rfl⟩ (fun _ => ?_)
            clear hK K
            refine wpAnyH_ready (rs := [9]) (by kernel_rfl) (by simp) ?_
            refine AllReadyH.cons rfl (fun K hK => ?_) AllReadyH.nil
            refine step_put _ rfl (.tmp 9) (.tmp 26) rfl (y12.heap.size) (0, 0, 0, 0) (a3, b3, c3, d3) (by kernel_rfl) (by kernel_rfl) H7.out ?_
            intro y15 hoth hnew hbel
            replace HB := Lib.hid (hbel _ HB.out (by omega))
            replace HK := Lib.hid (hoth _ _ _ (by omega) HK.out)
            replace H6 := Lib.hid (hoth _ _ _ (by omega) H6.out)
            replace H7 := Lib.hid hnew
            clear hoth hnew hbel
            refine hK.out _ _ ⟨HK.out.cell rfl, HK.out.cell rfl, HK.out.cell rfl, HK.out.cell rfl⟩ (fun _ => ?_)
            clear hK K
            refine wpAnyH_done (by kernel_rfl) ?_ _
            go_wp2_with fail
            go_meet
            exact ⟨_, _, rfl, rfl, H6, H7, HB⟩
        · refine step_alloc _ rfl rfl ?_
          intro y16 hb HN0
          have hlt7 := HK.out.lt
          have hlx7 := H6.out.lt
          replace HB := Lib.hid (w_below HB.out hb)
          replace HK := Lib.hid (HK.out.later hb)
          replace H6 := Lib.hid (H6.out.later hb)
          have H7 := Lib.hid HN0
          clear hb HN0
          refine hK.out _ _ ⟨HK.out.cell rfl, HK.out.cell rfl, HK.out.cell rfl, HK.out.cell rfl⟩ (fun _ => ?_)
          clear hK K
          refine wpAnyH_ready (rs := [5]) (by kernel_rfl) (by simp) ?_
          refine AllReadyH.cons rfl (fun K hK => ?_) (AllReadyH.nil)
          · rw [if_pos (by kernel_rfl)]
            have kc0 := HK.out.cell (j := 0) rfl
            have kc1 := HK.out.cell (j := 1) rfl
            have kc2 := HK.out.cell (j := 2) rfl
            have kc3 := HK.out.cell (j := 3) rfl
            go_simp
            clear kc0 kc1 kc2 kc3
            go_at_call 38
            refine (W3.out _).mono ?_
            rintro e y17 ⟨rfl, hb⟩
            replace HB := Lib.hid (w_below HB.out hb)
            replace HK := Lib.hid (HK.out.later hb)
            replace H6 := Lib.hid (H6.out.later hb)
            replace H7 := Lib.hid (H7.out.later hb)
            clear hb W3
            go_simp
            refine hK.out _ _ ⟨HK.out.cell rfl, HK.out.cell rfl, HK.out.cell rfl, HK.out.cell rfl⟩ (fun _ => ?_)
            clear hK K
            refine wpAnyH_ready (rs := [8]) (by kernel_rfl) (by simp) ?_
            refine AllReadyH.cons rfl (fun K hK => ?_) AllReadyH.nil
            refine step_put _ rfl (.tmp 8) (.tmp 23) rfl (y1.heap.size) (0, 0, 0, 0) (a2, b2, c2, d2) (by kernel_rfl) (by kernel_rfl) H6.out ?_
            intro y18 hoth hnew hbel
            replace HB := Lib.hid (hbel _ HB.out (by omega))
            replace HK := Lib.hid (hoth _ _ _ (by omega) HK.out)
            replace H7 := Lib.hid (hoth _ _ _ (by omega) H7.out)
            replace H6 := Lib.hid hnew
            clear hoth hnew hbel
            refine hK.out _ _ ⟨HK.out.cell rfl, HK.out.cell rfl, HK.out.cell rfl, HK.out.cell rfl⟩ (fun _ => ?_)
            clear hK K
            refine wpAnyH_ready (rs := [9]) (by kernel_rfl) (by simp) ?_
            refine AllReadyH.cons rfl (fun K hK => ?_) AllReadyH.nil
            refine step_put _ rfl (.tmp 9) (.tmp 26) rfl (y11.heap.size) (0, 0, 0, 0) (a3, b3, c3, d3) (by kernel_rfl) (by kernel_rfl) H7.out ?_
            intro y19 hoth hnew hbel
            replace HB := Lib.hid (hbel _ HB.out (by omega))
            replace HK := Lib.hid (hoth _ _ _ (by omega) HK.out)
            replace H6 := Lib.hid (hoth _ _ _ (by omega) H6.out)
            replace H7 := Lib.hid hnew
            clear hoth hnew hbel
            refine hK.out _ _ ⟨HK.out.cell rfl, HK.out.cell rfl, HK.out.cell rfl, HK.out.cell rfl⟩ (fun _ => ?_)
            clear hK K
            refine wpAnyH_done (by kernel_rfl) ?_ _
            go_wp2_with fail
            go_meet
            exact ⟨_, _, rfl, rfl, H6, H7, HB⟩
      · refine step_alloc _ rfl rfl ?_
        intro y20 hb HN0
        have hlt7 := HK.out.lt
        replace HB := Lib.hid (w_below HB.out hb)
        replace HK := Lib.hid (HK.out.later hb)
        have H7 := Lib.hid HN0
        clear hb HN0
        refine hK.out _ _ ⟨HK.out.cell rfl, HK.out.cell rfl, HK.out.cell rfl, HK.out.cell rfl⟩ (fun _ => ?_)
        clear hK K
        refine wpAnyH_ready (rs := [5, 6]) (by kernel_rfl) (by simp) ?_
        refine AllReadyH.cons rfl (fun K hK => ?_) (AllReadyH.cons rfl (fun K hK => ?_) (AllReadyH.nil))
        · rw [if_pos (by kernel_rfl)]
          have kc0 := HK.out.cell (j := 0) rfl
          have kc1 := HK.out.cell (j := 1) rfl
          have kc2 := HK.out.cell (j := 2) rfl
          have kc3 := HK.out.cell (j := 3) rfl
          go_simp
          clear kc0 kc1 kc2 kc3
          go_at_call 38
          refine (W3.out _).mono ?_
          rintro e y21 ⟨rfl, hb⟩
          replace HB := Lib.hid (w_below HB.out hb)
          replace HK := Lib.hid (HK.out.later hb)
          replace H7 := Lib.hid (H7.out.later hb)
          clear hb W3
          go_simp
          refine hK.out _ _ ⟨HK.out.cell rfl, HK.out.cell rfl, HK.out.cell rfl, HK.out.cell rfl⟩ (fun _ => ?_)
          clear hK K
          refine wpAnyH_ready (rs := [6]) (by kernel_rfl) (by simp) ?_
          refine AllReadyH.cons rfl (fun K hK => ?_) (AllReadyH.nil)
          · refine step_alloc _ rfl rfl ?_
            intro y22 hb HN0
            have hlt6 := HK.out.lt
            have hlx6 := H7.out.lt
            replace HB := Lib.hid (w_below HB.out hb)
            replace HK := Lib.hid (HK.out.later hb)
            replace H7 := Lib.hid (H7.out.later hb)
            have H6 := Lib.hid HN0
            clear hb HN0
            refine hK.out _ _ ⟨HK.out.cell rfl, HK.out.cell rfl, HK.out.cell rfl, HK.out.cell rfl⟩ (fun _ => ?_)
            clear hK K
            refine wpAnyH_ready (rs := [8]) (by kernel_rfl) (by simp) ?_
            refine AllReadyH.cons rfl (fun K hK => ?_) AllReadyH.nil
            refine step_put _ rfl (.tmp 8) (.tmp 23) rfl (y21.heap.size) (0, 0, 0, 0) (a2, b2, c2, d2) (by kernel_rfl) (by kernel_rfl) H6.out ?_
            intro y23 hoth hnew hbel
            replace HB := Lib.hid (hbel _ HB.out (by omega))
            replace HK := Lib.hid (hoth _ _ _ (by omega) HK.out)
            replace H7 := Lib.hid (hoth _ _ _ (by omega) H7.out)
            replace H6 := Lib.hid hnew
            clear hoth hnew hbel
            refine hK.out _ _ ⟨HK.out.cell rfl, HK.out.cell rfl, HK.out.cell rfl, HK.out.cell rfl⟩ (fun _ => ?_)
            clear hK K
            refine wpAnyH_ready (rs := [9]) (by kernel_rfl) (by simp) ?_
            refine AllReadyH.cons rfl (fun K hK => ?_) AllReadyH.nil
            refine step_put _ rfl (.tmp 9) (.tmp 26) rfl (y1.heap.size) (0, 0, 0, 0) (a3, b3, c3, d3) (by kernel_rfl) (by kernel_rfl) H7.out ?_
            intro y24 hoth hnew hbel
            replace HB := Lib.hid (hbel _ HB.out (by omega))
            replace HK := Lib.hid (hoth _ _ _ (by omega) HK.out)
            replace H6 := Lib.hid (hoth _ _ _ (by omega) H6.out)
            replace H7 := Lib.hid hnew
            clear hoth hnew hbel
            refine hK.out _ _ ⟨HK.out.cell rfl, HK.out.cell rfl, HK.out.cell rfl, HK.out.cell rfl⟩ (fun _ => ?_)
            clear hK K
            refine wpAnyH_done (by kernel_rfl) ?_ _
            go_wp2_with fail
            go_meet
            exact ⟨_, _, rfl, rfl, H6, H7, HB⟩
        · refine step_alloc _ rfl rfl ?_
          intro y25 hb HN0
          have hlt6 := HK.out.lt
          have hlx6 := H7.out.lt
          replace HB := Lib.hid (w_below HB.out hb)
          replace HK := Lib.hid (HK.out.later hb)
          replace H7 := Lib.hid (H7.out.later hb)
          have H6 := Lib.hid HN0
          clear hb HN0
          refine hK.out _ _ ⟨HK.out.cell rfl, HK.out.cell rfl, HK.out.cell rfl, HK.out.cell rfl⟩ (fun _ => ?_)
          clear hK K
          refine wpAnyH_ready (rs := [5]) (by kernel_rfl) (by simp) ?_
          refine AllReadyH.cons rfl (fun K hK => ?_) (AllReadyH.nil)
          · rw [if_pos (by kernel_rfl)]
            have kc0 := HK.out.cell (j := 0) rfl
            have kc1 := HK.out.cell (j := 1) rfl
            have kc2 := HK.out.cell (j := 2) rfl
            have kc3 := HK.out.cell (j := 3) rfl
            go_simp
            clear kc0 kc1 kc2 kc3
            go_at_call 38
            refine (W3.out _).mono ?_
            rintro e y26 ⟨rfl, hb⟩
            replace HB := Lib.hid (w_below HB.out hb)
            replace HK := Lib.hid (HK.out.later hb)
            replace H6 := Lib.hid (H6.out.later hb)
            replace H7 := Lib.hid (H7.out.later hb)
            clear hb W3
            go_simp
            refine hK.out _ _ ⟨HK.out.cell rfl, HK.out.cell rfl, HK.out.cell rfl, HK.out.cell rfl⟩ (fun _ => ?_)
            clear hK K
            refine wpAnyH_ready (rs := [8]) (by kernel_rfl) (by simp) ?_
            refine AllReadyH.cons rfl (fun K hK => ?_) AllReadyH.nil
            refine step_put _ rfl (.tmp 8) (.tmp 23) rfl (y20.heap.size) (0, 0, 0, 0) (a2, b2, c2, d2) (by kernel_rfl) (by kernel_rfl) H6.out ?_
            intro y27 hoth hnew hbel
            replace HB := Lib.hid (hbel _ HB.out (by omega))
            replace HK := Lib.hid (hoth _ _ _ (by omega) HK.out)
            replace H7 := Lib.hid (hoth _ _ _ (by omega) H7.out)
            replace H6 := Lib.hid hnew
            clear hoth hnew hbel
            refine hK.out _ _ ⟨HK.out.cell rfl, HK.out.cell rfl, HK.out.cell rfl, HK.out.cell rfl⟩ (fun _ => ?_)
            clear hK K
            refine wpAnyH_ready (rs := [9]) (by kernel_rfl) (by simp) ?_
            refine AllReadyH.cons rfl (fun K hK => ?_) AllReadyH.nil
            refine step_put _ rfl (.tmp 9) (.tmp 26) rfl (y1.heap.size) (0, 0, 0, 0) (a3, b3, c3, d3) (by kernel_rfl) (by kernel_rfl) H7.out ?_
            intro y28 hoth hnew hbel
            replace HB := Lib.hid (hbel _ HB.out (by omega))
            replace HK := Lib.hid (hoth _ _ _ (by omega) HK.out)
            replace H6 := Lib.hid (hoth _ _ _ (by omega) H6.out)
            replace H7 := Lib.hid hnew
            clear hoth hnew hbel
            refine hK.out _ _ ⟨HK.out.cell rfl, HK.out.cell rfl, HK.out.cell rfl, HK.out.cell rfl⟩ (fun _ => ?_)
            clear hK K
            refine wpAnyH_done (by kernel_rfl) ?_ _
            go_wp2_with fail
            go_meet
            exact ⟨_, _, rfl, rfl, H6, H7, HB⟩
    · refine step_alloc _ rfl rfl ?_
      intro y29 hb HN0
      have hlt6 := HK.out.lt
      replace HB := Lib.hid (w_below HB.out hb)
      replace HK := Lib.hid (HK.out.later hb)
      have H6 := Lib.hid HN0
      clear hb HN0
      refine hK.out _ _ ⟨HK.out.cell rfl, HK.out.cell rfl, HK.out.cell rfl, HK.out.cell rfl⟩ (fun _ => ?_)
      clear hK K
      refine wpAnyH_ready (rs := [2, 7]) (by kernel_rfl) (by simp) ?_
      refine AllReadyH.cons rfl (fun K hK => ?_) (AllReadyH.cons rfl (fun K hK => ?_) (AllReadyH.nil))
      · rw [if_pos (by kernel_rfl)]
        have kc0 := HK.out.cell (j := 0) rfl
        have kc1 := HK.out.cell (j := 1) rfl
        have kc2 := HK.out.cell (j := 2) rfl
        have kc3 := HK.out.cell (j := 3) rfl
        go_simp
        clear kc0 kc1 kc2 kc3
        go_at_call 38
        refine (W2.out _).mono ?_
        rintro e y30 ⟨rfl, hb⟩
        replace HB := Lib.hid (w_below HB.out hb)
        replace HK := Lib.hid (HK.out.later hb)
        replace H6 := Lib.hid (H6.out.later hb)
        clear hb W2
        go_simp
        refine hK.out _ _ ⟨HK.out.cell rfl, HK.out.cell rfl, HK.out.cell rfl, HK.out.cell rfl⟩ (fun _ => ?_)
        clear hK K
        refine wpAnyH_ready (rs := [5, 7]) (by kernel_rfl) (by simp) ?_
        refine AllReadyH.cons rfl (fun K hK => ?_) (AllReadyH.cons rfl (fun K hK => ?_) (AllReadyH.nil))
        · rw [if_pos (by kernel_rfl)]
          have kc0 := HK.out.cell (j := 0) rfl
          have kc1 := HK.out.cell (j := 1) rfl
          have kc2 := HK.out.cell (j := 2) rfl
          have kc3 := HK.out.cell (j := 3) rfl
          go_simp
          clear kc0 kc1 kc2 kc3
          go_at_call 38
          refine (W3.out _).mono ?_
          rintro e y31 ⟨rfl, hb⟩
          replace HB := Lib.hid (w_below HB.out hb)
          replace HK := Lib.hid (HK.out.later hb)
          replace H6 := Lib.hid (H6.out.later hb)
          clear hb W3
          go_simp
          refine hK.out _ _ ⟨HK.out.cell rfl, HK.out.cell rfl, HK.out.cell rfl, HK.out.cell rfl⟩ (fun _ => ?_)
          clear hK K
          refine wpAnyH_ready (rs := [7]) (by kernel_rfl) (by simp) ?_
          refine AllReadyH.cons rfl (fun K hK => ?_) (AllReadyH.nil)
          · refine step_alloc _ rfl rfl ?_
            intro y32 hb HN0
            have hlt7 := HK.out.lt
            have hlx7 := H6.out.lt
            replace HB := Lib.hid (w_below HB.out hb)
            replace HK := Lib.hid (HK.out.later hb)
            replace H6 := Lib.hid (H6.out.later hb)
            have H7 := Lib.hid HN0
            clear hb HN0
            refine hK.out _ _ ⟨HK.out.cell rfl, HK.out.cell rfl, HK.out.cell rfl, HK.out.cell rfl⟩ (fun _ => ?_)
            clear hK K
            refine wpAnyH_ready (rs := [8]) (by kernel_rfl) (by simp) ?_
            refine AllReadyH.cons rfl (fun K hK => ?_) AllReadyH.nil
            refine step_put _ rfl (.tmp 8) (.tmp 23) rfl (y0.heap.size) (0, 0, 0, 0) (a2, b2, c2, d2) (by kernel_rfl) (by kernel_rfl) H6.out ?_
            intro y33 hoth hnew hbel
            replace HB := Lib.hid (hbel _ HB.out (by omega))
            replace HK := Lib.hid (hoth _ _ _ (by omega) HK.out)
            replace H7 := Lib.hid (hoth _ _ _ (by omega) H7.out)
            replace H6 := Lib.hid hnew
            clear hoth hnew hbel
            refine hK.out _ _ ⟨HK.out.cell rfl, HK.out.cell rfl, HK.out.cell rfl, HK.out.cell rfl⟩ (fun _ => ?_)
            clear hK K
            refine wpAnyH_ready (rs := [9]) (by kernel_rfl) (by simp) ?_
            refine AllReadyH.cons rfl (fun K hK => ?_) AllReadyH.nil
            refine step_put _ rfl (.tmp 9) (.tmp 26) rfl (y31.heap.size) (0, 0, 0, 0) (a3, b3, c3, d3) (by kernel_rfl) (by kernel_rfl) H7.out ?_
            intro y34 hoth hnew hbel
            replace HB := Lib.hid (hbel _ HB.out (by omega))
            replace HK := Lib.hid (hoth _ _ _ (by omega) HK.out)
            replace H6 := Lib.hid (hoth _ _ _ (by omega) H6.out)
            replace H7 := Lib.hid hnew
            clear hoth hnew hbel
            refine hK.out _ _ ⟨HK.out.cell rfl, HK.out.cell rfl, HK.out.cell rfl, HK.out.cell rfl⟩ (fun _ => ?_)
            clear hK K
            refine wpAnyH_done (by kernel_rfl) ?_ _
            go_wp2_with fail
            go_meet
            exact ⟨_, _, rfl, rfl, H6, H7, HB⟩
        · refine step_alloc _ rfl rfl ?_
          intro y35 hb HN0
          have hlt7 := HK.out.lt
          have hlx7 := H6.out.lt
          replace HB := Lib.hid (w_below HB.out hb)
          replace HK := Lib.hid (HK.out.later hb)
          replace H6 := Lib.hid (H6.out.later hb)
          have H7 := Lib.hid HN0
          clear hb HN0
          refine hK.out _ _ ⟨HK.out.cell rfl, HK.out.cell rfl, HK.out.cell rfl, HK.out.cell rfl⟩ (fun _ => ?_)
          clear hK K
          refine wpAnyH_ready (rs := [5]) (by kernel_rfl) (by simp) ?_
          refine AllReadyH.cons rfl (fun K hK => ?_) (AllReadyH.nil)
          · rw [if_pos (by kernel_rfl)]
            have kc0 := HK.out.cell (j := 0) rfl
            have kc1 := HK.out.cell (j := 1) rfl
            have kc2 := HK.out.cell (j := 2) rfl
            have kc3 := HK.out.cell (j := 3) rfl
            go_simp
            clear kc0 kc1 kc2 kc3
            go_at_call 38
            refine (W3.out _).mono ?_
            rintro e y36 ⟨rfl, hb⟩
            replace HB := Lib.hid (w_below HB.out hb)
            replace HK := Lib.hid (HK.out.later hb)
            replace H6 := Lib.hid (H6.out.later hb)
            replace H7 := Lib.hid (H7.out.later hb)
            clear hb W3
            go_simp
            refine hK.out _ _ ⟨HK.out.cell rfl, HK.out.cell rfl, HK.out.cell rfl, HK.out.cell rfl⟩ (fun _ => ?_)
            clear hK K
            refine wpAnyH_ready (rs := [8]) (by kernel_rfl) (by simp) ?_
            refine AllReadyH.cons rfl (fun K hK => ?_) AllReadyH.nil
            refine step_put _ rfl (.tmp 8) (.tmp 23) rfl (y0.heap.size) (0, 0, 0, 0) (a2, b2, c2, d2) (by kernel_rfl) (by kernel_rfl) H6.out ?_
            intro y37 hoth hnew hbel
            replace HB := Lib.hid (hbel _ HB.out (by omega))
            replace HK := Lib.hid (hoth _ _ _ (by omega) HK.out)
            replace H7 := Lib.hid (hoth _ _ _ (by omega) H7.out)
            replace H6 := Lib.hid hnew
            clear hoth hnew hbel
            refine hK.out _ _ ⟨HK.out.cell rfl, HK.out.cell rfl, HK.out.cell rfl, HK.out.cell rfl⟩ (fun _ => ?_)
            clear hK K
            refine wpAnyH_ready (rs := [9]) (by kernel_rfl) (by simp) ?_
            refine AllReadyH.cons rfl (fun K hK => ?_) AllReadyH.nil
            refine step_put _ rfl (.tmp 9) (.tmp 26) rfl (y30.heap.size) (0, 0, 0, 0) (a3, b3, c3, d3) (by kernel_rfl) (by kernel_rfl) H7.out ?_
            intro y38 hoth hnew hbel
            replace HB := Lib.hid (hbel _ HB.out (by omega))
            replace HK := Lib.hid (hoth _ _ _ (by omega) HK.out)
            replace H6 := Lib.hid (hoth _ _ _ (by omega) H6.out)
            replace H7 := Lib.hid hnew
            clear hoth hnew hbel
            refine hK.out _ _ ⟨HK.out.cell rfl, HK.out.cell rfl, HK.out.cell rfl, HK.out.cell rfl⟩ (fun _ => ?_)
            clear hK K
            refine wpAnyH_done (by kernel_rfl) ?_ _
            go_wp2_with fail
            go_meet
            exact ⟨_, _, rfl, rfl, H6, H7, HB⟩
      · refine step_alloc _ rfl rfl ?_
        intro y39 hb HN0
        have hlt7 := HK.out.lt
        have hlx7 := H6.out.lt
        replace HB := Lib.hid (w_below HB.out hb)
        replace HK := Lib.hid (HK.out.later hb)
        replace H6 := Lib.hid (H6.out.later hb)
        have H7 := Lib.hid HN0
        clear hb HN0
        refine hK.out _ _ ⟨HK.out.cell rfl, HK.out.cell rfl, HK.out.cell rfl, HK.out.cell rfl⟩ (fun _ => ?_)
        clear hK K
        refine wpAnyH_ready (rs := [2]) (by kernel_rfl) (by simp) ?_
        refine AllReadyH.cons rfl (fun K hK => ?_) (AllReadyH.nil)
        · rw [if_pos (by kernel_rfl)]
          have kc0 := HK.out.cell (j := 0) rfl
          have kc1 := HK.out.cell (j := 1) rfl
          have kc2 := HK.out.cell (j := 2) rfl
          have kc3 := HK.out.cell (j := 3) rfl
          go_simp
          clear kc0 kc1 kc2 kc3
          go_at_call 38
          refine (W2.out _).mono ?_
          rintro e y40 ⟨rfl, hb⟩
          replace HB := Lib.hid (w_below HB.out hb)
          replace HK := Lib.hid (HK.out.later hb)
          replace H6 := Lib.hid (H6.out.later hb)
          replace H7 := Lib.hid (H7.out.later hb)
          clear hb W2
          go_simp
          refine hK.out _ _ ⟨HK.out.cell rfl, HK.out.cell rfl, HK.out.cell rfl, HK.out.cell rfl⟩ (fun _ => ?_)
          clear hK K
          refine wpAnyH_ready (rs := [5]) (by kernel_rfl) (by simp) ?_
          refine AllReadyH.cons rfl (fun K hK => ?_) (AllReadyH.nil)
          · rw [if_pos (by kernel_rfl)]
            have kc0 := HK.out.cell (j := 0) rfl
            have kc1 := HK.out.cell (j := 1) rfl
            have kc2 := HK.out.cell (j := 2) rfl
            have kc3 := HK.out.cell (j := 3) rfl
            go_simp
            clear kc0 kc1 kc2 kc3
            go_at_call 38
            refine (W3.out _).mono ?_
            rintro e y41 ⟨rfl, hb⟩
            replace HB := Lib.hid (w_below HB.out hb)
            replace HK := Lib.hid (HK.out.later hb)
            replace H6 := Lib.hid (H6.out.later hb)
            replace H7 := Lib.hid (H7.out.later hb)
            clear hb W3
            go_simp
            refine hK.out _ _ ⟨HK.out.cell rfl, HK.out.cell rfl, HK.out.cell rfl, HK.out.cell rfl⟩ (fun _ => ?_)
            clear hK K
            refine wpAnyH_ready (rs := [8]) (by kernel_rfl) (by simp) ?_
            refine AllReadyH.cons rfl (fun K hK => ?_) AllReadyH.nil
            refine step_put _ rfl (.tmp 8) (.tmp 23) rfl (y0.heap.size) (0, 0, 0, 0) (a2, b2, c2, d2) (by kernel_rfl) (by kernel_rfl) H6.out ?_
            intro y42 hoth hnew hbel
            replace HB := Lib.hid (hbel _ HB.out (by omega))
            replace HK := Lib.hid (hoth _ _ _ (by omega) HK.out)
            replace H7 := Lib.hid (hoth _ _ _ (by omega) H7.out)
            replace H6 := Lib.hid hnew
            clear hoth hnew hbel
            refine hK.out _ _ ⟨HK.out.cell rfl, HK.out.cell rfl, HK.out.cell rfl, HK.out.cell rfl⟩ (fun _ => ?_)
            clear hK K
            refine wpAnyH_ready (rs := [9]) (by kernel_rfl) (by simp) ?_
            refine AllReadyH.cons rfl (fun K hK => ?_) AllReadyH.nil
            refine step_put _ rfl (.tmp 9) (.tmp 26) rfl (y29.heap.size) (0, 0, 0, 0) (a3, b3, c3, d3) (by kernel_rfl) (by kernel_rfl) H7.out ?_
            intro y43 hoth hnew hbel
            replace HB := Lib.hid (hbel _ HB.out (by omega))
            replace HK := Lib.hid (hoth _ _ _ (by omega) HK.out)
            replace H6 := Lib.hid (hoth _ _ _ (by omega) H6.out)
            replace H7 := Lib.hid hnew
            clear hoth hnew hbel
            refine hK.out _ _ ⟨HK.out.cell rfl, HK.out.cell rfl, HK.out.cell rfl, HK.out.cell rfl⟩ (fun _ => ?_)
            clear hK K
            refine wpAnyH_done (by kernel_rfl) ?_ _
            go_wp2_with fail
            go_meet
            exact ⟨_, _, rfl, rfl, H6, H7, HB⟩
    · refine step_alloc _ rfl rfl ?_
      intro y44 hb HN0
      have hlt7 := HK.out.lt
      replace HB := Lib.hid (w_below HB.out hb)
      replace HK := Lib.hid (HK.out.later hb)
      have H7 := Lib.hid HN0
      clear hb HN0
      refine hK.out _ _ ⟨HK.out.cell rfl, HK.out.cell rfl, HK.out.cell rfl, HK.out.cell rfl⟩ (fun _ => ?_)
      clear hK K
      refine wpAnyH_ready (rs := [2, 6]) (by kernel_rfl) (by simp) ?_
      refine AllReadyH.cons rfl (fun K hK => ?_) (AllReadyH.cons rfl (fun K hK => ?_) (AllReadyH.nil))
      · rw [if_pos (by kernel_rfl)]
        have kc0 := HK.out.cell (j := 0) rfl
        have kc1 := HK.out.cell (j := 1) rfl
        have kc2 := HK.out.cell (j := 2) rfl
        have kc3 := HK.out.cell (j := 3) rfl
        go_simp
        clear kc0 kc1 kc2 kc3
        go_at_call 38
        refine (W2.out _).mono ?_
        rintro e y45 ⟨rfl, hb⟩
        replace HB := Lib.hid (w_below HB.out hb)
        replace HK := Lib.hid (HK.out.later hb)
        replace H7 := Lib.hid (H7.out.later hb)
        clear hb W2
        go_simp
        refine hK.out _ _ ⟨HK.out.cell rfl, HK.out.cell rfl, HK.out.cell rfl, HK.out.cell rfl⟩ (fun _ => ?_)
        clear hK K
        refine wpAnyH_ready (rs := [5, 6]) (by kernel_rfl) (by simp) ?_
        refine AllReadyH.cons rfl (fun K hK => ?_) (AllReadyH.cons rfl (fun K hK => ?_) (AllReadyH.nil))
        · rw [if_pos (by kernel_rfl)]
          have kc0 := HK.out.cell (j := 0) rfl
          have kc1 := HK.out.cell (j := 1) rfl
          have kc2 := HK.out.cell (j := 2) rfl
          have kc3 := HK.out.cell (j := 3) rfl
          go_simp
          clear kc0 kc1 kc2 kc3
          go_at_call 38
          refine (W3.out _).mono ?_
          rintro e y46 ⟨rfl, hb⟩
          replace HB := Lib.hid (w_below HB.out hb)
          replace HK := Lib.hid (HK.out.later hb)
          replace H7 := Lib.hid (H7.out.later hb)
          clear hb W3
          go_simp
          refine hK.out _ _ ⟨HK.out.cell rfl, HK.out.cell rfl, HK.out.cell rfl, HK.out.cell rfl⟩ (fun _ => ?_)
          clear hK K
          refine wpAnyH_ready (rs := [6]) (by kernel_rfl) (by simp) ?_
          refine AllReadyH.cons rfl (fun K hK => ?_) (AllReadyH.nil)
          · refine step_alloc _ rfl rfl ?_
            intro y47 hb HN0
            have hlt6 := HK.out.lt
            have hlx6 := H7.out.lt
            replace HB := Lib.hid (w_below HB.out hb)
            replace HK := Lib.hid (HK.out.later hb)
            replace H7 := Lib.hid (H7.out.later hb)
            have H6 := Lib.hid HN0
            clear hb HN0
            refine hK.out _ _ ⟨HK.out.cell rfl, HK.out.cell rfl, HK.out.cell rfl, HK.out.cell rfl⟩ (fun _ => ?_)
            clear hK K
            refine wpAnyH_ready (rs := [8]) (by kernel_rfl) (by simp) ?_
            refine AllReadyH.cons rfl (fun K hK => ?_) AllReadyH.nil
            refine step_put _ rfl (.tmp 8) (.tmp 23) rfl (y46.heap.size) (0, 0, 0, 0) (a2, b2, c2, d2) (by kernel_rfl) (by kernel_rfl) H6.out ?_
            intro y48 hoth hnew hbel
            replace HB := Lib.hid (hbel _ HB.out (by omega))
            replace HK := Lib.hid (hoth _ _ _ (by omega) HK.out)
            replace H7 := Lib.hid (hoth _ _ _ (by omega) H7.out)
            replace H6 := Lib.hid hnew
            clear hoth hnew hbel
            refine hK.out _ _ ⟨HK.out.cell rfl, HK.out.cell rfl, HK.out.cell rfl, HK.out.cell rfl⟩ (fun _ => ?_)
            clear hK K
            refine wpAnyH_ready (rs := [9]) (by kernel_rfl) (by simp) ?_
            refine AllReadyH.cons rfl (fun K hK => ?_) AllReadyH.nil
            refine step_put _ rfl (.tmp 9) (.tmp 26) rfl (y0.heap.size) (0, 0, 0, 0) (a3, b3, c3, d3) (by kernel_rfl) (by kernel_rfl) H7.out ?_
            intro y49 hoth hnew hbel
            replace HB := Lib.hid (hbel _ HB.out (by omega))
            replace HK := Lib.hid (hoth _ _ _ (by omega) HK.out)
            replace H6 := Lib.hid (hoth _ _ _ (by omega) H6.out)
            replace H7 := Lib.hid hnew
            clear hoth hnew hbel
            refine hK.out _ _ ⟨HK.out.cell rfl, HK.out.cell rfl, HK.out.cell rfl, HK.out.cell rfl⟩ (fun _ => ?_)
            clear hK K
            refine wpAnyH_done (by kernel_rfl) ?_ _
            go_wp2_with fail
            go_meet
            exact ⟨_, _, rfl, rfl, H6, H7, HB⟩
        · refine step_alloc _ rfl rfl ?_
          intro y50 hb HN0
          have hlt6 := HK.out.lt
          have hlx6 := H7.out.lt
          replace HB := Lib.hid (w_below HB.out hb)
          replace HK := Lib.hid (HK.out.later hb)
          replace H7 := Lib.hid (H7.out.later hb)
          have H6 := Lib.hid HN0
          clear hb HN0
          refine hK.out _ _ ⟨HK.out.cell rfl, HK.out.cell rfl, HK.out.cell rfl, HK.out.cell rfl⟩ (fun _ => ?_)
          clear hK K
          refine wpAnyH_ready (rs := [5]) (by kernel_rfl) (by simp) ?_
          refine AllReadyH.cons rfl (fun K hK => ?_) (AllReadyH.nil)
          · rw [if_pos (by kernel_rfl)]
            have kc0 := HK.out.cell (j := 0) rfl
            have kc1 := HK.out.cell (j := 1) rfl
            have kc2 := HK.out.cell (j := 2) rfl
            have kc3 := HK.out.cell (j := 3) rfl
            go_simp
            clear kc0 kc1 kc2 kc3
            go_at_call 38
            refine (W3.out _).mono ?_
            rintro e y51 ⟨rfl, hb⟩
            replace HB := Lib.hid (w_below HB.out hb)
            replace HK := Lib.hid (HK.out.later hb)
            replace H6 := Lib.hid (H6.out.later hb)
            replace H7 := Lib.hid (H7.out.later hb)
            clear hb W3
            go_simp
            refine hK.out _ _ ⟨HK.out.cell rfl, HK.out.cell rfl, HK.out.cell rfl, HK.out.cell rfl⟩ (fun _ => ?_)
            clear hK K
            refine wpAnyH_ready (rs := [8]) (by kernel_rfl) (by simp) ?_
            refine AllReadyH.cons rfl (fun K hK => ?_) AllReadyH.nil
            refine step_put _ rfl (.tmp 8) (.tmp 23) rfl (y45.heap.size) (0, 0, 0, 0) (a2, b2, c2, d2) (by kernel_rfl) (by kernel_rfl) H6.out ?_
            intro y52 hoth hnew hbel
            replace HB := Lib.hid (hbel _ HB.out (by omega))
            replace HK := Lib.hid (hoth _ _ _ (by omega) HK.out)
            replace H7 := Lib.hid (hoth _ _ _ (by omega) H7.out)
            replace H6 := Lib.hid hnew
            clear hoth hnew hbel
            refine hK.out _ _ ⟨HK.out.cell rfl, HK.out.cell rfl, HK.out.cell rfl, HK.out.cell rfl⟩ (fun _ => ?_)
            clear hK K
            refine wpAnyH_ready (rs := [9]) (by kernel_rfl) (by simp) ?_
            refine AllReadyH.cons rfl (fun K hK => ?_) AllReadyH.nil
            refine step_put _ rfl (.tmp 9) (.tmp 26) rfl (y0.heap.size) (0, 0, 0, 0) (a3, b3, c3, d3) (by kernel_rfl) (by kernel_rfl) H7.out ?_
            intro y53 hoth hnew hbel
            replace HB := Lib.hid (hbel _ HB.out (by omega))
            replace HK := Lib.hid (hoth _ _ _ (by omega) HK.out)
            replace H6 := Lib.hid (hoth _ _ _ (by omega) H6.out)
            replace H7 := Lib.hid hnew
            clear hoth hnew hbel
            refine hK.out _ _ ⟨HK.out.cell rfl, HK.out.cell rfl, HK.out.cell rfl, HK.out.cell rfl⟩ (fun _ => ?_)
            clear hK K
            refine wpAnyH_done (by kernel_rfl) ?_ _
            go_wp2_with fail
            go_meet
            exact ⟨_, _, rfl, rfl, H6, H7, HB⟩
      · refine step_alloc _ rfl rfl ?_
        intro y54 hb HN0
        have hlt6 := HK.out.lt
        have hlx6 := H7.out.lt
        replace HB := Lib.hid (w_below HB.out hb)
        replace HK := Lib.hid (HK.out.later hb)
        replace H7 := Lib.hid (H7.out.later hb)
        have H6 := Lib.hid HN0
        clear hb HN0
        refine hK.out _ _ ⟨HK.out.cell rfl, HK.out.cell rfl, HK.out.cell rfl, HK.out.cell rfl⟩ (fun _ => ?_)
        clear hK K
        refine wpAnyH_ready (rs := [2]) (by kernel_rfl) (by simp) ?_
        refine AllReadyH.cons rfl (fun K hK => ?_) (AllReadyH.nil)
        · rw [if_pos (by kernel_rfl)]
          have kc0 := HK.out.cell (j := 0) rfl
          have kc1 := HK.out.cell (j := 1) rfl
          have kc2 := HK.out.cell (j := 2) rfl
          have kc3 := HK.out.cell (j := 3) rfl
          go_simp
          clear kc0 kc1 kc2 kc3
          go_at_call 38
          refine (W2.out _).mono ?_
          rintro e y55 ⟨rfl, hb⟩
          replace HB := Lib.hid (w_below HB.out hb)
          replace HK := Lib.hid (HK.out.later hb)
          replace H6 := Lib.hid (H6.out.later hb)
          replace H7 := Lib.hid (H7.out.later hb)
          clear hb W2
          go_simp
          refine hK.out _ _ ⟨HK.out.cell rfl, HK.out.cell rfl, HK.out.cell rfl, HK.out.cell rfl⟩ (fun _ => ?_)
          clear hK K
          refine wpAnyH_ready (rs := [5]) (by kernel_rfl) (by simp) ?_
          refine AllReadyH.cons rfl (fun K hK => ?_) (AllReadyH.nil)
          · rw [if_pos (by kernel_rfl)]
            have kc0 := HK.out.cell (j := 0) rfl
            have kc1 := HK.out.cell (j := 1) rfl
            have kc2 := HK.out.cell (j := 2) rfl
            have kc3 := HK.out.cell (j := 3) rfl
            go_simp
            clear kc0 kc1 kc2 kc3
            go_at_call 38
            refine (W3.out _).mono ?_
            rintro e y56 ⟨rfl, hb⟩
            replace HB := Lib.hid (w_below HB.out hb)
            replace HK := Lib.hid (HK.out.later hb)
            replace H6 := Lib.hid (H6.out.later hb)
            replace H7 := Lib.hid (H7.out.later hb)
            clear hb W3
            go_simp
            refine hK.out _ _ ⟨HK.out.cell rfl, HK.out.cell rfl, HK.out.cell rfl, HK.out.cell rfl⟩ (fun _ => ?_)
            clear hK K
            refine wpAnyH_ready (rs := [8]) (by kernel_rfl) (by simp) ?_
            refine AllReadyH.cons rfl (fun K hK => ?_) AllReadyH.nil
            refine step_put _ rfl (.tmp 8) (.tmp 23) rfl (y44.heap.size) (0, 0, 0, 0) (a2, b2, c2, d2) (by kernel_rfl) (by kernel_rfl) H6.out ?_
            intro y57 hoth hnew hbel
            replace HB := Lib.hid (hbel _ HB.out (by omega))
            replace HK := Lib.hid (hoth _ _ _ (by omega) HK.out)
            replace H7 := Lib.hid (hoth _ _ _ (by omega) H7.out)
            replace H6 := Lib.hid hnew
            clear hoth hnew hbel
            refine hK.out _ _ ⟨HK.out.cell rfl, HK.out.cell rfl, HK.out.cell rfl, HK.out.cell rfl⟩ (fun _ => ?_)
            clear hK K
            refine wpAnyH_ready (rs := [9]) (by kernel_rfl) (by simp) ?_
            refine AllReadyH.cons rfl (fun K hK => ?_) AllReadyH.nil
            refine step_put _ rfl (.tmp 9) (.tmp 26) rfl (y0.heap.size) (0, 0, 0, 0) (a3, b3, c3, d3) (by kernel_rfl) (by kernel_rfl) H7.out ?_
            intro y58 hoth hnew hbel
            replace HB := Lib.hid (hbel _ HB.out (by omega))
            replace HK := Lib.hid (hoth _ _ _ (by omega) HK.out)
            replace H6 := Lib.hid (hoth _ _ _ (by omega) H6.out)
            replace H7 := Lib.hid hnew
            clear hoth hnew hbel
            refine hK.out _ _ ⟨HK.out.cell rfl, HK.out.cell rfl, HK.out.cell rfl, HK.out.cell rfl⟩ (fun _ => ?_)
            clear hK K
            refine wpAnyH_done (by kernel_rfl) ?_ _
            go_wp2_with fail
            go_meet
            exact ⟨_, _, rfl, rfl, H6, H7, HB⟩
  case rest =>
    obtain ⟨B6, B7, rfl, rfl, KS, KG, hBr⟩ := hcut
    clear K hB W2 W3
    go_wp2_with fail
    go_loopw [10] (fun s10 wr => ∃ j : Nat, j ≤ 8 ∧ s10 = .int .i64 ((j + 1 : Nat) : Int) ∧ Hid (HoldsB wr B6 23 #[.int .i64 a2, .int .i64 b2, .int .i64 c2, .int .i64 d2]) ∧ Hid (HoldsB wr B7 23 #[.int .i64 a3, .int .i64 b3, .int .i64 c3, .int .i64 d3]) ∧ Hid (Below w.heap.size w wr)) (fun s10 _ => (9 - intOf s10).toNat)
    case atStart => exact ⟨0, by omega, rfl, KS, KG, hBr⟩
    case round =>
      clear KS KG hBr
      rename World => wr
      obtain ⟨j, hj, rfl, KS, KG, hbr⟩ := hrel
      by_cases hlt : j < 8
      · obtain ⟨g, hg⟩ : ∃ g, ((j + 1 : Nat) : Int) = g := ⟨_, rfl⟩
        have hg1 : ((j + 1 + 1 : Nat) : Int) = g + 1 := by omega
        have hgb : 1 ≤ g ∧ g ≤ 8 := by omega
        have F1 := Lib.hid (fun W => FS.out g hgb W)
        have F2 := Lib.hid (fun W => FG.out g hgb W)
        obtain ⟨m1, m2⟩ := BS.out g hgb
        obtain ⟨m3, m4⟩ := BG.out g hgb
        obtain ⟨d1, d2'⟩ := pie_bd hgb
        obtain ⟨ge, gl⟩ := GF.out g hgb
        rw [hg]
        clear FS FG BS BG GF
        generalize ms g = M at *
        generalize mg g = N at *
        generalize pieI g = D at *
        obtain ⟨hg2, hg3⟩ := hgb
        have p0 := KS.out.cell (j := 0) rfl
        have p1 := KS.out.cell (j := 1) rfl
        have p2 := KS.out.cell (j := 2) rfl
        have p3 := KS.out.cell (j := 3) rfl
        by_cases hvg : v < g
        · obtain rfl := ge hvg
          have hvg2 : ¬ (g ≤ v) := by omega
          clear ge gl
          go_wp2_with fail
          refine (F1.out _).mono ?_
          rintro e w3 ⟨rfl, hb⟩
          have hb9 := w_alloc hb (.cells #[.int .i64 M, .int .i64 D] 28)
          have hB1 := Lib.hid (w_below hbr.out hb9)
          have KS1 := Lib.hid (KS.out.later hb9)
          have KG1 := Lib.hid (KG.out.later hb9)
          have TA := Lib.hid (Own2.made w3 M D 28)
          clear hb hb9 F1 p0 p1 p2 p3 KS KG hbr
          have p0 := KG1.out.cell (j := 0) rfl
          have p1 := KG1.out.cell (j := 1) rfl
          have p2 := KG1.out.cell (j := 2) rfl
          have p3 := KG1.out.cell (j := 3) rfl
          go_wp2_with fail
          refine (F2.out _).mono ?_
          rintro e w4 ⟨rfl, hb⟩
          have hb9 := w_alloc hb (.cells #[.int .i64 M, .int .i64 D] 28)
          replace hB1 := Lib.hid (w_below hB1.out hb9)
          have KS2 := Lib.hid (KS1.out.later hb9)
          have KG2 := Lib.hid (KG1.out.later hb9)
          obtain ⟨_, t0, t1, _, _⟩ := TA.out.later hb9
          obtain ⟨_, s0, s1, _, _⟩ := Own2.made w4 M D 28
          clear hb hb9 F2 p0 p1 p2 p3 KS1 KG1 TA
          go_wp2_with fail
          go_roundw
          case rel => exact ⟨j + 1, by omega, by rw [hg1], KS2, KG2, hB1⟩
          case measure => simp [intOf]; omega
        · have hvg2 : g ≤ v := by omega
          obtain ⟨x1, x2⟩ := gl hvg2
          obtain ⟨X, hX⟩ : ∃ X, 3 * M * D = X := ⟨_, rfl⟩
          rw [hX] at x2
          have x1' : IntKind.i64.wrap (3 * M * D) = X := by rw [x1]; exact hX
          clear ge gl x1 hX
          go_wp2_with fail
          refine (F1.out _).mono ?_
          rintro e w3 ⟨rfl, hb⟩
          have hb9 := w_alloc hb (.cells #[.int .i64 M, .int .i64 D] 28)
          have hB1 := Lib.hid (w_below hbr.out hb9)
          have KS1 := Lib.hid (KS.out.later hb9)
          have KG1 := Lib.hid (KG.out.later hb9)
          have TA := Lib.hid (Own2.made w3 M D 28)
          clear hb hb9 F1 p0 p1 p2 p3 KS KG hbr
          have p0 := KG1.out.cell (j := 0) rfl
          have p1 := KG1.out.cell (j := 1) rfl
          have p2 := KG1.out.cell (j := 2) rfl
          have p3 := KG1.out.cell (j := 3) rfl
          go_wp2_with fail
          refine (F2.out _).mono ?_
          rintro e w4 ⟨rfl, hb⟩
          have hb9 := w_alloc hb (.cells #[.int .i64 N, .int .i64 D] 28)
          replace hB1 := Lib.hid (w_below hB1.out hb9)
          have KS2 := Lib.hid (KS1.out.later hb9)
          have KG2 := Lib.hid (KG1.out.later hb9)
          obtain ⟨_, t0, t1, _, _⟩ := TA.out.later hb9
          obtain ⟨_, s0, s1, _, _⟩ := Own2.made w4 N D 28
          clear hb hb9 F2 p0 p1 p2 p3 KS1 KG1 TA
          go_wp2_with fail
          go_roundw
          case rel => exact ⟨j + 1, by omega, by rw [hg1], KS2, KG2, hB1⟩
          case measure => simp [intOf]; omega
      · obtain rfl : j = 8 := by omega
        clear FS FG BS BG GF
        go_wp2_with fail
        go_ret
        exact ⟨rfl, hbr.out⟩

end Go.Proofs.YtflgmeajkflobaaDoor
