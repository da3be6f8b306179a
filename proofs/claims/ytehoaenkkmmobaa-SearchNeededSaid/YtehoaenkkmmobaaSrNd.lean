/-
  LAYER 6: the law's small; the law SearchNeeded. (Written by gen/gen_srnd.py.)
-/
import Derived.Test.YtehoaenkkmmobaaSrWo
import Derived.Test.YtehoaenkkmmobaaSrRc
namespace Go.Proofs.Ytehoaenkkmmobaa
open Go.RowKit Go.Shelf
def smlB (nP : Nat) (G : List (List Ed)) : Bool := decide ((nP : Int) ≤ 8) && decide (larT G (min G.length 400) ≤ 16) && decide ((G.length : Int) ≤ 400)
set_option maxRecDepth 100000 in
set_option maxHeartbeats 4000000 in
theorem small_any (AP AE : Option Addr) (nP cP cE : Nat) (G : List (List Ed)) (w : World) (hg : GrR w w.heap.size AE G) (hP : nP ≤ maxLen) (hE : G.length ≤ maxLen) (hes : ∀ es ∈ G, es.length ≤ maxLen) :
    Calls Try.prog 37 #[grV AP AE nP cP G.length cE] w fun e w' => e = .returned (.bool (smlB nP G)) ∧ Below w.heap.size w w' := by
  obtain ⟨w1, hw1, hs1, y0, hb1⟩ := one_box w (.cells #[.slice AP nP cP, .slice AE G.length cE] 25)
  have a0 : w1.cell? ⟨w.heap.size, 0, none⟩ = some (.slice AP nP cP) := cell_of_row w1 _ 0 _ _ _ y0
  have a1 : w1.cell? ⟨w.heap.size, 1, none⟩ = some (.slice AE G.length cE) := cell_of_row w1 _ 1 _ _ _ y0
  have HG := Lib.hid (grr_call hb1 hg)
  have HES := Lib.hid hes
  have hP' := hP
  have hE' := hE
  unfold maxLen at hP' hE'
  clear hg y0 hes hP hE
  go_enter Try.func37, Try.ntmps37
  go_upto_region 1 with fail
  rw [← hw1]
  clear hw1
  go_wp2_with fail
  go_loopw [4, 3] (fun i s wr => ∃ (k : Nat) (n : Int), k ≤ G.length ∧ k ≤ 400 ∧ i = .int .i64 k ∧ s = .int .i64 n ∧ Hid (n = larT G k) ∧ wr = w1) (fun i _ _ => 400 - (intOf i).toNat)
  case atStart => exact ⟨0, 0, Nat.zero_le _, by omega, rfl, rfl, Lib.hid rfl, rfl⟩
  case round =>
    obtain ⟨k, n, hk, hk4, rfl, rfl, HN, rfl⟩ := hrel
    by_cases hlt : k < G.length
    · by_cases hl4 : k < 400
      · obtain ⟨g, o, rfl, hgl, Ap, cp, hc, -⟩ := HG.out.at_ hlt
        have h2 := HES.out _ (List.getElem_mem hlt)
        have hgk := gAt_eq hlt
        obtain ⟨l, hl⟩ : ∃ l, l = G[k].length := ⟨_, rfl⟩
        rw [← hl] at hc h2
        have hb := larT_bnd G k
        have hb2 := larT_bnd G (k + 1)
        have hS : larT G (k + 1) = wrap64 (larT G k + (l : Nat)) := by rw [larT, hgk, hl]
        rw [← HN.out] at hb hS
        obtain ⟨n2, hn2⟩ : ∃ n2, n2 = larT G (k + 1) := ⟨_, rfl⟩
        rw [← hn2] at hb2 hS
        have q1 : wrap64 (n + (l : Int)) = n2 := hS.symm
        have q2 : IntKind.i64.wrap (n + (l : Int)) = n2 := by rw [← q1]; exact IntWalk.i64_left _
        have HN2 := Lib.hid hn2
        clear hl hgk hS hn2 h2
        have d1 : decide ((k : Int) < (G.length : Int)) = true := decide_eq_true (by omega)
        have d2 : decide (k < G.length) = true := decide_eq_true hlt
        have d3 : decide ((k : Int) < 400) = true := decide_eq_true (by omega)
        have d4 : decide (k < 400) = true := decide_eq_true hl4
        go_wp2_with fail
        go_roundw
        case rel => exact ⟨k + 1, n2, by omega, by omega, by go_num, rfl, HN2, trivial⟩
        case measure => simp [intOf]; omega
      · obtain rfl : k = 400 := by omega
        have d1 : decide (((400 : Nat) : Int) < (G.length : Int)) = true := decide_eq_true (by omega)
        have d2 : decide (400 < G.length) = true := decide_eq_true hlt
        have d3 : decide (((400 : Nat) : Int) < 400) = false := decide_eq_false (by omega)
        have hmin : min G.length 400 = 400 := by omega
        have HR := Lib.hid (show smlB nP G = (decide ((nP : Int) ≤ 8) && decide (n ≤ 16) && decide ((G.length : Int) ≤ 400)) by rw [smlB, hmin, HN.out])
        obtain ⟨b1, c1⟩ : ∃ b, decide ((nP : Int) ≤ 8) = b := ⟨_, rfl⟩
        obtain ⟨b3, c3⟩ : ∃ b, decide (n ≤ 16) = b := ⟨_, rfl⟩
        obtain ⟨b4, c4⟩ : ∃ b, decide ((G.length : Int) ≤ 400) = b := ⟨_, rfl⟩
        have e1 : decide (nP ≤ 8) = b1 := by rw [← c1]; exact decide_eq_decide.2 (by omega)
        have e4 : decide (G.length ≤ 400) = b4 := by rw [← c4]; exact decide_eq_decide.2 (by omega)
        have HR2 := Lib.hid (show smlB nP G = (b1 && b3 && b4) by rw [HR.out, c1, c3, c4])
        clear HR HN hmin
        cases b1 <;> cases b3 <;> cases b4
        all_goals
          go_wp2_with fail
          go_ret
          exact ⟨ret_bool HR2.out.symm, hb1⟩
    · obtain rfl : k = G.length := by omega
      have d1 : decide ((G.length : Int) < (G.length : Int)) = false := decide_eq_false (by omega)
      have hmin : min G.length 400 = G.length := by omega
      have HR := Lib.hid (show smlB nP G = (decide ((nP : Int) ≤ 8) && decide (n ≤ 16) && decide ((G.length : Int) ≤ 400)) by rw [smlB, hmin, HN.out])
      obtain ⟨b1, c1⟩ : ∃ b, decide ((nP : Int) ≤ 8) = b := ⟨_, rfl⟩
      obtain ⟨b3, c3⟩ : ∃ b, decide (n ≤ 16) = b := ⟨_, rfl⟩
      obtain ⟨b4, c4⟩ : ∃ b, decide ((G.length : Int) ≤ 400) = b := ⟨_, rfl⟩
      have e1 : decide (nP ≤ 8) = b1 := by rw [← c1]; exact decide_eq_decide.2 (by omega)
      have e4 : decide (G.length ≤ 400) = b4 := by rw [← c4]; exact decide_eq_decide.2 (by omega)
      have HR2 := Lib.hid (show smlB nP G = (b1 && b3 && b4) by rw [HR.out, c1, c3, c4])
      clear HR HN hmin
      cases b1 <;> cases b3 <;> cases b4
      all_goals
        go_wp2_with fail
        go_ret
        exact ⟨ret_bool HR2.out.symm, hb1⟩
theorem least_of (P : Nat → Bool) : ∀ N, (∃ k, k ≤ N ∧ P k = true) → ∃ k, k ≤ N ∧ P k = true ∧ ∀ m, m < k → P m = false := by
  intro N
  induction N with
  | zero => rintro ⟨k, hk, h⟩; exact ⟨k, hk, h, fun m hm => absurd hm (by omega)⟩
  | succ N ih =>
    rintro ⟨k, hk, h⟩
    by_cases hx : ∃ k, k ≤ N ∧ P k = true
    · obtain ⟨k2, h1, h2, h3⟩ := ih hx
      exact ⟨k2, by omega, h2, h3⟩
    · refine ⟨k, hk, h, fun m hm => ?_⟩
      cases hq : P m with
      | false => rfl
      | true => exact absurd ⟨m, by omega, hq⟩ hx
theorem Nds.ex (G : List (List Ed)) (D : List Int) (most : Int) : ∃ n er : Int, Nds G D most n er := by
  by_cases hx : ∃ k : Nat, k ≤ 200 ∧ stpD G D k most = true
  · obtain ⟨k, h1, h2, h3⟩ := least_of (fun k : Nat => stpD G D k most) 200 hx
    exact ⟨k, 0, .inl ⟨rfl, k, rfl, h1, h2, h3⟩⟩
  · refine ⟨0, 3, .inr ⟨rfl, rfl, fun m hm => ?_⟩⟩
    cases hq : stpD G D m most with
    | false => rfl
    | true => exact absurd ⟨m, hm, hq⟩ hx
theorem Nds.uni {G : List (List Ed)} {D : List Int} {most n er n' er' : Int} (h : Nds G D most n er) (h' : Nds G D most n' er') : n = n' ∧ er = er' := by
  rcases h with ⟨rfl, k, rfl, h1, h2, h3⟩ | ⟨rfl, rfl, h1⟩
  · rcases h' with ⟨rfl, k', rfl, g1, g2, g3⟩ | ⟨rfl, rfl, g1⟩
    · refine ⟨?_, rfl⟩
      rcases Nat.lt_trichotomy k k' with hlt | rfl | hlt
      · exact absurd h2 (by rw [g3 k hlt]; simp)
      · rfl
      · exact absurd g2 (by rw [h3 k' hlt]; simp)
    · exact absurd h2 (by rw [g1 k h1]; simp)
  · rcases h' with ⟨rfl, k', rfl, g1, g2, g3⟩ | ⟨rfl, rfl, g1⟩
    · exact absurd g2 (by rw [h1 k' g1]; simp)
    · exact ⟨rfl, rfl⟩
theorem nds_mean {nP : Nat} {G : List (List Ed)} {D : List Int} {most : Int} {k : Nat} (h0 : srchE nP G D 0 0 most = 0) (hk : k ≤ 200) : meanE nP G D k most = unlE (stpD G D k most) 3 := by
  obtain ⟨hmap, hmnd⟩ := srchE_zero h0
  simp only [mndB, wi, Bool.and_eq_true, decide_eq_true_eq] at hmnd
  rw [meanE, if_pos (srchE_of hmap (by simp only [mndB, wi, Bool.and_eq_true, decide_eq_true_eq]; omega))]
set_option maxRecDepth 100000 in
set_option maxHeartbeats 8000000 in
theorem needed_law (AP AE AD : Option Addr) (nP cP cE cD : Nat) (G : List (List Ed)) (D : List Int) (most : Int) (w : World) (hm : MdR w AE AD G D) (hz : Szd nP G D) :
    Calls Try.prog 14 #[grV AP AE nP cP G.length cE, .slice AD D.length cD, I most] w fun e w' => e = .returned (.bool true) ∧ Below w.heap.size w w' := by
  obtain ⟨w1, hw1, hs1, y1, hb1⟩ := one_box w (.cells #[.slice AP nP cP, .slice AE G.length cE] 25)
  have hc : ∀ V, Below w1.heap.size w1 V → V.cell? ⟨w.heap.size, 0, none⟩ = some (.slice AP nP cP) ∧ V.cell? ⟨w.heap.size, 1, none⟩ = some (.slice AE G.length cE) ∧ MdR V AE AD G D := fun V hV =>
    ⟨(hV.cell (p := ⟨w.heap.size, 0, none⟩) (by show w.heap.size < _; omega)).trans (cell_of_row w1 _ 0 _ _ _ y1), (hV.cell (p := ⟨w.heap.size, 1, none⟩) (by show w.heap.size < _; omega)).trans (cell_of_row w1 _ 1 _ _ _ y1), (hm.call hb1).call hV⟩
  have hla := small_any AP AE nP cP cE G w1 (hm.call hb1).g hz.p hz.e hz.es
  have hwk : ∀ V, Calls Try.prog 16 #[] V fun e w' => e = .returned (.bool true) ∧ Below V.heap.size V w' := fun V => works_any V
  obtain ⟨c0, c1, -⟩ := hc w1 (Below.refl _ _)
  have HC := Lib.hid hc
  have HB1 := Lib.hid hb1
  have HZ := Lib.hid hz
  clear y1 hb1 hc hm hz
  obtain ⟨bl, hbl⟩ : ∃ b, b = smlB nP G := ⟨_, rfl⟩
  rw [← hbl] at hla
  clear hbl
  cases bl with
  | false =>
    go_enter Try.func14, Try.ntmps14
    go_upto_region 1 with fail
    rw [← hw1]
    clear hw1
    go_wp2_with (first
      | (go_at_call 37; refine hla.mono ?_; rintro e w3 ⟨rfl, hb3⟩; obtain ⟨c0, c1, -⟩ := HC.out w3 hb3)
      | (go_at_call 16; refine (hwk _).mono ?_; rintro e w9 ⟨rfl, hb9⟩))
    go_ret
    have hB3 := HB1.out.trans (hb3.mono HB1.out.size)
    exact ⟨rfl, hB3.trans (hb9.mono hB3.size)⟩
  | true =>
    by_cases hmo : 40 < most
    · have d1 : decide (40 < most) = true := decide_eq_true hmo
      clear hmo
      go_enter Try.func14, Try.ntmps14
      go_upto_region 1 with fail
      rw [← hw1]
      clear hw1
      go_wp2_with (first
        | (go_at_call 37; refine hla.mono ?_; rintro e w3 ⟨rfl, hb3⟩; obtain ⟨c0, c1, -⟩ := HC.out w3 hb3)
        | (go_at_call 16; refine (hwk _).mono ?_; rintro e w9 ⟨rfl, hb9⟩))
      go_ret
      have hB3 := HB1.out.trans (hb3.mono HB1.out.size)
      exact ⟨rfl, hB3.trans (hb9.mono hB3.size)⟩
    · have d1 : decide (40 < most) = false := decide_eq_false hmo
      clear hmo
      by_cases hse : srchE nP G D 0 0 most = 0
      · obtain ⟨n, er, hN⟩ := Nds.ex G D most
        have hne : ∀ V, Below w1.heap.size w1 V → Calls Try.prog 38 #[grV AP AE nP cP G.length cE, .slice AD D.length cD, I most] V fun e w' => e = .returned (.tuple #[I n, I er]) ∧ Below V.heap.size V w' := fun V hV => (Needs_ok AP AE AD nP cP cE cD G D most V (HC.out V hV).2.2 HZ.out hse).mono (by
          rintro e w' ⟨n', er', rfl, h, hb⟩
          obtain ⟨rfl, rfl⟩ := hN.uni h
          exact ⟨rfl, hb⟩)
        have hwo : ∀ V (k : Nat), Below w1.heap.size w1 V → meanE nP G D k most = 0 → Calls Try.prog 33 #[grV AP AE nP cP G.length cE, .slice AD D.length cD, I k, I most] V fun e w' => ∃ s t : Nat, e = .returned (.tuple #[I s, I t, I 0]) ∧ Below V.heap.size V w' := fun V k hV hk => (Worst_ok AP AE AD nP cP cE cD G D k most V (HC.out V hV).2.2 HZ.out hk).mono (by
          rintro e w' ⟨s, t, rfl, -, hb⟩
          exact ⟨s, t, rfl, hb⟩)
        have hwn : ∀ V (k : Nat), Below w1.heap.size w1 V → meanE nP G D k most = 3 → Calls Try.prog 33 #[grV AP AE nP cP G.length cE, .slice AD D.length cD, I k, I most] V fun e w' => e = .returned (.tuple #[I 0, I 0, I 3]) ∧ Below V.heap.size V w' := fun V k hV hk => by
          have := Worst_err AP AE AD nP cP cE cD G D k most V (HC.out V hV).2.2 HZ.out (by rw [hk]; decide)
          rwa [hk] at this
        have HME := Lib.hid (fun (k : Nat) (hk : k ≤ 200) => nds_mean (k := k) hse hk)
        have HWO := Lib.hid hwo
        have HWN := Lib.hid hwn
        clear hse hwo hwn
        rcases hN with ⟨rfl, k, rfl, hk, hs, hls⟩ | ⟨rfl, rfl, -⟩
        · have hm0 : meanE nP G D k most = 0 := by rw [HME.out k hk, hs]; rfl
          have hw1' := fun V hV => HWO.out V k hV hm0
          cases k with
          | zero =>
            clear hls hs hm0
            go_enter Try.func14, Try.ntmps14
            go_upto_region 1 with fail
            rw [← hw1]
            clear hw1
            go_wp2_with (first
              | (go_at_call 37; refine hla.mono ?_; rintro e w3 ⟨rfl, hb3⟩; obtain ⟨c0, c1, -⟩ := HC.out w3 hb3; have hne3 := hne w3 hb3)
              | (go_at_call 38; refine hne3.mono ?_; rintro e w4 ⟨rfl, hb4'⟩; have hb4 := hb3.trans (hb4'.mono hb3.size); clear hb4' c0 c1; obtain ⟨c0, c1, -⟩ := HC.out w4 hb4; have hwo4 := hw1' w4 hb4)
              | (go_at_call 33; refine hwo4.mono ?_; rintro e w5 ⟨s, t, rfl, hb5'⟩; have hb5 := hb4.trans (hb5'.mono hb4.size); clear hb5')
              | (go_at_call 16; refine (hwk _).mono ?_; rintro e w9 ⟨rfl, hb9⟩))
            go_ret
            have hB5 := HB1.out.trans (hb5.mono HB1.out.size)
            exact ⟨rfl, hB5.trans (hb9.mono hB5.size)⟩
          | succ k =>
            have hm1 : meanE nP G D k most = 3 := by rw [HME.out k (by omega), hls k (by omega)]; rfl
            have hw2' := fun V hV => HWN.out V k hV hm1
            clear hls hs hm0 hm1
            have hw1a := hw1'
            simp only [show ((k + 1 : Nat) : Int) = (k : Int) + 1 by omega] at hw1a
            have hwo1 := hw1a
            clear hw1' hw1a
            have p1 : decide ((0 : Int) < (k : Int) + 1) = true := decide_eq_true (by omega)
            have p2 : decide ((k : Int) + 1 < 0) = false := decide_eq_false (by omega)
            have p3 : (k : Int) + 1 - 1 = (k : Int) := by omega
            go_enter Try.func14, Try.ntmps14
            go_upto_region 1 with fail
            rw [← hw1]
            clear hw1
            go_wp2_with (first
              | (go_at_call 37; refine hla.mono ?_; rintro e w3 ⟨rfl, hb3⟩; obtain ⟨c0, c1, -⟩ := HC.out w3 hb3; have hne3 := hne w3 hb3)
              | (go_at_call 38; refine hne3.mono ?_; rintro e w4 ⟨rfl, hb4'⟩; have hb4 := hb3.trans (hb4'.mono hb3.size); clear hb4' c0 c1; obtain ⟨c0, c1, -⟩ := HC.out w4 hb4; have hwo4 := hwo1 w4 hb4)
              | (go_at_call 33; with_reducible refine hwo4.mono ?_; rintro e w5 ⟨s, t, rfl, hb5'⟩; have hb5 := hb4.trans (hb5'.mono hb4.size); clear hb5' c0 c1; obtain ⟨c0, c1, -⟩ := HC.out w5 hb5; have hwo5 := hw2' w5 hb5)
              | (go_at_call 33; refine hwo5.mono ?_; rintro e w6 ⟨rfl, hb6'⟩; have hb6 := hb5.trans (hb6'.mono hb5.size); clear hb6')
              | (go_at_call 16; refine (hwk _).mono ?_; rintro e w9 ⟨rfl, hb9⟩))
            go_ret
            have hB6 := HB1.out.trans (hb6.mono HB1.out.size)
            exact ⟨rfl, hB6.trans (hb9.mono hB6.size)⟩
        · clear HME HWO HWN
          go_enter Try.func14, Try.ntmps14
          go_upto_region 1 with fail
          rw [← hw1]
          clear hw1
          go_wp2_with (first
            | (go_at_call 37; refine hla.mono ?_; rintro e w3 ⟨rfl, hb3⟩; obtain ⟨c0, c1, -⟩ := HC.out w3 hb3; have hne3 := hne w3 hb3)
            | (go_at_call 38; refine hne3.mono ?_; rintro e w4 ⟨rfl, hb4'⟩; have hb4 := hb3.trans (hb4'.mono hb3.size); clear hb4' c0 c1; obtain ⟨c0, c1, -⟩ := HC.out w4 hb4)
            | (go_at_call 16; refine (hwk _).mono ?_; rintro e w9 ⟨rfl, hb9⟩))
          go_ret
          have hB4 := HB1.out.trans (hb4.mono HB1.out.size)
          exact ⟨rfl, hB4.trans (hb9.mono hB4.size)⟩
      · have hne : ∀ V, Below w1.heap.size w1 V → Calls Try.prog 38 #[grV AP AE nP cP G.length cE, .slice AD D.length cD, I most] V fun e w' => e = .returned (.tuple #[I 0, I (srchE nP G D 0 0 most)]) ∧ Below V.heap.size V w' := fun V hV => Needs_err AP AE AD nP cP cE cD G D most V (HC.out V hV).2.2 HZ.out hse
        obtain ⟨F, hF⟩ : ∃ F, F = srchE nP G D 0 0 most := ⟨_, rfl⟩
        rw [← hF] at hne hse
        have q1 : (F != 0) = true := by simpa using hse
        clear hF hse
        go_enter Try.func14, Try.ntmps14
        go_upto_region 1 with fail
        rw [← hw1]
        clear hw1
        go_wp2_with (first
          | (go_at_call 37; refine hla.mono ?_; rintro e w3 ⟨rfl, hb3⟩; obtain ⟨c0, c1, -⟩ := HC.out w3 hb3; have hne3 := hne w3 hb3)
          | (go_at_call 38; refine hne3.mono ?_; rintro e w4 ⟨rfl, hb4'⟩; have hb4 := hb3.trans (hb4'.mono hb3.size); clear hb4' c0 c1; obtain ⟨c0, c1, -⟩ := HC.out w4 hb4)
          | (go_at_call 16; refine (hwk _).mono ?_; rintro e w9 ⟨rfl, hb9⟩))
        go_ret
        have hB4 := HB1.out.trans (hb4.mono HB1.out.size)
        exact ⟨rfl, hB4.trans (hb9.mono hB4.size)⟩
end Go.Proofs.Ytehoaenkkmmobaa
