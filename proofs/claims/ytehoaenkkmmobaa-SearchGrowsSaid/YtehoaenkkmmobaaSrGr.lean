/-
  LAYER 6: the law SearchGrows. (Written by gen/gen_srgr.py.)
-/
import Derived.Test.YtehoaenkkmmobaaSrGp
namespace Go.Proofs.Ytehoaenkkmmobaa
open Go.RowKit Go.Shelf
theorem chcR_zero {nP : Nat} {G : List (List Ed)} {D : List Int} {moves : Int} (h : chcR nP G D moves = 0) : ∃ m : Nat, moves = m ∧ m ≤ 20 ∧ mapB nP G D = true ∧ prtN G D ^ m ≤ 1000000000000000 := by
  unfold chcR at h
  split at h
  · rename_i h1; exact absurd h h1
  · rename_i h1
    obtain ⟨a1, a2, a3⟩ := chcE_zero (Classical.not_not.1 h1)
    obtain ⟨m, rfl⟩ : ∃ m : Nat, moves = m := ⟨moves.toNat, by omega⟩
    split at h
    · rename_i h2; exact ⟨m, rfl, by omega, a1, h2⟩
    · exact absurd h (by decide)
set_option maxRecDepth 100000 in
set_option maxHeartbeats 8000000 in
theorem grows_law (AP AE AD : Option Addr) (nP cP cE cD : Nat) (G : List (List Ed)) (D : List Int) (moves : Int) (w : World) (hm : MdR w AE AD G D) (hz : Szd nP G D) :
    Calls Try.prog 11 #[grV AP AE nP cP G.length cE, .slice AD D.length cD, I moves] w fun e w' => e = .returned (.bool true) ∧ Below w.heap.size w w' := by
  obtain ⟨w1, hw1, hs1, y1, hb1⟩ := one_box w (.cells #[.slice AP nP cP, .slice AE G.length cE] 25)
  have hc : ∀ V, Below w1.heap.size w1 V → V.cell? ⟨w.heap.size, 0, none⟩ = some (.slice AP nP cP) ∧ V.cell? ⟨w.heap.size, 1, none⟩ = some (.slice AE G.length cE) ∧ MdR V AE AD G D := fun V hV =>
    ⟨(hV.cell (p := ⟨w.heap.size, 0, none⟩) (by show w.heap.size < _; omega)).trans (cell_of_row w1 _ 0 _ _ _ y1), (hV.cell (p := ⟨w.heap.size, 1, none⟩) (by show w.heap.size < _; omega)).trans (cell_of_row w1 _ 1 _ _ _ y1), (hm.call hb1).call hV⟩
  have hla := large_any AP AE nP cP cE G w1 (hm.call hb1).g hz.p hz.e hz.es
  have hrc : ∀ V, Below w1.heap.size w1 V → Calls Try.prog 18 #[grV AP AE nP cP G.length cE, .slice AD D.length cD] V fun e w' => e = .returned (I (chkR nP G D)) ∧ Below V.heap.size V w' := fun V hV => rCheck_any AP AE AD nP cP cE cD G D V ((hm.call hb1).call hV) hz
  have hwk : ∀ V, Calls Try.prog 16 #[] V fun e w' => e = .returned (.bool true) ∧ Below V.heap.size V w' := fun V => works_any V
  obtain ⟨c0, c1, -⟩ := hc w1 (Below.refl _ _)
  have HC := Lib.hid hc
  have HB1 := Lib.hid hb1
  have HZ := Lib.hid hz
  clear y1 hb1 hc hm hz
  have HCH := Lib.hid (fun V (hV : Below w1.heap.size w1 V) (mv : Int) => Chance_any AP AE AD nP cP cE cD G D mv V (HC.out V hV).2.2 HZ.out)
  obtain ⟨bl, hbl⟩ : ∃ b, b = larB nP G := ⟨_, rfl⟩
  rw [← hbl] at hla
  clear hbl
  cases bl with
  | true =>
    go_enter Try.func11, Try.ntmps11
    go_upto_region 1 with fail
    rw [← hw1]
    clear hw1
    go_wp2_with (first
      | (go_at_call 15; refine hla.mono ?_; rintro e w3 ⟨rfl, hb3⟩)
      | (go_at_call 16; refine (hwk _).mono ?_; rintro e w9 ⟨rfl, hb9⟩))
    go_ret
    have hB3 := HB1.out.trans (hb3.mono HB1.out.size)
    exact ⟨rfl, hB3.trans (hb9.mono hB3.size)⟩
  | false =>
    obtain ⟨E, hE⟩ : ∃ E, E = chkR nP G D := ⟨_, rfl⟩
    rw [← hE] at hrc
    clear hE
    by_cases hE0 : E = 0
    · subst hE0
      by_cases hse : chcR nP G D moves = 0
      · have hch : ∀ V, Below w1.heap.size w1 V → Calls Try.prog 28 #[grV AP AE nP cP G.length cE, .slice AD D.length cD, I moves] V fun e w' => e = .returned (.tuple #[I (chcA G D moves.toNat : Nat), I (chcB G D moves.toNat : Nat), I 0]) ∧ Below V.heap.size V w' := fun V hV => by
          have := HCH.out V hV moves
          rw [chcX, chcY, if_pos hse, if_pos hse, hse] at this
          exact this
        obtain ⟨m, rfl, hm20, hmap, hle⟩ := chcR_zero hse
        obtain ⟨rfl, hv, ho⟩ := mapB_vld hmap
        rw [Int.toNat_natCast] at hch
        obtain ⟨g1, g2, g3, g4, g5⟩ := grow_one hv ho hle
        have hch2 : ∀ V, Below w1.heap.size w1 V → Calls Try.prog 28 #[grV AP AE G.length cP G.length cE, .slice AD D.length cD, I ((m : Int) + 1)] V fun e w' => ∃ (x y : Nat) (R : Int), e = .returned (.tuple #[I x, I y, I R]) ∧ (R = 0 → x = chcA G D (m + 1) ∧ y = chcB G D (m + 1) ∧ chcA G D (m + 1) ≤ chcB G D (m + 1)) ∧ y ≤ 1000000000000000 ∧ Below V.heap.size V w' := fun V hV => (HCH.out V hV ((m : Int) + 1)).mono (by
          rintro e w' ⟨rfl, hb⟩
          by_cases h : chcR G.length G D ((m : Int) + 1) = 0
          · obtain ⟨k, hk, -, -, hle2⟩ := chcR_zero h
            have e : k = m + 1 := by omega
            subst e
            have h3 := grow_one hv ho hle2
            exact ⟨_, _, _, by rw [chcX, chcY, show ((m : Int) + 1).toNat = m + 1 by omega, if_pos h, if_pos h], fun _ => ⟨rfl, rfl, h3.2.2.1⟩, h3.2.1, hb⟩
          · exact ⟨0, 0, _, by rw [chcX, chcY, if_neg h, if_neg h]; rfl, fun h' => absurd h' h, by omega, hb⟩)
        have g6 := grow_two G D m
        have hD0 : 0 < D.length := by have := hv.len; have := hv.pos; omega
        obtain ⟨d, hd⟩ : ∃ d, d = nth D 0 := ⟨_, rfl⟩
        have hdd : dOf D 0 = d := hd.symm
        rw [hdd] at g4
        have hbd := mapB_bnd hmap 0
        rw [← hd] at hbd
        have HD := Lib.hid hd
        obtain ⟨a2, ha2⟩ : ∃ a2, a2 = chcA G D (m + 1) := ⟨_, rfl⟩
        obtain ⟨b2, hb2⟩ : ∃ b2, b2 = chcB G D (m + 1) := ⟨_, rfl⟩
        obtain ⟨a, ha⟩ : ∃ a, a = chcA G D m := ⟨_, rfl⟩
        obtain ⟨b, hb⟩ : ∃ b, b = chcB G D m := ⟨_, rfl⟩
        rw [← ha2, ← hb2] at hch2
        rw [← ha, ← hb, ← ha2, ← hb2] at g6
        rw [← hb] at g1 g2 g3 g5
        rw [← ha] at g3 g4 g5
        rw [← ha, ← hb] at hch
        have HG5 := Lib.hid g5
        have HG6 := Lib.hid g6
        have d1 : decide ((b : Int) < 1) = false := decide_eq_false (by omega)
        have d1' : decide (b < 1) = false := decide_eq_false (by omega)
        have d2 : decide ((a : Int) < 0) = false := decide_eq_false (by omega)
        have d3 : decide ((b : Int) < (a : Int)) = false := decide_eq_false (by omega)
        have d3' : decide (b < a) = false := decide_eq_false (by omega)
        clear hse hmap hle hv ho hd hdd ha2 hb2 ha hb g5 g6
        go_enter Try.func11, Try.ntmps11
        go_upto_region 1 with fail
        rw [← hw1]
        clear hw1
        go_upto_region 6 with (first
          | (go_at_call 15; refine hla.mono ?_; rintro e w3 ⟨rfl, hb3⟩; obtain ⟨c0, c1, -⟩ := HC.out w3 hb3; have hrc3 := hrc w3 hb3)
          | (go_at_call 18; refine hrc3.mono ?_; rintro e w4 ⟨rfl, hb4'⟩; have hb4 := hb3.trans (hb4'.mono hb3.size); clear hb4' c0 c1; obtain ⟨c0, c1, -⟩ := HC.out w4 hb4; have hch4 := hch w4 hb4)
          | (go_at_call 28; refine hch4.mono ?_; rintro e w5 ⟨rfl, hb5'⟩; have hb5 := hb4.trans (hb5'.mono hb4.size); clear hb5' c0 c1))
        obtain ⟨c0, c1, hmo⟩ := HC.out w5 hb5
        obtain ⟨gA, oA, e1, hbA, hcell⟩ := hmo.d.plain hD0
        subst e1
        have hcA := hcell 0 hD0
        rw [Nat.add_zero, ← HD.out] at hcA
        have hq : (0 < a ∧ 0 ≤ d ∧ d ≤ m) ∨ (a = 0 ∧ 0 ≤ d ∧ (m : Int) < d) ∨ (a = 0 ∧ d < 0) := by
          rcases Nat.eq_zero_or_pos a with h | h
          · have : ¬ (0 ≤ d ∧ d ≤ m) := fun h' => by have := g4.2 h'; omega
            omega
          · have := g4.1 h; exact .inl ⟨h, this⟩
        have HB5 := Lib.hid hb5
        clear g4 hcell hmo hch hrc hla hb5
        obtain ⟨t0, ht0⟩ : ∃ t, t = decide ((0 : Int) < (a : Int)) := ⟨_, rfl⟩
        obtain ⟨t1, ht1⟩ : ∃ t, t = decide ((0 : Int) ≤ d) := ⟨_, rfl⟩
        obtain ⟨t2, ht2⟩ : ∃ t, t = decide (d ≤ (m : Int)) := ⟨_, rfl⟩
        have hqq : (t0 = true ∧ t1 = true ∧ t2 = true) ∨ (t0 = false ∧ t1 = true ∧ t2 = false) ∨ (t0 = false ∧ t1 = false) := by
          rw [ht0, ht1, ht2]
          simp only [decide_eq_true_eq, decide_eq_false_iff_not]
          omega
        have u0 : decide (0 < a) = t0 := by rw [ht0]; exact decide_eq_decide.2 (by omega)
        have u0' := ht0.symm
        have u1 := ht1.symm
        have u2 := ht2.symm
        clear ht0 ht1 ht2 hq
        have KEY : ∀ (K : Prop), (t0 = true → t1 = true → t2 = true → K) → (t0 = false → t1 = true → t2 = false → K) → (t0 = false → t1 = false → K) → K := fun K h1 h2 h3 => by
          rcases hqq with ⟨h, h', h''⟩ | ⟨h, h', h''⟩ | ⟨h, h'⟩
          · exact h1 h h' h''
          · exact h2 h h' h''
          · exact h3 h h'
        clear hqq
        refine KEY _ ?_ ?_ ?_
        case' refine_1 => intro h h' h''; subst h; subst h'; subst h''
        case' refine_2 => intro h h' h''; subst h; subst h'; subst h''
        case' refine_3 => intro h h'; subst h; subst h'
        all_goals
          go_upto_region 8 with fail
          go_wp2_with fail
          go_loopw [10] (fun i wr => ∃ k : Nat, 2 ≤ k ∧ k ≤ 41 ∧ i = .int .i64 k ∧ wr = w5) (fun i _ => 41 - (intOf i).toNat)
          case atStart => exact ⟨2, by omega, by omega, rfl, rfl⟩
          case round =>
            obtain ⟨k, hk2, hk, rfl, rfl⟩ := hrel
            by_cases hlt : k ≤ 40
            · have h5 := HG5.out k hk2
              have q1 : (a : Int).tmod (k : Int) = ((a % k : Nat) : Int) := (Int.ofNat_tmod a k)
              have q2 : (b : Int).tmod (k : Int) = ((b % k : Nat) : Int) := (Int.ofNat_tmod b k)
              have b1 : a % k < k := Nat.mod_lt _ (by omega)
              have b2' : b % k < k := Nat.mod_lt _ (by omega)
              obtain ⟨r1, hr1⟩ : ∃ r, r = a % k := ⟨_, rfl⟩
              obtain ⟨r2, hr2⟩ : ∃ r, r = b % k := ⟨_, rfl⟩
              rw [← hr1] at q1 b1 h5
              rw [← hr2] at q2 b2' h5
              have c2 : ((k : Int) == 0) = false := beq_eq_false_iff_ne.2 (by omega)
              have c3 : decide ((k : Int) = 0) = false := decide_eq_false (by omega)
              have c3' : decide (k = 0) = false := decide_eq_false (by omega)
              have c4 : ¬ (k : Int) = 0 := by omega
              have c5 : ¬ k = 0 := by omega
              have l1 : decide ((k : Int) ≤ 40) = true := decide_eq_true (by omega)
              have l2 : decide (k ≤ 40) = true := decide_eq_true hlt
              clear hr1 hr2
              by_cases z1 : r1 = 0
              · have p1 : ((r1 : Int) == 0) = true := by simp [z1]
                have p2 : decide ((r1 : Int) = 0) = true := decide_eq_true (by omega)
                have p3 : decide (r1 = 0) = true := decide_eq_true z1
                have o1 : ((r2 : Int) == 0) = false := beq_eq_false_iff_ne.2 (by omega)
                have o2 : decide ((r2 : Int) = 0) = false := decide_eq_false (by omega)
                have o3 : decide (r2 = 0) = false := decide_eq_false (by omega)
                clear z1 h5
                go_wp2_with fail
                go_roundw
                case rel => exact ⟨k + 1, by omega, by omega, by go_num, trivial⟩
                case measure => simp [intOf] <;> omega
              · have p1 : ((r1 : Int) == 0) = false := beq_eq_false_iff_ne.2 (by omega)
                have p2 : decide ((r1 : Int) = 0) = false := decide_eq_false (by omega)
                have p3 : decide (r1 = 0) = false := decide_eq_false z1
                clear z1 h5
                go_wp2_with fail
                go_roundw
                case rel => exact ⟨k + 1, by omega, by omega, by go_num, trivial⟩
                case measure => simp [intOf] <;> omega
            · obtain rfl : k = 41 := by omega
              go_upto_region 14 with (go_at_call 28; refine (hch2 _ HB5.out).mono ?_; rintro e w6 ⟨x, y, R, rfl, hxy, hyb, hb6'⟩; have hb6 := HB5.out.trans (hb6'.mono HB5.out.size); clear hb6')
              by_cases hR : R = 0
              · obtain ⟨rfl, rfl, hxy3⟩ := hxy hR
                subst hR
                clear hxy
                have G6 := HG6.out
                by_cases h1 : 1000000000 < b
                · have p1 : decide ((1000000000 : Int) < (b : Int)) = true := decide_eq_true (by omega)
                  have p2 : decide (1000000000 < b) = true := decide_eq_true h1
                  clear h1 G6
                  go_wp2_with (go_at_call 16; refine (hwk _).mono ?_; rintro e w9 ⟨rfl, hb9⟩)
                  go_ret
                  have hB6 := HB1.out.trans (hb6.mono HB1.out.size)
                  exact ⟨rfl, hB6.trans (hb9.mono hB6.size)⟩
                · have p1 : decide ((1000000000 : Int) < (b : Int)) = false := decide_eq_false (by omega)
                  have p2 : decide (1000000000 < b) = false := decide_eq_false h1
                  by_cases h2 : 1000000000 < y
                  · have p3 : decide ((1000000000 : Int) < (y : Int)) = true := decide_eq_true (by omega)
                    have p4 : decide (1000000000 < y) = true := decide_eq_true h2
                    clear h1 h2 G6
                    go_wp2_with (go_at_call 16; refine (hwk _).mono ?_; rintro e w9 ⟨rfl, hb9⟩)
                    go_ret
                    have hB6 := HB1.out.trans (hb6.mono HB1.out.size)
                    exact ⟨rfl, hB6.trans (hb9.mono hB6.size)⟩
                  · have p3 : decide ((1000000000 : Int) < (y : Int)) = false := decide_eq_false (by omega)
                    have p4 : decide (1000000000 < y) = false := decide_eq_false h2
                    have w1' : a * y ≤ 1000000000 * 1000000000 := Nat.mul_le_mul (by omega) (by omega)
                    have w2' : x * b ≤ 1000000000 * 1000000000 := Nat.mul_le_mul (by omega) (by omega)
                    have m1 : (a : Int) * (y : Int) = ((a * y : Nat) : Int) := (Int.natCast_mul _ _).symm
                    have m2 : (x : Int) * (b : Int) = ((x * b : Nat) : Int) := (Int.natCast_mul _ _).symm
                    obtain ⟨X, hX⟩ : ∃ X, X = a * y := ⟨_, rfl⟩
                    obtain ⟨Y, hY⟩ : ∃ Y, Y = x * b := ⟨_, rfl⟩
                    rw [← hX] at w1' m1 G6
                    rw [← hY] at w2' m2 G6
                    have p5 : decide ((X : Int) ≤ (Y : Int)) = true := decide_eq_true (by omega)
                    have p6 : decide (X ≤ Y) = true := decide_eq_true G6
                    clear hX hY h1 h2 G6
                    go_wp2_with (go_at_call 16; refine (hwk _).mono ?_; rintro e w9 ⟨rfl, hb9⟩)
                    go_ret
                    have hB6 := HB1.out.trans (hb6.mono HB1.out.size)
                    exact ⟨rfl, hB6.trans (hb9.mono hB6.size)⟩
              · have p1 : (R != 0) = true := by simpa using hR
                clear hR hxy
                go_wp2_with (go_at_call 16; refine (hwk _).mono ?_; rintro e w9 ⟨rfl, hb9⟩)
                go_ret
                have hB6 := HB1.out.trans (hb6.mono HB1.out.size)
                exact ⟨rfl, hB6.trans (hb9.mono hB6.size)⟩
      · have hch : ∀ V, Below w1.heap.size w1 V → Calls Try.prog 28 #[grV AP AE nP cP G.length cE, .slice AD D.length cD, I moves] V fun e w' => e = .returned (.tuple #[I 0, I 0, I (chcR nP G D moves)]) ∧ Below V.heap.size V w' := fun V hV => by
          have := HCH.out V hV moves
          rw [chcX, chcY, if_neg hse, if_neg hse] at this
          exact this
        obtain ⟨F, hF⟩ : ∃ F, F = chcR nP G D moves := ⟨_, rfl⟩
        rw [← hF] at hch hse
        have q1 : (F != 0) = true := by simpa using hse
        clear hF hse
        go_enter Try.func11, Try.ntmps11
        go_upto_region 1 with fail
        rw [← hw1]
        clear hw1
        go_wp2_with (first
          | (go_at_call 15; refine hla.mono ?_; rintro e w3 ⟨rfl, hb3⟩; obtain ⟨c0, c1, -⟩ := HC.out w3 hb3; have hrc3 := hrc w3 hb3)
          | (go_at_call 18; refine hrc3.mono ?_; rintro e w4 ⟨rfl, hb4'⟩; have hb4 := hb3.trans (hb4'.mono hb3.size); clear hb4' c0 c1; obtain ⟨c0, c1, -⟩ := HC.out w4 hb4; have hch4 := hch w4 hb4)
          | (go_at_call 28; refine hch4.mono ?_; rintro e w5 ⟨rfl, hb5'⟩; have hb5 := hb4.trans (hb5'.mono hb4.size); clear hb5' c0 c1)
          | (go_at_call 16; refine (hwk _).mono ?_; rintro e w9 ⟨rfl, hb9⟩))
        go_ret
        have hB5 := HB1.out.trans (hb5.mono HB1.out.size)
        exact ⟨rfl, hB5.trans (hb9.mono hB5.size)⟩
    · have q1 : (E != 0) = true := by simpa using hE0
      clear hE0
      go_enter Try.func11, Try.ntmps11
      go_upto_region 1 with fail
      rw [← hw1]
      clear hw1
      go_wp2_with (first
        | (go_at_call 15; refine hla.mono ?_; rintro e w3 ⟨rfl, hb3⟩; obtain ⟨c0, c1, -⟩ := HC.out w3 hb3; have hrc3 := hrc w3 hb3)
        | (go_at_call 18; refine hrc3.mono ?_; rintro e w4 ⟨rfl, hb4'⟩; have hb4 := hb3.trans (hb4'.mono hb3.size); clear hb4' c0 c1; obtain ⟨c0, c1, -⟩ := HC.out w4 hb4)
        | (go_at_call 16; refine (hwk _).mono ?_; rintro e w9 ⟨rfl, hb9⟩))
      go_ret
      have hB4 := HB1.out.trans (hb4.mono HB1.out.size)
      exact ⟨rfl, hB4.trans (hb9.mono hB4.size)⟩
end Go.Proofs.Ytehoaenkkmmobaa
