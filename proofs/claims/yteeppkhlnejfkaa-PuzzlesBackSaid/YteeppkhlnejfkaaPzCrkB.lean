/-
  CONTRACTS: puzzles.Crack, and the document's own Crack.
-/
import Derived.Test.YteeppkhlnejfkaaPzCrk
import Derived.Test.YteeppkhlnejfkaaPzQTail
namespace Go.Proofs.Yteeppkhlnejfkaa
open Go.RowKit Go.Shelf
/-- the error of Crack -/
def ckE (s p : ByteArray) : Int := fstErr [txE s, txE p]
def ckV (s p : ByteArray) : List Int := if ckE s p = 0 then hits s p 26 else []
theorem ckE_ok {s p : ByteArray} (h : ckE s p = 0) : s.size ≤ 200 ∧ p.size ≤ 200 := by
  rw [ckE, fst2] at h
  rcases txE_cases s with ⟨h1, h2⟩ | ⟨h1, h2⟩ <;> rcases txE_cases p with ⟨h3, h4⟩ | ⟨h3, h4⟩ <;> simp_all
theorem ckE_fine {s p : ByteArray} (h : s.size ≤ 200) (h2 : p.size ≤ 200) : ckE s p = 0 ∧ ckV s p = hits s p 26 := by
  have h1 : ckE s p = 0 := by rw [ckE, fst2]; simp [txE, h, h2]
  exact ⟨h1, by rw [ckV, if_pos h1]⟩
theorem ckE_many {s p : ByteArray} (h : ¬ (s.size ≤ 200 ∧ p.size ≤ 200)) : ckE s p = 2 ∧ ckV s p = [] := by
  have h1 : ckE s p = 2 := by
    rw [ckE, fst2]
    by_cases e : s.size ≤ 200
    · have e2 : ¬ p.size ≤ 200 := fun e2 => h ⟨e, e2⟩
      simp [txE, e, e2]
    · simp [txE, e]
  exact ⟨h1, by rw [ckV, h1, if_neg (by decide)]⟩

set_option maxRecDepth 100000 in
set_option maxHeartbeats 1000000 in
theorem pCrack_any (s p : ByteArray) (m : Int) (w : World) (hm : w.cell? ⟨0, 0, none⟩ = some (.int .i64 m)) (hm0 : 0 < w.heap.size) (hs : s.size ≤ maxLen) (hp : p.size ≤ maxLen) :
    Calls Try.prog 23 #[.string s, .string p] w fun e w' => ∃ A c, e = .returned (.tuple #[.slice A (ckV s p).length c, I (ckE s p)]) ∧ IntsR w' w'.heap.size A (ckV s p) ∧ Below w.heap.size w w' := by
  obtain ⟨w2, hw2⟩ : ∃ w2, w2 = (w.alloc (.cells #[.string s] 9)).alloc (.cells #[.string p] 9) := ⟨_, rfl⟩
  have hb1 : Below w.heap.size w w2 := by rw [hw2]; exact ((Below.refl _ _).alloc (Nat.le_refl _) _).alloc (by simp) _
  have hs2 : w2.heap.size = w.heap.size + 2 := by rw [hw2]; simp
  have hg1 : w2.cell? ⟨w.heap.size, 0, none⟩ = some (.string s) := by
    rw [hw2]; exact (World.cell?_alloc_lt _ _ _ (by show w.heap.size < _; simp)).trans (alloc_cell _ _ _ 0)
  have hg2 : w2.cell? ⟨w.heap.size + 1, 0, none⟩ = some (.string p) := by
    rw [hw2]
    simp
  have hm2 := (hb1.cell (p := ⟨0, 0, none⟩) hm0).trans hm
  have HE := Lib.hid (show fstErr [txE s, txE p] = ckE s p from rfl)
  have c1 : ∀ w, Calls Try.prog 63 #[.string s] w fun e w' => e = .returned (I (txE s)) ∧ w' = w := fun w => checkText_any s w hs
  have c2 : ∀ w, Calls Try.prog 63 #[.string p] w fun e w' => e = .returned (I (txE p)) ∧ w' = w := fun w => checkText_any p w hp
  have HX := Lib.hid (fun h => @ckE_ok s p h)
  have HV := Lib.hid (show ckV s p = if ckE s p = 0 then hits s p 26 else [] from rfl)
  obtain ⟨r, hr⟩ : ∃ r, r = ckE s p := ⟨_, rfl⟩
  rw [← hr] at HE HX HV
  rw [← hr]
  clear hr
  generalize txE s = a at *
  generalize txE p = b at *
  go_enter Try.func23, Try.ntmps23
  go_wp2_with fail
  rw [← hw2]
  refine wp_region_qtail 4 (by kernel_rfl) (by kernel_rfl) ?_
  simp only [List.take_succ_cons, List.take_zero, List.drop_succ_cons, List.drop_zero]
  obtain ⟨W, hW⟩ : ∃ W, W = w2.drew := ⟨_, rfl⟩
  have hBW : Below w.heap.size w W := by rw [hW]; exact hb1.drew
  have hsW : W.heap.size = w.heap.size + 2 := by rw [hW]; exact hs2
  have hgW1 : W.cell? ⟨w.heap.size, 0, none⟩ = some (.string s) := by rw [hW]; exact hg1
  have hgW2 : W.cell? ⟨w.heap.size + 1, 0, none⟩ = some (.string p) := by rw [hW]; exact hg2
  have hmW : W.cell? ⟨0, 0, none⟩ = some (.int .i64 m) := by rw [hW]; exact hm2
  rw [← hW]
  clear hW hw2 hg1 hg2 hm2 hs2 hb1
  repeat (first | go_big_quiet_skip | (go_big_quiet_want; go_big_quiet_op; (first | go_big_quiet_on | (with_reducible refine ⟨_, c1 W, ?_⟩; go_big_quiet_on) | (with_reducible refine ⟨_, c2 W, ?_⟩; go_big_quiet_on))))
  refine wpQuiet_nil ?_
  clear c1 c2
  obtain ⟨X, hX⟩ : ∃ X, X = W.alloc (.cells ((([a, b] : List Int).map I).toArray) 25) := ⟨_, rfl⟩
  have hX' : X = W.alloc (.cells #[I a, I b] 25) := hX
  have hxi : IntsR X X.heap.size (some ⟨w.heap.size + 2, 0, none⟩) [a, b] := by rw [hX, ← hsW]; exact ints_new _ _ _
  have hBX : Below W.heap.size W X := by rw [hX]; exact (Below.refl _ _).alloc (Nat.le_refl _) _
  have hX1 := (hBX.cell (p := ⟨w.heap.size, 0, none⟩) (by show w.heap.size < _; omega)).trans hgW1
  have hX2 := (hBX.cell (p := ⟨w.heap.size + 1, 0, none⟩) (by show w.heap.size + 1 < _; omega)).trans hgW2
  have hmX := (hBX.cell (p := ⟨0, 0, none⟩) (by show 0 < _; omega)).trans hmW
  have hsX := hBX.size
  have hB2 : Below w.heap.size w X := hBW.trans (hBX.mono (by omega))
  clear hX hBX hgW1 hgW2 hmW
  go_wp2_with fail
  rw [← hX']
  refine (first_any (some ⟨w.heap.size + 2, 0, none⟩) 2 [a, b] X hxi (by simp [maxLen])).mono ?_
  rintro e w4 ⟨rfl, hww⟩
  rw [← hww, HE.out]
  clear hww hX' hxi HE
  by_cases hr0 : r = 0
  · have hx := HX.out hr0
    have HV2 := Lib.hid (show ckV s p = hits s p 26 by rw [HV.out, if_pos hr0])
    subst hr0
    have hcall := numbers_any s p w.heap.size (w.heap.size + 1) m X hX1 hX2 (by omega) (by omega) hmX hx.1
    clear HX HV hx hX1 hX2 hmX
    go_wp2_with fail
    refine hcall.mono ?_
    rintro e w5 ⟨A, c, rfl, hi, hb⟩
    go_wp2
    go_ret2
    exact ⟨A, c, by rw [HV2.out]; rfl, by rw [HV2.out]; exact hi, hB2.trans (hb.mono hB2.size)⟩
  · have HV2 := Lib.hid (show ckV s p = [] by rw [HV.out, if_neg hr0])
    have hr1 : (r != 0) = true := by simpa using hr0
    clear HX HV hX1 hX2 hmX
    go_wp2_with fail
    go_ret2
    exact ⟨none, 0, by rw [HV2.out]; rfl, by rw [HV2.out]; exact fun h => absurd h (by simp), hB2⟩

theorem gt_no {n : Nat} (h : n ≤ 200) : decide ((200 : Int) < (n : Int)) = false ∧ ¬ (200 : Int) < (n : Int) ∧ decide (200 < n) = false ∧ ¬ 200 < n :=
  ⟨decide_eq_false (by omega), by omega, decide_eq_false (by omega), by omega⟩
theorem gt_yes {n : Nat} (h : ¬ n ≤ 200) : decide ((200 : Int) < (n : Int)) = true ∧ (200 : Int) < (n : Int) ∧ decide (200 < n) = true ∧ 200 < n :=
  ⟨decide_eq_true (by omega), by omega, decide_eq_true (by omega), by omega⟩

set_option maxRecDepth 100000 in
set_option maxHeartbeats 1000000 in
theorem rCrack_any (s p : ByteArray) (w : World) (hs : s.size ≤ maxLen) (hp : p.size ≤ maxLen) :
    Calls Try.prog 24 #[.string s, .string p] w fun e w' => ∃ A c, e = .returned (.tuple #[.slice A (ckV s p).length c, I (ckE s p)]) ∧ IntsR w' w'.heap.size A (ckV s p) ∧ Below w.heap.size w w' := by
  unfold maxLen at hs hp
  by_cases h1 : s.size ≤ 200
  · obtain ⟨g1, g2, g3, g4⟩ := gt_no h1
    by_cases h2 : p.size ≤ 200
    · obtain ⟨k1, k2, k3, k4⟩ := gt_no h2
      have HE := Lib.hid (ckE_fine h1 h2)
      go_enter Try.func24, Try.ntmps24
      go_wp2_with fail
      clear g1 g2 g3 g4 k1 k2 k3 k4
      go_loopw [6, 7] (fun v i wr => ∃ k : Nat, k ≤ 26 ∧ i = .int .i64 k ∧ wr.ownsRow w.heap.size 3 1 v (hits s p k).length ((hits s p k).map I) ∧ Below w.heap.size w wr) (fun _ i _ => 26 - (intOf i).toNat)
      case atStart => exact ⟨0, Nat.zero_le _, rfl, World.ownsRow_nil _ _ _ _, Below.refl _ _⟩
      case round =>
        obtain ⟨k, hk, rfl, hown, hB⟩ := hrel
        obtain ⟨v, hv⟩ : ∃ v : Value, v = u6 := ⟨_, rfl⟩
        subst hv
        by_cases hlt : k < 26
        · have g1' : (k : Int) < 26 := by omega
          have hhl := hits_len s p k
          have hsz := sh_size k s
          go_wp2_with fail
          refine (rshift_any k s wr h1).mono ?_
          rintro e w2 ⟨rfl, hb2⟩
          have hB2 : Below w.heap.size w w2 := hB.trans (hb2.mono hB.size)
          have hrow := hown.lt
          have hown2 : w2.ownsRow w.heap.size 3 1 v (hits s p k).length ((hits s p k).map I) := own_grown hown (grown_of_below hb2 (Nat.le_refl _))
          go_wp2_with fail
          refine (rcontains_any ⟨(shS k s).toArray⟩ p w2 (by omega) (by omega)).mono ?_
          rintro e w3 ⟨rfl, hww⟩
          rw [hww]
          clear hww hsz
          cases hq : hasS ⟨(shS k s).toArray⟩ p
          · have HQ := Lib.hid (hits_no hq)
            clear hq
            go_wp2_with fail
            go_roundw
            case rel => exact ⟨k + 1, by omega, by go_num, by rw [HQ.out]; exact hown2, hB2⟩
            case measure => simp [intOf]; omega
          · have HQ := Lib.hid (hits_snoc hq)
            have HL := Lib.hid (show (hits s p (k + 1)).length = (hits s p k).length + 1 by rw [hits_yes hq]; simp)
            obtain ⟨i0, hi, hz0, hz1, hz2⟩ := info_parts info_int
            clear hq
            go_wp2_with (at_builtin; refine wpList_append_own _ rfl _ _ 29 rfl w.heap.size 3 i0 (.int .i64 0) 1 8 Try.underlying29 hi hz0 hz1 hz2 rfl (by decide) v _ _ rfl (hown2.alloc _) ⟨w2.heap.size, 0, none⟩ 1 1 [I k] rfl rfl ?c1 ?c2 ?c3 ?c4 ?c5 ?_)
            case c1 =>
              intro j u hj
              match j, hj with
              | 0, hj => simp at hj; subst hj; simp [Addr.add]
            case c2 => intro u hu; simp at hu; subst hu; rfl
            case c3 => unfold maxLen; omega
            case c4 => omega
            case c5 => have := hB2.size; simp; omega
            intro v' w4 hown' hgrow _
            have hown4 := hown'
            rw [HQ.out, ← HL.out] at hown4
            have hB4 : Below w.heap.size w w4 := (hB2.alloc hB2.size _).grown hgrow (by have := hB2.size; simp; omega) (fun j hj => (hrow j hj).1)
            clear hown' hgrow hown hown2 hrow
            go_wp2
            go_roundw
            case rel => exact ⟨k + 1, by omega, by go_num, hown4, hB4⟩
            case measure => simp [intOf]; omega
        · obtain rfl : k = 26 := by omega
          obtain ⟨A, c, rfl, hi, -⟩ := own_ints hown
          clear hown
          go_wp2_with fail
          go_ret2
          exact ⟨A, c, by rw [HE.out.1, HE.out.2]; rfl, by rw [HE.out.2]; exact hi, hB⟩
    · obtain ⟨k1, k2, k3, k4⟩ := gt_yes h2
      have HE := Lib.hid (ckE_many (s := s) (p := p) (fun h => h2 h.2))
      go_enter Try.func24, Try.ntmps24
      go_wp2_with fail
      go_ret2
      exact ⟨none, ⟨0, by rw [HE.out.1, HE.out.2]; rfl⟩, by rw [HE.out.2]; exact fun h => absurd h (by simp), Below.refl _ _⟩
  · obtain ⟨g1, g2, g3, g4⟩ := gt_yes h1
    have HE := Lib.hid (ckE_many (s := s) (p := p) (fun h => h1 h.1))
    go_enter Try.func24, Try.ntmps24
    go_wp2_with fail
    go_ret2
    exact ⟨none, 0, by rw [HE.out.1, HE.out.2]; rfl, by rw [HE.out.2]; exact fun h => absurd h (by simp), Below.refl _ _⟩
end Go.Proofs.Yteeppkhlnejfkaa
