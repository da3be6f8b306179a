/-
  CONTRACT of the document's own answer padlockref01.worst.
-/
import Derived.Test.YthegmomjfbcabaaDoorNxtPure
namespace Go.Proofs.YthegmomjfbcabaaDoor
open Go.RowKit
theorem beq_of {a b : Nat} {p : Bool} (h : decide (a = b) = p) : ((a : Int) == (b : Int)) = p := by
  rw [beq_dec, ← h]
  exact decide_eq_decide.2 (by omega)

set_option maxRecDepth 100000 in
set_option maxHeartbeats 2000000 in
theorem rworst_any (W : Nat) (hW4 : W ≤ 4) (L : List (List Int)) (hS : ∀ x, x ∈ L → Sym x W) (hL : ∀ x, x ∈ L → x.length = W) (hn : L.length ≤ 200) (y : List Int) (hy : y.length = W) (A A2 : Option Addr) (c k2 : Nat) (w : World)
    (hr : SlsR w w.heap.size A L) (hyr : IntsR w w.heap.size A2 y) :
    Calls Tryd.prog 96 #[.slice A L.length c, .slice A2 y.length k2] w fun e w' => e = .returned (I (mst (anN W y) L : Nat)) ∧ Below w.heap.size w w' := by
  have HY := Lib.hid hy
  clear hy
  go_enter Tryd.func96, Tryd.ntmps96
  go_wp2_with fail
  go_loopw [5, 6] (fun ms i wr => ∃ k : Nat, k ≤ L.length ∧ i = .int .i64 k ∧ ms = I (mstT (anN W y) L k : Nat) ∧ Below w.heap.size w wr) (fun _ i _ => L.length - (intOf i).toNat)
  case atStart => exact ⟨0, Nat.zero_le _, rfl, rfl, Below.refl _ _⟩
  case round =>
    obtain ⟨k, hk, rfl, rfl, hB⟩ := hrel
    obtain ⟨w1, hw1⟩ : ∃ w1 : World, w1 = wr := ⟨_, rfl⟩
    subst hw1
    by_cases hlt : k < L.length
    · obtain ⟨a1, rfl, hb1, hc1⟩ := (sls_call hB hr) (by omega)
      obtain ⟨B1, c1, d1, i1, m1⟩ := hc1 k hlt
      have hmx := mstT_succ (anN W y) L hlt
      have hxS := hS _ (List.getElem_mem hlt)
      have hxL := hL _ (List.getElem_mem hlt)
      generalize hx : L[k] = x at *
      obtain ⟨r, m, e1, e2, hrm, e3⟩ := an_parts hW4 (g := y) hxS
      rw [e3] at hmx
      have HMX := Lib.hid hmx
      have HE := Lib.hid (And.intro e1 e2)
      have HXL := Lib.hid hxL
      have y1 := ints_call hB hyr
      obtain ⟨p, hp⟩ : ∃ p, p = mstT (anN W y) L k := ⟨_, rfl⟩
      have hp2 : p ≤ 200 := by have := mstT_le (anN W y) L k; omega
      rw [← hp]
      have HP := Lib.hid hp
      have p1 : (a1.add k).block < w1.heap.size := by rw [block_of_add]; exact hb1
      clear hx hmx e1 e2 e3 hxL hp hc1 hxS
      go_wp2_with fail
      refine (ranswer_any B1 A2 c1 k2 x y w1 i1 y1 (by rw [HXL.out]; exact hW4) (by rw [HXL.out]; exact HY.out)).mono ?_
      rintro e w2 ⟨rfl, hb2⟩
      rw [HXL.out, HE.out.2, HE.out.1]
      have hB2 := hB.trans (hb2.mono hB.size)
      clear d1 i1 y1
      go_wp2_with fail
      go_loopw [9, 10] (fun sm i wr => ∃ j : Nat, j ≤ L.length ∧ i = .int .i64 j ∧ sm = I (cntF (anN W y) (r * 5 + m) (L.take j) : Nat) ∧ Below w.heap.size w wr) (fun _ i _ => L.length - (intOf i).toNat)
      case atStart => exact ⟨0, Nat.zero_le _, rfl, rfl, hB2⟩
      case round =>
        obtain ⟨j, hj, rfl, rfl, hB3⟩ := hrel
        by_cases hjl : j < L.length
        · obtain ⟨a2, e0, hb3, hc3⟩ := (sls_call hB3 hr) (by omega)
          obtain rfl : a2 = a1 := by injection e0 with e0; exact e0.symm
          obtain ⟨B3, c3, d3, i3, m3⟩ := hc3 j hjl
          have hsn : L.take (j + 1) = L.take j ++ [L[j]] := List.take_succ_eq_append_getElem hjl
          have hxS := hS _ (List.getElem_mem hjl)
          have hxL := hL _ (List.getElem_mem hjl)
          have hcl := cntF_le (anN W y) (r * 5 + m) (L.take j)
          rw [List.length_take] at hcl
          generalize hx : L[j] = z at *
          obtain ⟨r', m', e1, e2, hrm', e3⟩ := an_parts hW4 (g := y) hxS
          obtain ⟨q, hq⟩ : ∃ q, q = cntF (anN W y) (r * 5 + m) (L.take j) := ⟨_, rfl⟩
          have hq2 : q ≤ 200 := by omega
          have hq3 : cntF (anN W y) (r * 5 + m) (L.take (j + 1)) = q + if r' * 5 + m' = r * 5 + m then 1 else 0 := by rw [hsn, cntF_snoc, e3, hq]
          have HE3 := Lib.hid (And.intro e1 e2)
          have HXL3 := Lib.hid hxL
          have HQ3 := Lib.hid hq3
          rw [← hq]
          have y3 := ints_call hB3 hyr
          clear hx hsn hxS hxL hcl e1 e2 e3 hq hq3 hc3 e0
          go_wp2_with fail
          refine (ranswer_any B3 A2 c3 k2 z y wr i3 y3 (by rw [HXL3.out]; exact hW4) (by rw [HXL3.out]; exact HY.out)).mono ?_
          rintro e w4 ⟨rfl, hb4⟩
          rw [HXL3.out, HE3.out.2, HE3.out.1]
          have hB4 := hB3.trans (hb4.mono hB3.size)
          clear d3 i3 y3
          by_cases h1 : r' = r
          · have g1 : ((r' : Int) == (r : Int)) = true := beq_of (decide_eq_true h1)
            by_cases h2 : m' = m
            · have g2 : ((m' : Int) == (m : Int)) = true := beq_of (decide_eq_true h2)
              have hq4 : cntF (anN W y) (r * 5 + m) (L.take (j + 1)) = q + 1 := by rw [HQ3.out, if_pos (by rw [h1, h2])]
              have HQ4 := Lib.hid hq4
              clear h1 h2 hq4
              go_wp2_with fail
              go_roundw
              case rel => exact ⟨j + 1, by omega, by go_num, by rw [HQ4.out]; simp, hB4⟩
              case measure => simp [intOf]; omega
            · have g2 : ((m' : Int) == (m : Int)) = false := beq_of (decide_eq_false h2)
              have hq4 : cntF (anN W y) (r * 5 + m) (L.take (j + 1)) = q := by rw [HQ3.out, if_neg (by omega)]; rfl
              have HQ4 := Lib.hid hq4
              clear h1 h2 hq4
              go_wp2_with fail
              go_roundw
              case rel => exact ⟨j + 1, by omega, by go_num, by rw [HQ4.out], hB4⟩
              case measure => simp [intOf]; omega
          · have g1 : ((r' : Int) == (r : Int)) = false := beq_of (decide_eq_false h1)
            have hq4 : cntF (anN W y) (r * 5 + m) (L.take (j + 1)) = q := by rw [HQ3.out, if_neg (by omega)]; rfl
            have HQ4 := Lib.hid hq4
            clear h1 hq4
            go_wp2_with fail
            go_roundw
            case rel => exact ⟨j + 1, by omega, by go_num, by rw [HQ4.out], hB4⟩
            case measure => simp [intOf]; omega
        · obtain rfl : j = L.length := by omega
          rw [List.take_length]
          obtain ⟨q, hq⟩ : ∃ q, q = cntF (anN W y) (r * 5 + m) L := ⟨_, rfl⟩
          have hq2 : q ≤ 200 := by have := cntF_le (anN W y) (r * 5 + m) L; omega
          have hmx := HMX.out
          rw [← HP.out, ← hq] at hmx
          rw [← hq]
          have HM2 := Lib.hid hmx
          clear hq hmx
          by_cases hpq : (p : Int) < (q : Int)
          · have e1 : max p q = q := by omega
            have E1 := Lib.hid e1
            clear e1
            go_wp2_with fail
            go_roundw
            case rel => exact ⟨k + 1, by omega, by go_num, by rw [HM2.out, E1.out], hB3⟩
            case measure => simp [intOf]; omega
          · have e1 : max p q = p := by omega
            have E1 := Lib.hid e1
            clear e1
            go_wp2_with fail
            go_roundw
            case rel => exact ⟨k + 1, by omega, by go_num, by rw [HM2.out, E1.out], hB3⟩
            case measure => simp [intOf]; omega
    · obtain rfl : k = L.length := by omega
      rw [mstT_all]
      go_wp2
      go_ret
      exact ⟨rfl, hB⟩
end Go.Proofs.YthegmomjfbcabaaDoor
