/-
  CONTRACTS: Plumb, Plumbings.
-/
import Derived.Test.YtglkjiimmlobbaaPzPlb
namespace Go.Proofs.Ytglkjiimmlobbaa
open Go.RowKit Go.Shelf
noncomputable def plL (W H fr tt : Int) (ps : List Int) : List (List Int) := plbL W.toNat H.toNat ps.length fr.toNat tt.toNat ps
noncomputable def plmE (W H fr tt : Int) (ps : List Int) : Int := if pipB W H fr tt ps = true then (if 0 < (plL W H fr tt ps).length then 0 else 3) else 30
noncomputable def plmL (W H fr tt : Int) (ps : List Int) : List Int := if pipB W H fr tt ps = true then cheap sumL (plL W H fr tt ps) else []
noncomputable def plmN (W H fr tt : Int) (ps : List Int) : Nat := if pipB W H fr tt ps = true then (plL W H fr tt ps).length else 0
def plmF (W H fr tt : Int) (ps : List Int) : Int := if pipB W H fr tt ps = true then 0 else 30
theorem plb_each {W H N fr tt : Nat} {ps : List Int} : ∀ x ∈ plbL W H N fr tt ps, x.length = N := by
  intro x hx
  obtain ⟨k, -, rfl⟩ := List.mem_map.1 (List.mem_filter.1 hx).1
  exact dig_length _ _ _
theorem plb_nums {W H N fr tt : Nat} {ps : List Int} : ∀ x ∈ plbL W H N fr tt ps, Nums 3 x := by
  intro x hx
  obtain ⟨k, -, rfl⟩ := List.mem_map.1 (List.mem_filter.1 hx).1
  exact turns_nums _ _
theorem plb_most {W H N fr tt : Nat} {ps : List Int} (h : N ≤ 9) : (plbL W H N fr tt ps).length ≤ 1000000 := by
  refine Nat.le_trans (List.length_filter_le _ _) ?_
  rw [allT_length]
  exact Nat.le_trans (Nat.pow_le_pow_right (by omega) h) (by decide)
theorem pl_eq {a b f t N : Nat} {ps : List Int} (h : ps.length = N) : plL a b f t ps = plbL a b N f t ps := by
  rw [plL, h]; rfl

set_option maxRecDepth 100000 in
set_option maxHeartbeats 2000000 in
theorem Plumb_any (W H fr tt : Int) (A : Option Addr) (c : Nat) (ps : List Int) (w : World) (hx : IntsR w w.heap.size A ps) (hl : ps.length ≤ maxLen) :
    Calls Try.prog 36 #[.agg #[I W, I H, .slice A ps.length c, I fr, I tt]] w fun e w' => ∃ A' c', e = .returned (.tuple #[.slice A' (plmL W H fr tt ps).length c', I (plmE W H fr tt ps)]) ∧ IntsR w' w'.heap.size A' (plmL W H fr tt ps) ∧ (plmL W H fr tt ps).length ≤ maxLen ∧ Below w.heap.size w w' := by
  obtain ⟨wa, ha, sa, ya, ba⟩ := one_box w (.cells #[I W, I H, .slice A ps.length c, I fr, I tt] 43)
  have f0 : wa.cell? ⟨w.heap.size, 0, none⟩ = some (I W) := cell_of_row wa _ 0 _ _ _ ya
  have f1 : wa.cell? ⟨w.heap.size, 1, none⟩ = some (I H) := cell_of_row wa _ 1 _ _ _ ya
  have f2 : wa.cell? ⟨w.heap.size, 2, none⟩ = some (.slice A ps.length c) := cell_of_row wa _ 2 _ _ _ ya
  have f3 : wa.cell? ⟨w.heap.size, 3, none⟩ = some (I fr) := cell_of_row wa _ 3 _ _ _ ya
  have f4 : wa.cell? ⟨w.heap.size, 4, none⟩ = some (I tt) := cell_of_row wa _ 4 _ _ _ ya
  have HX := Lib.hid (ints_call ba hx)
  clear ya hx
  go_enter Try.func36, Try.ntmps36
  go_upto_region 1 with fail
  rw [← ha]
  clear ha
  go_wp2_with fail
  refine (pipesOf_any W H fr tt A ps.length c wa).mono ?_
  rintro e w2 ⟨rfl, hb2⟩
  go_upto_region 2 with fail
  obtain ⟨w3, hw3, hs3, r3, hb3⟩ := one_box w2 (.cells #[I W, I H, I fr, I tt, .slice A ps.length c] 103)
  rw [← hw3]
  have hx3 := ints_call hb3 (ints_call hb2 HX.out)
  have hB3 : Below w.heap.size w w3 := ba.trans ((hb2.mono (by omega)).trans (hb3.mono (by have := hb2.size; omega)))
  obtain ⟨g, hg⟩ : ∃ g, g = w2.heap.size := ⟨_, rfl⟩
  rw [← hg] at r3 hs3
  rw [← hg]
  have hgs : g < w3.heap.size := by omega
  have p0 : w3.cell? ⟨g, 0, none⟩ = some (I W) := cell_of_row w3 _ 0 _ _ _ r3
  have p1 : w3.cell? ⟨g, 1, none⟩ = some (I H) := cell_of_row w3 _ 1 _ _ _ r3
  have p2 : w3.cell? ⟨g, 2, none⟩ = some (I fr) := cell_of_row w3 _ 2 _ _ _ r3
  have p3 : w3.cell? ⟨g, 3, none⟩ = some (I tt) := cell_of_row w3 _ 3 _ _ _ r3
  have p4 : w3.cell? ⟨g, 4, none⟩ = some (.slice A ps.length c) := cell_of_row w3 _ 4 _ _ _ r3
  have R3 := Lib.hid r3
  clear hw3 hs3 r3 hb3 hb2 hg f0 f1 f2 f3 f4 ba sa HX
  go_wp2_with fail
  refine (pcheck_any W H fr tt A c ps w3 hx3 hl).mono ?_
  rintro e w4 ⟨rfl, hb4⟩
  have hx4 := ints_call hb4 hx3
  have hB4 : Below w.heap.size w w4 := hB3.trans (hb4.mono hB3.size)
  have r4 := (hb4.block _ hgs).trans R3.out
  have p0 : w4.cell? ⟨g, 0, none⟩ = some (I W) := cell_of_row w4 _ 0 _ _ _ r4
  have p1 : w4.cell? ⟨g, 1, none⟩ = some (I H) := cell_of_row w4 _ 1 _ _ _ r4
  have p2 : w4.cell? ⟨g, 2, none⟩ = some (I fr) := cell_of_row w4 _ 2 _ _ _ r4
  have p3 : w4.cell? ⟨g, 3, none⟩ = some (I tt) := cell_of_row w4 _ 3 _ _ _ r4
  have p4 : w4.cell? ⟨g, 4, none⟩ = some (.slice A ps.length c) := cell_of_row w4 _ 4 _ _ _ r4
  clear r4 hb4 hx3 R3
  cases hv : pipB W H fr tt ps
  · have HE := Lib.hid (show plmE W H fr tt ps = 30 by rw [plmE, hv]; rfl)
    have HL := Lib.hid (show plmL W H fr tt ps = [] by rw [plmL, hv]; rfl)
    clear hv
    go_wp2
    go_ret2
    exact ⟨none, 0, by rw [HE.out, HL.out]; rfl, by rw [HL.out]; exact IntsR.nil, by rw [HL.out]; exact Nat.zero_le _, hB4⟩
  · have HV := Lib.hid (pip_facts hv)
    have HE := Lib.hid (show plmE W H fr tt ps = if 0 < (plL W H fr tt ps).length then 0 else 3 by rw [plmE, hv]; rfl)
    have HL := Lib.hid (show plmL W H fr tt ps = cheap sumL (plL W H fr tt ps) by rw [plmL, hv]; rfl)
    have hcall : Calls Try.prog 88 #[.func (.func 101) #[pipesI W H fr tt A ps.length c] #[], .func (.func 102) #[] #[]] w4 fun e w' => ∃ A' c', e = .returned (.tuple #[.slice A' (cheap sumL (plL W H fr tt ps)).length c', .bool (decide (0 < (plL W H fr tt ps).length))]) ∧ IntsR w' w'.heap.size A' (cheap sumL (plL W H fr tt ps)) ∧ (cheap sumL (plL W H fr tt ps)).length ≤ maxLen ∧ Below w4.heap.size w4 w' := by
      obtain ⟨a, b, f, t, rfl, rfl, rfl, rfl, k1, k2, k3, k4, k5, k6, k7, k8, k9⟩ := HV.out
      rw [pl_eq rfl]
      exact cheapest_sum (gf := 101) (fa := #[pipesI a b f t A ps.length c]) (lb := #[]) (enters_of Try.func101 (by kernel_rfl) rfl) (n := ps.length) (xs := plbL a b ps.length f t ps) plb_each plb_nums (by omega) 9 10 (by omega) (G := fun V => IntsR V w4.heap.size A ps) w4 (plb_most (by omega))
        (fun W hW => plumbings_iter a b ps.length f t A c ps k1 k2 k4 (Lib.hid k8) (by omega) (by omega) (by omega) (Lib.hid rfl) (Lib.hid k9) 19 w4.heap.size (by omega) W hW) (fun V hV => hx4.below hV (Nat.le_refl _))
    obtain ⟨b, hb⟩ : ∃ b, b = cheap sumL (plL W H fr tt ps) := ⟨_, rfl⟩
    obtain ⟨q, hq⟩ : ∃ q, q = decide (0 < (plL W H fr tt ps).length) := ⟨_, rfl⟩
    rw [← hb, ← hq] at hcall
    have HB := Lib.hid hb
    have HQ := Lib.hid hq
    clear hv hb hq HV
    go_wp2_with fail
    refine hcall.mono ?_
    rintro e w5 ⟨A3, c3, rfl, hi, hm, hb3⟩
    have hB5 : Below w.heap.size w w5 := hB4.trans (hb3.mono hB4.size)
    clear hb3 hB4 hcall p0 p1 p2 p3 p4 hx4
    cases q
    · have HE2 := Lib.hid (show plmE W H fr tt ps = 3 by rw [HE.out, if_neg (fun h => by have := HQ.out; rw [decide_eq_true h] at this; cases this)])
      go_wp2_with fail
      refine (unless_any _ _ _).mono ?_
      rintro e w' ⟨rfl, rfl⟩
      go_wp2
      go_ret2
      exact ⟨A3, c3, by rw [HE2.out, HL.out, ← HB.out]; rfl, by rw [HL.out, ← HB.out]; exact hi, by rw [HL.out, ← HB.out]; exact hm, hB5⟩
    · have HE2 := Lib.hid (show plmE W H fr tt ps = 0 by rw [HE.out, if_pos (of_decide_eq_true HQ.out.symm)])
      go_wp2_with fail
      refine (unless_any _ _ _).mono ?_
      rintro e w' ⟨rfl, rfl⟩
      go_wp2
      go_ret2
      exact ⟨A3, c3, by rw [HE2.out, HL.out, ← HB.out]; rfl, by rw [HL.out, ← HB.out]; exact hi, by rw [HL.out, ← HB.out]; exact hm, hB5⟩

set_option maxRecDepth 100000 in
set_option maxHeartbeats 2000000 in
theorem Plumbings_any (W H fr tt : Int) (A : Option Addr) (c : Nat) (ps : List Int) (w : World) (hx : IntsR w w.heap.size A ps) (hl : ps.length ≤ maxLen) :
    Calls Try.prog 38 #[.agg #[I W, I H, .slice A ps.length c, I fr, I tt]] w fun e w' => e = .returned (.tuple #[I (plmN W H fr tt ps : Nat), I (plmF W H fr tt ps)]) ∧ Below w.heap.size w w' := by
  obtain ⟨wa, ha, sa, ya, ba⟩ := one_box w (.cells #[I W, I H, .slice A ps.length c, I fr, I tt] 43)
  have f0 : wa.cell? ⟨w.heap.size, 0, none⟩ = some (I W) := cell_of_row wa _ 0 _ _ _ ya
  have f1 : wa.cell? ⟨w.heap.size, 1, none⟩ = some (I H) := cell_of_row wa _ 1 _ _ _ ya
  have f2 : wa.cell? ⟨w.heap.size, 2, none⟩ = some (.slice A ps.length c) := cell_of_row wa _ 2 _ _ _ ya
  have f3 : wa.cell? ⟨w.heap.size, 3, none⟩ = some (I fr) := cell_of_row wa _ 3 _ _ _ ya
  have f4 : wa.cell? ⟨w.heap.size, 4, none⟩ = some (I tt) := cell_of_row wa _ 4 _ _ _ ya
  have HX := Lib.hid (ints_call ba hx)
  clear ya hx
  go_enter Try.func38, Try.ntmps38
  go_upto_region 1 with fail
  rw [← ha]
  clear ha
  go_wp2_with fail
  refine (pipesOf_any W H fr tt A ps.length c wa).mono ?_
  rintro e w2 ⟨rfl, hb2⟩
  go_upto_region 2 with fail
  obtain ⟨w3, hw3, hs3, r3, hb3⟩ := one_box w2 (.cells #[I W, I H, I fr, I tt, .slice A ps.length c] 103)
  rw [← hw3]
  have hx3 := ints_call hb3 (ints_call hb2 HX.out)
  have hB3 : Below w.heap.size w w3 := ba.trans ((hb2.mono (by omega)).trans (hb3.mono (by have := hb2.size; omega)))
  obtain ⟨g, hg⟩ : ∃ g, g = w2.heap.size := ⟨_, rfl⟩
  rw [← hg] at r3 hs3
  rw [← hg]
  have hgs : g < w3.heap.size := by omega
  have p0 : w3.cell? ⟨g, 0, none⟩ = some (I W) := cell_of_row w3 _ 0 _ _ _ r3
  have p1 : w3.cell? ⟨g, 1, none⟩ = some (I H) := cell_of_row w3 _ 1 _ _ _ r3
  have p2 : w3.cell? ⟨g, 2, none⟩ = some (I fr) := cell_of_row w3 _ 2 _ _ _ r3
  have p3 : w3.cell? ⟨g, 3, none⟩ = some (I tt) := cell_of_row w3 _ 3 _ _ _ r3
  have p4 : w3.cell? ⟨g, 4, none⟩ = some (.slice A ps.length c) := cell_of_row w3 _ 4 _ _ _ r3
  have R3 := Lib.hid r3
  clear hw3 hs3 r3 hb3 hb2 hg f0 f1 f2 f3 f4 ba sa HX
  go_wp2_with fail
  refine (pcheck_any W H fr tt A c ps w3 hx3 hl).mono ?_
  rintro e w4 ⟨rfl, hb4⟩
  have hx4 := ints_call hb4 hx3
  have hB4 : Below w.heap.size w w4 := hB3.trans (hb4.mono hB3.size)
  have r4 := (hb4.block _ hgs).trans R3.out
  have p0 : w4.cell? ⟨g, 0, none⟩ = some (I W) := cell_of_row w4 _ 0 _ _ _ r4
  have p1 : w4.cell? ⟨g, 1, none⟩ = some (I H) := cell_of_row w4 _ 1 _ _ _ r4
  have p2 : w4.cell? ⟨g, 2, none⟩ = some (I fr) := cell_of_row w4 _ 2 _ _ _ r4
  have p3 : w4.cell? ⟨g, 3, none⟩ = some (I tt) := cell_of_row w4 _ 3 _ _ _ r4
  have p4 : w4.cell? ⟨g, 4, none⟩ = some (.slice A ps.length c) := cell_of_row w4 _ 4 _ _ _ r4
  clear r4 hb4 hx3 R3
  cases hv : pipB W H fr tt ps
  · have HE := Lib.hid (show plmF W H fr tt ps = 30 by rw [plmF, hv]; rfl)
    have HL := Lib.hid (show plmN W H fr tt ps = 0 by rw [plmN, hv]; rfl)
    clear hv
    go_wp2
    go_ret2
    exact ⟨by rw [HE.out, HL.out]; rfl, hB4⟩
  · have HV := Lib.hid (pip_facts hv)
    have HE := Lib.hid (show plmF W H fr tt ps = 0 by rw [plmF, hv]; rfl)
    have HL := Lib.hid (show plmN W H fr tt ps = (plL W H fr tt ps).length by rw [plmN, hv]; rfl)
    have hcall : Calls Try.prog 92 #[.func (.func 101) #[pipesI W H fr tt A ps.length c] #[]] w4 fun e w' => e = .returned (I ((plL W H fr tt ps).length : Nat)) ∧ Below w4.heap.size w4 w' := by
      obtain ⟨a, b, f, t, rfl, rfl, rfl, rfl, k1, k2, k3, k4, k5, k6, k7, k8, k9⟩ := HV.out
      rw [pl_eq rfl]
      exact count_any (gf := 101) (fa := #[pipesI a b f t A ps.length c]) (lb := #[]) (enters_of Try.func101 (by kernel_rfl) rfl) (m := (plbL a b ps.length f t ps).length) (E := fun s => lstE (s + 9) ps.length (plbL a b ps.length f t ps)) (G := fun V => IntsR V w4.heap.size A ps) 10 w4 (plb_most (by omega))
        (fun W hW => plumbings_iter a b ps.length f t A c ps k1 k2 k4 (Lib.hid k8) (by omega) (by omega) (by omega) (Lib.hid rfl) (Lib.hid k9) 19 w4.heap.size (by omega) W hW) (fun V hV => hx4.below hV (Nat.le_refl _))
    obtain ⟨b, hb⟩ : ∃ b, b = (plL W H fr tt ps).length := ⟨_, rfl⟩
    rw [← hb] at hcall
    have HB := Lib.hid hb
    clear hv hb HV
    go_wp2_with fail
    refine hcall.mono ?_
    rintro e w5 ⟨rfl, hb3⟩
    have hB5 : Below w.heap.size w w5 := hB4.trans (hb3.mono hB4.size)
    clear hb3 hB4 hcall p0 p1 p2 p3 p4 hx4
    go_wp2
    go_ret2
    exact ⟨by rw [HE.out, HL.out, ← HB.out]; rfl, hB5⟩
end Go.Proofs.Ytglkjiimmlobbaa
