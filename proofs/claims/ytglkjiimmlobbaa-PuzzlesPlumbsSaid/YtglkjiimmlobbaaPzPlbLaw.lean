/-
  CONTRACTS: the document's own Plumb, Plumbings; the law PuzzlesPlumbs.
-/
import Derived.Test.YtglkjiimmlobbaaPzRPlb
import Derived.Test.YtglkjiimmlobbaaPzSame
import Derived.Test.YtglkjiimmlobbaaPzWorks
import Derived.Test.YtglkjiimmlobbaaPzWeiLaw
namespace Go.Proofs.Ytglkjiimmlobbaa
open Go.RowKit Go.Shelf
theorem rplumbings_i (W H fr tt : Int) (A : Option Addr) (c : Nat) (ps : List Int) (w : World) (hx : IntsR w w.heap.size A ps) (hv : pipB W H fr tt ps = true) :
    Calls Try.prog 103 #[.agg #[I W, I H, .slice A ps.length c, I fr, I tt]] w fun e w' => ∃ A' c', e = .returned (.tuple #[I ((plL W H fr tt ps).length : Nat), .slice A' (cheap sumL (plL W H fr tt ps)).length c']) ∧ IntsR w' w'.heap.size A' (cheap sumL (plL W H fr tt ps)) ∧ Below w.heap.size w w' := by
  obtain ⟨a, b, f, t, rfl, rfl, rfl, rfl, k1, k2, k3, k4, k5, k6, k7, k8, k9⟩ := pip_facts hv
  rw [pl_eq rfl]
  exact rplumbings_any a b ps.length f t A c ps w hx k1 k2 k4 (Lib.hid k8) (by omega) (by omega) (by omega) (Lib.hid rfl) (Lib.hid k9)
theorem plm_len (W H fr tt : Int) (ps : List Int) : (cheap sumL (plL W H fr tt ps)).length ≤ ps.length := by
  by_cases h : 0 < (plL W H fr tt ps).length
  · exact Nat.le_of_eq (plb_each _ (cheap_mem h))
  · have : plL W H fr tt ps = [] := List.eq_nil_of_length_eq_zero (by omega)
    rw [this]; exact Nat.zero_le _

set_option maxRecDepth 100000 in
set_option maxHeartbeats 2000000 in
theorem rPlumb_any (W H fr tt : Int) (A : Option Addr) (c : Nat) (ps : List Int) (w : World) (hx : IntsR w w.heap.size A ps) (hl : ps.length ≤ maxLen) :
    Calls Try.prog 37 #[.agg #[I W, I H, .slice A ps.length c, I fr, I tt]] w fun e w' => ∃ A' c', e = .returned (.tuple #[.slice A' (plmL W H fr tt ps).length c', I (plmE W H fr tt ps)]) ∧ IntsR w' w'.heap.size A' (plmL W H fr tt ps) ∧ (plmL W H fr tt ps).length ≤ maxLen ∧ Below w.heap.size w w' := by
  obtain ⟨wa, ha, sa, ya, ba⟩ := one_box w (.cells #[I W, I H, .slice A ps.length c, I fr, I tt] 43)
  have f0 : wa.cell? ⟨w.heap.size, 0, none⟩ = some (I W) := cell_of_row wa _ 0 _ _ _ ya
  have f1 : wa.cell? ⟨w.heap.size, 1, none⟩ = some (I H) := cell_of_row wa _ 1 _ _ _ ya
  have f2 : wa.cell? ⟨w.heap.size, 2, none⟩ = some (.slice A ps.length c) := cell_of_row wa _ 2 _ _ _ ya
  have f3 : wa.cell? ⟨w.heap.size, 3, none⟩ = some (I fr) := cell_of_row wa _ 3 _ _ _ ya
  have f4 : wa.cell? ⟨w.heap.size, 4, none⟩ = some (I tt) := cell_of_row wa _ 4 _ _ _ ya
  have hx1 := ints_call ba hx
  have YA := Lib.hid ya
  have hsw : w.heap.size < wa.heap.size := by omega
  clear ya hx sa
  go_enter Try.func37, Try.ntmps37
  go_upto_region 1 with fail
  rw [← ha]
  clear ha
  go_wp2_with fail
  refine (checkPipes_any W H fr tt A c ps wa hx1 hl).mono ?_
  rintro e w4 ⟨rfl, hb4⟩
  have hx4 := ints_call hb4 hx1
  have hB4 : Below w.heap.size w w4 := ba.trans (hb4.mono ba.size)
  have r4 := (hb4.block _ hsw).trans YA.out
  have p0 : w4.cell? ⟨w.heap.size, 0, none⟩ = some (I W) := cell_of_row w4 _ 0 _ _ _ r4
  have p1 : w4.cell? ⟨w.heap.size, 1, none⟩ = some (I H) := cell_of_row w4 _ 1 _ _ _ r4
  have p2 : w4.cell? ⟨w.heap.size, 2, none⟩ = some (.slice A ps.length c) := cell_of_row w4 _ 2 _ _ _ r4
  have p3 : w4.cell? ⟨w.heap.size, 3, none⟩ = some (I fr) := cell_of_row w4 _ 3 _ _ _ r4
  have p4 : w4.cell? ⟨w.heap.size, 4, none⟩ = some (I tt) := cell_of_row w4 _ 4 _ _ _ r4
  clear r4 hb4 hx1 YA f0 f1 f2 f3 f4
  cases hv : pipB W H fr tt ps
  · have HE := Lib.hid (show plmE W H fr tt ps = 30 by rw [plmE, hv]; rfl)
    have HL := Lib.hid (show plmL W H fr tt ps = [] by rw [plmL, hv]; rfl)
    clear hv
    go_wp2
    go_ret2
    exact ⟨none, 0, by rw [HE.out, HL.out]; rfl, by rw [HL.out]; exact IntsR.nil, by rw [HL.out]; exact Nat.zero_le _, hB4⟩
  · have HE := Lib.hid (show plmE W H fr tt ps = if 0 < (plL W H fr tt ps).length then 0 else 3 by rw [plmE, hv]; rfl)
    have HL := Lib.hid (show plmL W H fr tt ps = cheap sumL (plL W H fr tt ps) by rw [plmL, hv]; rfl)
    have hcall := rplumbings_i W H fr tt A c ps w4 hx4 hv
    have hm := Nat.le_trans (plm_len W H fr tt ps) hl
    have HNI := Lib.hid (fun h : (plL W H fr tt ps).length = 0 => show cheap sumL (plL W H fr tt ps) = [] by rw [List.eq_nil_of_length_eq_zero h]; rfl)
    obtain ⟨b, hb⟩ : ∃ b, b = cheap sumL (plL W H fr tt ps) := ⟨_, rfl⟩
    obtain ⟨q, hq⟩ : ∃ q, q = (plL W H fr tt ps).length := ⟨_, rfl⟩
    rw [← hb, ← hq] at hcall
    rw [← hb] at hm
    rw [← hb, ← hq] at HNI
    have HB := Lib.hid hb
    have HQ := Lib.hid hq
    clear hv hb hq
    go_wp2_with fail
    refine hcall.mono ?_
    rintro e w5 ⟨A3, c3, rfl, hi, hb3⟩
    have hB5 : Below w.heap.size w w5 := hB4.trans (hb3.mono hB4.size)
    have HI := Lib.hid hi
    have HM := Lib.hid hm
    clear hb3 hB4 hcall p0 p1 p2 p3 p4 hx4 hi hm
    by_cases hq0 : q = 0
    · have HE2 := Lib.hid (show plmE W H fr tt ps = 3 by rw [HE.out, if_neg (by rw [← HQ.out]; omega)])
      have HN := Lib.hid (HNI.out hq0)
      subst hq0
      go_wp2
      go_ret2
      exact ⟨none, 0, by rw [HE2.out, HL.out, ← HB.out, HN.out]; rfl, by rw [HL.out, ← HB.out, HN.out]; exact IntsR.nil, by rw [HL.out, ← HB.out]; exact HM.out, hB5⟩
    · have HE2 := Lib.hid (show plmE W H fr tt ps = 0 by rw [HE.out, if_pos (by rw [← HQ.out]; omega)])
      have g1 : ((q : Int) == 0) = false := by simp; exact hq0
      have g2 : (q == 0) = false := by simp; exact hq0
      clear hq0
      go_wp2
      go_ret2
      exact ⟨A3, c3, by rw [HE2.out, HL.out, ← HB.out]; rfl, by rw [HL.out, ← HB.out]; exact HI.out, by rw [HL.out, ← HB.out]; exact HM.out, hB5⟩

set_option maxRecDepth 100000 in
set_option maxHeartbeats 2000000 in
theorem rPlumbings_any (W H fr tt : Int) (A : Option Addr) (c : Nat) (ps : List Int) (w : World) (hx : IntsR w w.heap.size A ps) (hl : ps.length ≤ maxLen) :
    Calls Try.prog 39 #[.agg #[I W, I H, .slice A ps.length c, I fr, I tt]] w fun e w' => e = .returned (.tuple #[I (plmN W H fr tt ps : Nat), I (plmF W H fr tt ps)]) ∧ Below w.heap.size w w' := by
  obtain ⟨wa, ha, sa, ya, ba⟩ := one_box w (.cells #[I W, I H, .slice A ps.length c, I fr, I tt] 43)
  have f0 : wa.cell? ⟨w.heap.size, 0, none⟩ = some (I W) := cell_of_row wa _ 0 _ _ _ ya
  have f1 : wa.cell? ⟨w.heap.size, 1, none⟩ = some (I H) := cell_of_row wa _ 1 _ _ _ ya
  have f2 : wa.cell? ⟨w.heap.size, 2, none⟩ = some (.slice A ps.length c) := cell_of_row wa _ 2 _ _ _ ya
  have f3 : wa.cell? ⟨w.heap.size, 3, none⟩ = some (I fr) := cell_of_row wa _ 3 _ _ _ ya
  have f4 : wa.cell? ⟨w.heap.size, 4, none⟩ = some (I tt) := cell_of_row wa _ 4 _ _ _ ya
  have hx1 := ints_call ba hx
  have YA := Lib.hid ya
  have hsw : w.heap.size < wa.heap.size := by omega
  clear ya hx sa
  go_enter Try.func39, Try.ntmps39
  go_upto_region 1 with fail
  rw [← ha]
  clear ha
  go_wp2_with fail
  refine (checkPipes_any W H fr tt A c ps wa hx1 hl).mono ?_
  rintro e w4 ⟨rfl, hb4⟩
  have hx4 := ints_call hb4 hx1
  have hB4 : Below w.heap.size w w4 := ba.trans (hb4.mono ba.size)
  have r4 := (hb4.block _ hsw).trans YA.out
  have p0 : w4.cell? ⟨w.heap.size, 0, none⟩ = some (I W) := cell_of_row w4 _ 0 _ _ _ r4
  have p1 : w4.cell? ⟨w.heap.size, 1, none⟩ = some (I H) := cell_of_row w4 _ 1 _ _ _ r4
  have p2 : w4.cell? ⟨w.heap.size, 2, none⟩ = some (.slice A ps.length c) := cell_of_row w4 _ 2 _ _ _ r4
  have p3 : w4.cell? ⟨w.heap.size, 3, none⟩ = some (I fr) := cell_of_row w4 _ 3 _ _ _ r4
  have p4 : w4.cell? ⟨w.heap.size, 4, none⟩ = some (I tt) := cell_of_row w4 _ 4 _ _ _ r4
  clear r4 hb4 hx1 YA f0 f1 f2 f3 f4
  cases hv : pipB W H fr tt ps
  · have HE := Lib.hid (show plmF W H fr tt ps = 30 by rw [plmF, hv]; rfl)
    have HL := Lib.hid (show plmN W H fr tt ps = 0 by rw [plmN, hv]; rfl)
    clear hv
    go_wp2
    go_ret2
    exact ⟨by rw [HE.out, HL.out]; rfl, hB4⟩
  · have HE := Lib.hid (show plmF W H fr tt ps = 0 by rw [plmF, hv]; rfl)
    have HL := Lib.hid (show plmN W H fr tt ps = (plL W H fr tt ps).length by rw [plmN, hv]; rfl)
    have hcall := rplumbings_i W H fr tt A c ps w4 hx4 hv
    obtain ⟨q, hq⟩ : ∃ q, q = (plL W H fr tt ps).length := ⟨_, rfl⟩
    rw [← hq] at hcall
    have HQ := Lib.hid hq
    clear hv hq
    go_wp2_with fail
    refine hcall.mono ?_
    rintro e w5 ⟨A3, c3, rfl, hi, hb3⟩
    have hB5 : Below w.heap.size w w5 := hB4.trans (hb3.mono hB4.size)
    clear hb3 hB4 hcall p0 p1 p2 p3 p4 hx4 hi
    go_wp2
    go_ret2
    exact ⟨by rw [HE.out, HL.out, ← HQ.out]; rfl, hB5⟩

set_option maxRecDepth 100000 in
set_option maxHeartbeats 4000000 in
theorem plumbs_any (W H fr tt : Int) (A : Option Addr) (c : Nat) (ps : List Int) (w : World) (hx : IntsR w w.heap.size A ps) (hl : ps.length ≤ maxLen) :
    Calls Try.prog 7 #[.agg #[I W, I H, .slice A ps.length c, I fr, I tt]] w fun e w' => e = .returned (.bool true) ∧ Below w.heap.size w w' := by
  obtain ⟨wa, ha, sa, ya, ba⟩ := one_box w (.cells #[I W, I H, .slice A ps.length c, I fr, I tt] 43)
  have f0 : wa.cell? ⟨w.heap.size, 0, none⟩ = some (I W) := cell_of_row wa _ 0 _ _ _ ya
  have f1 : wa.cell? ⟨w.heap.size, 1, none⟩ = some (I H) := cell_of_row wa _ 1 _ _ _ ya
  have f2 : wa.cell? ⟨w.heap.size, 2, none⟩ = some (.slice A ps.length c) := cell_of_row wa _ 2 _ _ _ ya
  have f3 : wa.cell? ⟨w.heap.size, 3, none⟩ = some (I fr) := cell_of_row wa _ 3 _ _ _ ya
  have f4 : wa.cell? ⟨w.heap.size, 4, none⟩ = some (I tt) := cell_of_row wa _ 4 _ _ _ ya
  have hx1 := ints_call ba hx
  have YA := Lib.hid ya
  have hsw : w.heap.size < wa.heap.size := by omega
  have hl' := hl
  unfold maxLen at hl'
  clear ya hx sa
  go_enter Try.func7, Try.ntmps7
  go_upto_region 1 with fail
  rw [← ha]
  clear ha
  go_cut [18] from 9 to 18 (fun s wx => (∃ b : Bool, s = .bool b) ∧ wx = wa)
  case first =>
    by_cases h1 : ps.length ≤ 6
    · have d1 : decide ((6 : Int) < (ps.length : Int)) = false := decide_eq_false (by omega)
      have d2 : decide (6 < ps.length) = false := decide_eq_false (by omega)
      go_wp2_with fail
      go_meet
      exact ⟨⟨_, rfl⟩, rfl⟩
    · have d1 : decide ((6 : Int) < (ps.length : Int)) = true := decide_eq_true (by omega)
      have d2 : decide (6 < ps.length) = true := decide_eq_true (by omega)
      go_wp2_with fail
      go_meet
      exact ⟨⟨_, rfl⟩, rfl⟩
  case rest =>
    obtain ⟨⟨b, rfl⟩, hwc⟩ := hcut
    rw [hwc]
    clear hwc
    cases b
    · go_wp2_with fail
      refine (Plumb_any W H fr tt A c ps wa hx1 hl).mono ?_
      rintro e w1 ⟨A1, c1, rfl, i1, m1, hb1⟩
      have y1 := Lib.hid ((hb1.block _ hsw).trans YA.out)
      have f0 : w1.cell? ⟨w.heap.size, 0, none⟩ = some (I W) := cell_of_row w1 _ 0 _ _ _ y1.out
      have f1 : w1.cell? ⟨w.heap.size, 1, none⟩ = some (I H) := cell_of_row w1 _ 1 _ _ _ y1.out
      have f2 : w1.cell? ⟨w.heap.size, 2, none⟩ = some (.slice A ps.length c) := cell_of_row w1 _ 2 _ _ _ y1.out
      have f3 : w1.cell? ⟨w.heap.size, 3, none⟩ = some (I fr) := cell_of_row w1 _ 3 _ _ _ y1.out
      have f4 : w1.cell? ⟨w.heap.size, 4, none⟩ = some (I tt) := cell_of_row w1 _ 4 _ _ _ y1.out
      have hx2 := ints_call hb1 hx1
      have hB1 := ba.trans (hb1.mono ba.size)
      have hs1 : w.heap.size < w1.heap.size := by have := hb1.size; omega
      clear hb1 hx1 YA
      go_wp2_with fail
      refine (rPlumb_any W H fr tt A c ps w1 hx2 hl).mono ?_
      rintro e w2 ⟨A2, c2, rfl, i2, m2, hb2⟩
      have y2 := Lib.hid ((hb2.block _ hs1).trans y1.out)
      have f0 : w2.cell? ⟨w.heap.size, 0, none⟩ = some (I W) := cell_of_row w2 _ 0 _ _ _ y2.out
      have f1 : w2.cell? ⟨w.heap.size, 1, none⟩ = some (I H) := cell_of_row w2 _ 1 _ _ _ y2.out
      have f2 : w2.cell? ⟨w.heap.size, 2, none⟩ = some (.slice A ps.length c) := cell_of_row w2 _ 2 _ _ _ y2.out
      have f3 : w2.cell? ⟨w.heap.size, 3, none⟩ = some (I fr) := cell_of_row w2 _ 3 _ _ _ y2.out
      have f4 : w2.cell? ⟨w.heap.size, 4, none⟩ = some (I tt) := cell_of_row w2 _ 4 _ _ _ y2.out
      have hx3 := ints_call hb2 hx2
      have i1' := ints_call hb2 i1
      have hB2 := hB1.trans (hb2.mono hB1.size)
      have hs2 : w.heap.size < w2.heap.size := by have := hb2.size; omega
      have g1 := bne_self (plmE W H fr tt ps)
      generalize plmE W H fr tt ps = E at *
      clear hb2 hx2 i1 y1 hB1
      go_wp2_with fail
      refine (sameInts_any A1 A2 c1 c2 (plmL W H fr tt ps) (plmL W H fr tt ps) w2 i1' i2 m1 m2).mono ?_
      rintro e w3 ⟨rfl, hb3⟩
      rw [decide_eq_true (rfl : plmL W H fr tt ps = plmL W H fr tt ps)]
      have y3 := Lib.hid ((hb3.block _ hs2).trans y2.out)
      have f0 : w3.cell? ⟨w.heap.size, 0, none⟩ = some (I W) := cell_of_row w3 _ 0 _ _ _ y3.out
      have f1 : w3.cell? ⟨w.heap.size, 1, none⟩ = some (I H) := cell_of_row w3 _ 1 _ _ _ y3.out
      have f2 : w3.cell? ⟨w.heap.size, 2, none⟩ = some (.slice A ps.length c) := cell_of_row w3 _ 2 _ _ _ y3.out
      have f3 : w3.cell? ⟨w.heap.size, 3, none⟩ = some (I fr) := cell_of_row w3 _ 3 _ _ _ y3.out
      have f4 : w3.cell? ⟨w.heap.size, 4, none⟩ = some (I tt) := cell_of_row w3 _ 4 _ _ _ y3.out
      have hx4 := ints_call hb3 hx3
      have hB3 := hB2.trans (hb3.mono hB2.size)
      have hs3 : w.heap.size < w3.heap.size := by have := hb3.size; omega
      clear hb3 hx3 i1' i2 y2 hB2
      go_wp2_with fail
      refine (Plumbings_any W H fr tt A c ps w3 hx4 hl).mono ?_
      rintro e w4 ⟨rfl, hb4⟩
      have y4 := Lib.hid ((hb4.block _ hs3).trans y3.out)
      have f0 : w4.cell? ⟨w.heap.size, 0, none⟩ = some (I W) := cell_of_row w4 _ 0 _ _ _ y4.out
      have f1 : w4.cell? ⟨w.heap.size, 1, none⟩ = some (I H) := cell_of_row w4 _ 1 _ _ _ y4.out
      have f2 : w4.cell? ⟨w.heap.size, 2, none⟩ = some (.slice A ps.length c) := cell_of_row w4 _ 2 _ _ _ y4.out
      have f3 : w4.cell? ⟨w.heap.size, 3, none⟩ = some (I fr) := cell_of_row w4 _ 3 _ _ _ y4.out
      have f4 : w4.cell? ⟨w.heap.size, 4, none⟩ = some (I tt) := cell_of_row w4 _ 4 _ _ _ y4.out
      have hx5 := ints_call hb4 hx4
      have hB4 := hB3.trans (hb4.mono hB3.size)
      clear hb4 hx4 y3 hB3
      go_wp2_with fail
      refine (rPlumbings_any W H fr tt A c ps w4 hx5 hl).mono ?_
      rintro e w5 ⟨rfl, hb5⟩
      have hB5 := hB4.trans (hb5.mono hB4.size)
      have g4 := beq_self' ((plmN W H fr tt ps : Nat) : Int)
      have g5 := beq_self' (plmF W H fr tt ps)
      generalize ((plmN W H fr tt ps : Nat) : Int) = q3 at *
      generalize plmF W H fr tt ps = q4 at *
      clear hb5 hx5 y4 hB4 f0 f1 f2 f3 f4
      go_wp2_with fail
      refine (works_any w5).mono ?_
      rintro e w8 ⟨rfl, hb8⟩
      go_wp2
      go_ret
      exact ⟨rfl, hB5.trans (hb8.mono hB5.size)⟩
    · clear f0 f1 f2 f3 f4
      go_wp2_with fail
      refine (works_any wa).mono ?_
      rintro e w3 ⟨rfl, hb3⟩
      go_wp2
      go_ret
      exact ⟨rfl, ba.trans (hb3.mono ba.size)⟩
end Go.Proofs.Ytglkjiimmlobbaa
