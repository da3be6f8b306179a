/-
  CONTRACT: the law PuzzlesFlows.
-/
import Derived.Test.YtglkjiimmlobbaaPzRFlw
import Derived.Test.YtglkjiimmlobbaaPzSame
import Derived.Test.YtglkjiimmlobbaaPzWorks
import Derived.Test.YtglkjiimmlobbaaPzWeiLaw
namespace Go.Proofs.Ytglkjiimmlobbaa
open Go.RowKit Go.Shelf
theorem floL_len (W H fr tt : Int) (ps ts : List Int) : (floL W H fr tt ps ts).length ≤ ps.length := by
  rw [floL]
  split
  · exact numsF_len _ _
  · exact Nat.zero_le _

set_option maxRecDepth 100000 in
set_option maxHeartbeats 4000000 in
theorem flows_any (W H fr tt : Int) (A A2 : Option Addr) (c c2 : Nat) (ps ts : List Int) (w : World) (hx : IntsR w w.heap.size A ps) (hl : ps.length ≤ maxLen) (hy : IntsR w w.heap.size A2 ts) (hl2 : ts.length ≤ maxLen) :
    Calls Try.prog 6 #[.agg #[I W, I H, .slice A ps.length c, I fr, I tt], .slice A2 ts.length c2] w fun e w' => e = .returned (.bool true) ∧ Below w.heap.size w w' := by
  obtain ⟨wa, ha, sa, ya, ba⟩ := one_box w (.cells #[I W, I H, .slice A ps.length c, I fr, I tt] 43)
  have f0 : wa.cell? ⟨w.heap.size, 0, none⟩ = some (I W) := cell_of_row wa _ 0 _ _ _ ya
  have f1 : wa.cell? ⟨w.heap.size, 1, none⟩ = some (I H) := cell_of_row wa _ 1 _ _ _ ya
  have f2 : wa.cell? ⟨w.heap.size, 2, none⟩ = some (.slice A ps.length c) := cell_of_row wa _ 2 _ _ _ ya
  have f3 : wa.cell? ⟨w.heap.size, 3, none⟩ = some (I fr) := cell_of_row wa _ 3 _ _ _ ya
  have f4 : wa.cell? ⟨w.heap.size, 4, none⟩ = some (I tt) := cell_of_row wa _ 4 _ _ _ ya
  have hx1 := ints_call ba hx
  have hy1 := ints_call ba hy
  have YA := Lib.hid ya
  have hm := Nat.le_trans (floL_len W H fr tt ps ts) hl
  have C1 := Flows_any W H fr tt A A2 c c2 ps ts wa hx1 hl hy1 hl2
  have C2 := fun V => rFlows_any W H fr tt A A2 c c2 ps ts V
  generalize floL W H fr tt ps ts = L at *
  generalize floE W H fr tt ps ts = E at *
  generalize floN W H fr tt ps ts = n at *
  have hsw : w.heap.size < wa.heap.size := by omega
  clear ya hx hy sa
  go_enter Try.func6, Try.ntmps6
  go_upto_region 1 with fail
  rw [← ha]
  clear ha
  go_wp2_with fail
  refine C1.mono ?_
  rintro e w1 ⟨A3, c3, rfl, i3, hb1⟩
  have y1 := (hb1.block _ hsw).trans YA.out
  have f0 : w1.cell? ⟨w.heap.size, 0, none⟩ = some (I W) := cell_of_row w1 _ 0 _ _ _ y1
  have f1 : w1.cell? ⟨w.heap.size, 1, none⟩ = some (I H) := cell_of_row w1 _ 1 _ _ _ y1
  have f2 : w1.cell? ⟨w.heap.size, 2, none⟩ = some (.slice A ps.length c) := cell_of_row w1 _ 2 _ _ _ y1
  have f3 : w1.cell? ⟨w.heap.size, 3, none⟩ = some (I fr) := cell_of_row w1 _ 3 _ _ _ y1
  have f4 : w1.cell? ⟨w.heap.size, 4, none⟩ = some (I tt) := cell_of_row w1 _ 4 _ _ _ y1
  have hx2 := ints_call hb1 hx1
  have hy2 := ints_call hb1 hy1
  have hB1 := ba.trans (hb1.mono ba.size)
  clear y1 hb1 hx1 hy1 C1 ba
  go_wp2_with fail
  refine (C2 _ hx2 hl hy2 hl2).mono ?_
  rintro e w2 ⟨A4, c4, rfl, i4, hb2⟩
  have i3' := ints_call hb2 i3
  have hB2 := hB1.trans (hb2.mono hB1.size)
  have g1 := beq_self' (n : Int)
  have g2 := beq_self' E
  clear f0 f1 f2 f3 f4 hx2 hy2 C2 hb2 hB1 i3
  go_wp2_with fail
  refine (sameInts_any A3 A4 c3 c4 L L w2 i3' i4 hm hm).mono ?_
  rintro e w5 ⟨rfl, hb5⟩
  rw [decide_eq_true (rfl : L = L)]
  have hB5 := hB2.trans (hb5.mono hB2.size)
  clear hb5 i3' i4 hB2
  go_wp2_with fail
  refine (works_any w5).mono ?_
  rintro e w8 ⟨rfl, hb8⟩
  go_wp2
  go_ret
  exact ⟨rfl, hB5.trans (hb8.mono hB5.size)⟩
end Go.Proofs.Ytglkjiimmlobbaa
