/-
  CONTRACT: the law PuzzlesMelodies.
-/
import Derived.Test.YteeppkhlnejfkaaPzMelR
namespace Go.Proofs.Yteeppkhlnejfkaa
open Go.RowKit Go.Shelf
theorem bne_same (a : Int) : (a != a) = false := by simp
theorem beq_same (a : Int) : (a == a) = true := by simp
set_option maxRecDepth 100000 in
set_option maxHeartbeats 2000000 in
theorem melodies_any (A1 A2 : Option Addr) (c1 c2 : Nat) (m ks : List Int) (h key : Int) (w : World) (hx : IntsR w w.heap.size A1 m) (hy : IntsR w w.heap.size A2 ks) (hl : m.length ≤ maxLen) (hlk : ks.length ≤ maxLen) (hc : m.length ≤ c1) (hck : ks.length ≤ c2) :
    Calls Try.prog 10 #[.slice A1 m.length c1, .slice A2 ks.length c2, .agg #[I h, I key]] w fun e w' => e = .returned (.bool true) ∧ Below w.heap.size w w' := by
  go_enter Try.func10, Try.ntmps10
  obtain ⟨w1, hw1, hs1, y0, hb1⟩ := one_box w (.cells #[I h, I key] 63)
  have b0 : w1.cell? ⟨w.heap.size, 0, none⟩ = some (I h) := cell_of_row w1 _ 0 _ _ _ y0
  have b1 : w1.cell? ⟨w.heap.size, 1, none⟩ = some (I key) := cell_of_row w1 _ 1 _ _ _ y0
  go_upto_region 1 with fail
  rw [← hw1]
  have hx1 := ints_call hb1 hx
  have hy1 := ints_call hb1 hy
  have Y0 := Lib.hid y0
  clear hw1 hx hy y0
  go_wp2_with fail
  refine (Press_any A1 c1 m h key w1 hx1 hl hc).mono ?_
  rintro e w2 ⟨rfl, hb2⟩
  have z0 := (hb2.block _ (by omega)).trans Y0.out
  have b0 : w2.cell? ⟨w.heap.size, 0, none⟩ = some (I h) := cell_of_row w2 _ 0 _ _ _ z0
  have b1 : w2.cell? ⟨w.heap.size, 1, none⟩ = some (I key) := cell_of_row w2 _ 1 _ _ _ z0
  have hx2 := ints_call hb2 hx1
  have hy2 := ints_call hb2 hy1
  have hB2 : Below w.heap.size w w2 := hb1.trans (hb2.mono (by omega))
  clear z0 hx1 hy1 hb1 hb2
  go_wp2_with fail
  refine (rPress_any A1 c1 m h key w2 hx2 hl hc).mono ?_
  rintro e w3 ⟨rfl, hb3⟩
  have hx3 := ints_call hb3 hx2
  have hy3 := ints_call hb3 hy2
  have hB3 : Below w.heap.size w w3 := hB2.trans (hb3.mono hB2.size)
  clear hx2 hy2 hb3 hB2 b0 b1
  have g1 := bne_same (pressN m h key)
  have g2 := bne_same (pressE m h key)
  generalize pressN m h key = q1 at *
  generalize pressE m h key = q2 at *
  go_wp2_with fail
  refine (Opens_any A1 A2 c1 c2 m ks w3 hx3 hy3 hl hlk hc).mono ?_
  rintro e w4 ⟨rfl, hb4⟩
  have hx4 := ints_call hb4 hx3
  have hy4 := ints_call hb4 hy3
  have hB4 : Below w.heap.size w w4 := hB3.trans (hb4.mono hB3.size)
  clear hx3 hy3 hb4 hB3
  go_wp2_with fail
  refine (rOpens_any A1 A2 c1 c2 m ks w4 hx4 hy4 hl hlk hck).mono ?_
  rintro e w5 ⟨rfl, hb5⟩
  have hB5 : Below w.heap.size w w5 := hB4.trans (hb5.mono hB4.size)
  have g3 := beq_same (openN m ks)
  have g4 := beq_same (openE m ks)
  generalize openN m ks = q3 at *
  generalize openE m ks = q4 at *
  clear hx4 hy4 hb5 hB4
  go_wp2_with fail
  refine (works_any w5).mono ?_
  rintro e w6 ⟨rfl, hb6⟩
  go_wp2
  go_ret
  exact ⟨rfl, hB5.trans (hb6.mono hB5.size)⟩
end Go.Proofs.Yteeppkhlnejfkaa
