/-
  CONTRACT: the law PuzzlesNext.
-/
import Derived.Test.YteeppkhlnejfkaaPzWorks
import Derived.Test.YteeppkhlnejfkaaPzRNext
namespace Go.Proofs.Yteeppkhlnejfkaa
open Go.RowKit Go.Shelf
theorem nextV_parts (l : List Int) : ∃ a b e : Int, nextV l = .tuple #[I a, I b, I e] := by
  rw [nextV]
  split
  · split
    · exact ⟨_, _, _, rfl⟩
    · exact ⟨_, _, _, rfl⟩
  · exact ⟨_, _, _, rfl⟩
theorem beq_self_true (a : Int) : (a == a) = true := by simp
set_option maxRecDepth 100000 in
set_option maxHeartbeats 1000000 in
theorem nextLaw_any (A : Option Addr) (c : Nat) (l : List Int) (w : World) (hx : IntsR w w.heap.size A l) (hl : l.length ≤ maxLen) :
    Calls Try.prog 4 #[.slice A l.length c] w fun e w' => e = .returned (.bool true) ∧ Below w.heap.size w w' := by
  obtain ⟨a, b, e, hv⟩ := nextV_parts l
  have HV := Lib.hid hv
  clear hv
  have e1 := beq_self_true a
  have e2 := beq_self_true b
  have e3 := beq_self_true e
  go_enter Try.func4, Try.ntmps4
  go_wp2_with fail
  refine (pNext_any A c l w hx hl).mono ?_
  rintro e w1 ⟨rfl, hb1⟩
  rw [HV.out]
  have hx1 := ints_call hb1 hx
  go_wp2_with fail
  refine (rNext_any A c l w1 hx1 hl).mono ?_
  rintro e w2 ⟨rfl, hb2⟩
  rw [HV.out]
  have hB2 : Below w.heap.size w w2 := hb1.trans (hb2.mono hb1.size)
  clear hx1 hb1 hb2
  go_wp2_with fail
  refine (works_any w2).mono ?_
  rintro e w3 ⟨rfl, hb3⟩
  go_wp2
  go_ret
  exact ⟨rfl, hB2.trans (hb3.mono hB2.size)⟩
end Go.Proofs.Yteeppkhlnejfkaa
