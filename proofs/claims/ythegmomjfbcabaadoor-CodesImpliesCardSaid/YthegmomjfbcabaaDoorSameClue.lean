/-
  CONTRACT: padlockref01.SameClue.
-/
import Derived.Test.YthegmomjfbcabaaDoorTruth
import Derived.Test.YthegmomjfbcabaaDoorSame
namespace Go.Proofs.YthegmomjfbcabaaDoor
open Go.RowKit
theorem empty_dec (g : List Int) : g.isEmpty = decide (g = []) := by cases g <;> rfl
/-- are two clues equal -/
def sameB (c d : Cl) : Bool := c.kind == d.kind && (c.a == d.a && (c.b == d.b && (c.n == d.n && (c.m == d.m && (c.neg == d.neg && decide (c.guess = d.guess))))))

set_option maxRecDepth 100000 in
set_option maxHeartbeats 2000000 in
theorem SameClue_any (k a b n m : Int) (g : List Int) (s : Bool) (k' a' b' n' m' : Int) (g' : List Int) (s' : Bool) (A A' : Option Addr) (cap cap' : Nat) (w : World) (hg : IntsR w w.heap.size A g) (hg' : IntsR w w.heap.size A' g') (lg : g.length ≤ maxLen) (lg' : g'.length ≤ maxLen) :
    Calls Tryd.prog 56 #[clV ⟨k, a, b, n, m, g, s⟩ A cap, clV ⟨k', a', b', n', m', g', s'⟩ A' cap'] w fun e w' => e = .returned (.bool (sameB ⟨k, a, b, n, m, g, s⟩ ⟨k', a', b', n', m', g', s'⟩)) ∧ Below w.heap.size w w' := by
  have hbw := two_boxes w (.cells #[I k, I a, I b, I n, I m, .slice A g.length cap, .bool s] 26) (.cells #[I k', I a', I b', I n', I m', .slice A' g'.length cap', .bool s'] 26)
  have hi := ints_call hbw hg
  have hi' := ints_call hbw hg'
  cases h0 : (k == k')
  · have V := Lib.hid (show sameB ⟨k, a, b, n, m, g, s⟩ ⟨k', a', b', n', m', g', s'⟩ = false by simp only [sameB, h0, Bool.false_and])
    go_enter Tryd.func56, Tryd.ntmps56
    go_wp2
    go_ret
    exact ⟨ret_bool V.out.symm, hbw⟩
  cases h1 : (a == a')
  · have V := Lib.hid (show sameB ⟨k, a, b, n, m, g, s⟩ ⟨k', a', b', n', m', g', s'⟩ = false by simp only [sameB, h0, h1, Bool.true_and, Bool.false_and])
    go_enter Tryd.func56, Tryd.ntmps56
    go_wp2
    go_ret
    exact ⟨ret_bool V.out.symm, hbw⟩
  cases h2 : (b == b')
  · have V := Lib.hid (show sameB ⟨k, a, b, n, m, g, s⟩ ⟨k', a', b', n', m', g', s'⟩ = false by simp only [sameB, h0, h1, h2, Bool.true_and, Bool.false_and])
    go_enter Tryd.func56, Tryd.ntmps56
    go_wp2
    go_ret
    exact ⟨ret_bool V.out.symm, hbw⟩
  cases h3 : (n == n')
  · have V := Lib.hid (show sameB ⟨k, a, b, n, m, g, s⟩ ⟨k', a', b', n', m', g', s'⟩ = false by simp only [sameB, h0, h1, h2, h3, Bool.true_and, Bool.false_and])
    go_enter Tryd.func56, Tryd.ntmps56
    go_wp2
    go_ret
    exact ⟨ret_bool V.out.symm, hbw⟩
  cases h4 : (m == m')
  · have V := Lib.hid (show sameB ⟨k, a, b, n, m, g, s⟩ ⟨k', a', b', n', m', g', s'⟩ = false by simp only [sameB, h0, h1, h2, h3, h4, Bool.true_and, Bool.false_and])
    go_enter Tryd.func56, Tryd.ntmps56
    go_wp2
    go_ret
    exact ⟨ret_bool V.out.symm, hbw⟩
  cases h5 : (s == s')
  · have V := Lib.hid (show sameB ⟨k, a, b, n, m, g, s⟩ ⟨k', a', b', n', m', g', s'⟩ = false by simp only [sameB, h0, h1, h2, h3, h4, h5, Bool.true_and, Bool.false_and])
    go_enter Tryd.func56, Tryd.ntmps56
    go_wp2
    go_ret
    exact ⟨ret_bool V.out.symm, hbw⟩
  have V := Lib.hid (show sameB ⟨k, a, b, n, m, g, s⟩ ⟨k', a', b', n', m', g', s'⟩ = decide (g = g') by simp only [sameB, h0, h1, h2, h3, h4, h5, Bool.true_and])
  go_enter Tryd.func56, Tryd.ntmps56
  go_wp2_with fail
  refine (SameInts_any A A' cap cap' g g' _ hi hi' lg lg').mono ?_
  rintro e w2 ⟨rfl, hb2⟩
  go_wp2
  go_ret
  exact ⟨ret_bool V.out.symm, hbw.trans (hb2.mono hbw.size)⟩
end Go.Proofs.YthegmomjfbcabaaDoor
