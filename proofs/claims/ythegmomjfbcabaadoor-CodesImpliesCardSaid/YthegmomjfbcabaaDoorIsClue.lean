/-
  CONTRACT: padlockref01.isClue.
-/
import Derived.Test.YthegmomjfbcabaaDoorIsClu1
import Derived.Test.YthegmomjfbcabaaDoorIsClu2
import Derived.Test.YthegmomjfbcabaaDoorIsClu3
namespace Go.Proofs.YthegmomjfbcabaaDoor
open Go.RowKit
theorem isClue_any (W S : Int) (c : Cl) (A : Option Addr) (cap : Nat) (w : World) (hg : IntsR w w.heap.size A c.guess) (lg : c.guess.length ≤ maxLen) :
    Calls Tryd.prog 65 #[lockV W S, clV c A cap] w fun e w' => e = .returned (.bool (clueB W S c)) ∧ Below w.heap.size w w' := by
  obtain ⟨k, a, b, n, m, g, ng⟩ := c
  by_cases hk : 1 ≤ k ∧ k ≤ 7
  · have h : k = 1 ∨ k = 2 ∨ k = 3 ∨ k = 4 ∨ k = 5 ∨ k = 6 ∨ k = 7 := by omega
    rcases h with rfl | rfl | rfl | rfl | rfl | rfl | rfl
    · exact isClue_1 W S a b n m g ng A cap w hg lg
    · exact isClue_2 W S a b n m g ng A cap w hg lg
    · exact isClue_3 W S a b n m g ng A cap w hg lg
    · exact isClue_4 W S a b n m g ng A cap w hg lg
    · exact isClue_5 W S a b n m g ng A cap w hg lg
    · exact isClue_6 W S a b n m g ng A cap w hg lg
    · exact isClue_7 W S a b n m g ng A cap w hg lg
  · exact isClue_0 W S k a b n m hk g ng A cap w hg lg
end Go.Proofs.YthegmomjfbcabaaDoor
