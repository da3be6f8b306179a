/-
  CONTRACTS: isOpen, opposite, turned.
-/
import Derived.Test.YtfjincdlenneaaaPzWorks
import Derived.Test.YtfjincdlenneaaaPzE
namespace Go.Proofs.Ytfjincdlenneaaa
open Go.RowKit Go.Shelf
theorem open_fin : ∀ p : Fin 16, ∀ s : Fin 4, (bits BinOp.and IntKind.i64 ((p.val : Int) / 2 ^ s.val) 1 == 1) = p.val.testBit s.val := by decide +kernel
theorem turn_fin : ∀ p : Fin 16, ∀ q : Fin 4, bits BinOp.and IntKind.i64 (bits BinOp.or IntKind.i64 (wrap64 ((p.val : Int) * 2 ^ q.val)) ((p.val : Int) / 2 ^ (4 - q.val))) 15 = (((p.val <<< q.val ||| p.val >>> (4 - q.val)) &&& 15 : Nat) : Int) := by decide +kernel
theorem isOpen_any (p s : Nat) (w : World) (hp : p ≤ 15) (hs : s ≤ 3) :
    Calls Try.prog 157 #[I p, I s] w fun e w' => e = .returned (.bool (p.testBit s)) ∧ w' = w := by
  go_enter Try.func157, Try.ntmps157
  go_wp2
  go_ret
  exact ⟨ret_bool (open_fin ⟨p, by omega⟩ ⟨s, by omega⟩), rfl⟩
theorem opposite_any (s : Nat) (w : World) (hs : s ≤ 3) :
    Calls Try.prog 158 #[I s] w fun e w' => e = .returned (I ((s + 2) % 4 : Nat)) ∧ w' = w := by
  go_enter Try.func158, Try.ntmps158
  go_wp2
  go_ret
  exact ⟨ret_int (by simp), rfl⟩
theorem turned_any (p q : Nat) (w : World) (hp : p ≤ 15) (hq : q ≤ 3) :
    Calls Try.prog 135 #[I p, I q] w fun e w' => e = .returned (I ((p <<< q ||| p >>> (4 - q)) &&& 15 : Nat)) ∧ Below w.heap.size w w' := by
  go_enter Try.func135, Try.ntmps135
  go_wp2
  go_quiet (fail)
  go_wp2
  go_ret
  exact ⟨ret_int (turn_fin ⟨p, by omega⟩ ⟨q, by omega⟩), below_drewN (Below.refl _ _) _⟩
end Go.Proofs.Ytfjincdlenneaaa
