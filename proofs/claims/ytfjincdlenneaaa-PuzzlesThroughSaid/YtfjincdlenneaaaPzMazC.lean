/-
  CONTRACT: check of a maze. (Written by gen/gen_mchk.py.)
-/
import Derived.Test.YtfjincdlenneaaaPzMchkA
import Derived.Test.YtfjincdlenneaaaPzMchkB
import Derived.Test.YtfjincdlenneaaaPzMchkC
import Derived.Test.YtfjincdlenneaaaPzMchkD
import Derived.Test.YtfjincdlenneaaaPzMchkE
namespace Go.Proofs.Ytfjincdlenneaaa
open Go.RowKit Go.Shelf
theorem mcheck_any (W H fr tt : Int) (A : Option Addr) (n cap : Nat) (wall : Nat → Bool) (w : World) (hx : BoosR w w.heap.size A wall n) :
    Calls Try.prog 105 #[mazW W H fr tt A n cap] w fun e w' => e = .returned (I (if mazB W H fr tt n wall then 0 else 30)) ∧ Below w.heap.size w w' := by
  cases hg : gridM W H fr tt
  · have h := mchk_A W H fr tt A n cap w (Lib.hid hg)
    rw [show mazB W H fr tt n wall = false by rw [mazB, hg]; rfl]
    exact h
  · have hi := gridM_in hg
    cases hq : ((n : Int) == W * H)
    · have h := mchk_B W H fr tt A n cap w (by omega) hi.2.1 (by omega) hi.2.2.2.1 _ (Lib.hid rfl) (Lib.hid hg) hq
      rw [show mazB W H fr tt n wall = false by rw [mazB, hg, hq]; rfl]
      exact h
    · have hn : (n : Int) = W * H := by simpa using hq
      obtain ⟨f, rfl⟩ : ∃ f : Nat, fr = f := ⟨fr.toNat, by omega⟩
      obtain ⟨t, rfl⟩ : ∃ t : Nat, tt = t := ⟨tt.toNat, by omega⟩
      have hf : f < n := by omega
      have ht : t < n := by omega
      obtain ⟨ad, rfl, hab, hc⟩ := hx (by omega)
      have hcf := hc f hf
      have hct := hc t ht
      cases hwf : wall f
      · rw [hwf] at hcf
        cases hwt : wall t
        · rw [hwt] at hct
          have h := mchk_E W H f t ad n cap w (by omega) hi.2.1 (by omega) hi.2.2.2.1 _ (Lib.hid rfl) (Lib.hid hg) hq hf ht hab hcf hct
          rw [show mazB W H f t n wall = true by rw [mazB, hg, hq]; simp [hwf, hwt]]
          exact h
        · rw [hwt] at hct
          have h := mchk_D W H f t ad n cap w (by omega) hi.2.1 (by omega) hi.2.2.2.1 _ (Lib.hid rfl) (Lib.hid hg) hq hf ht hab hcf hct
          rw [show mazB W H f t n wall = false by rw [mazB, hg, hq]; simp [hwf, hwt]]
          exact h
      · rw [hwf] at hcf
        have h := mchk_C W H f t ad n cap w (by omega) hi.2.1 (by omega) hi.2.2.2.1 _ (Lib.hid rfl) (Lib.hid hg) hq hf hab hcf
        rw [show mazB W H f t n wall = false by rw [mazB, hg, hq]; simp [hwf]]
        exact h
end Go.Proofs.Ytfjincdlenneaaa
