/-
  CONTRACTS of the document's own answers: padlockref03.equal.
-/
import Derived.Test.YtglkjiimmlobbaaPzNext
namespace Go.Proofs.Ytglkjiimmlobbaa
open Go.RowKit Go.Shelf
theorem below_drewN {B : Nat} {a w : World} (h : Below B a w) (n : Nat) : Below B a (w.drewN n) := ⟨h.os, h.tape, h.output, h.size, h.block⟩

set_option maxRecDepth 100000 in
set_option maxHeartbeats 1000000 in
theorem requal_any (A : Option Addr) (c : Nat) (l : List Int) (w : World) (hx : IntsR w w.heap.size A l) (hl : l.length ≤ 64) :
    Calls Try.prog 80 #[.slice A l.length c] w fun e w' => e = .returned (.bool (allEq l)) ∧ Below w.heap.size w w' := by
  go_enter Try.func80, Try.ntmps80
  go_wp2_with fail
  go_loopw [3] (fun i wr => ∃ k : Nat, k ≤ l.length ∧ i = .int .i64 k ∧ Hid ((l.take k).all (fun n => n == nth l 0) = true) ∧ Below w.heap.size w wr) (fun i _ => l.length - (intOf i).toNat)
  case atStart => exact ⟨0, Nat.zero_le _, rfl, Lib.hid rfl, Below.refl _ _⟩
  case round =>
    obtain ⟨k, hk, rfl, HA, hB⟩ := hrel
    by_cases hlt : k < l.length
    · have hx' := hx.below hB (Nat.le_refl _)
      obtain ⟨ad, rfl, hbl, hc⟩ := hx'.at_ (k := k) hlt
      obtain ⟨ad', hA, hbl', hc0⟩ := hx'.at_ (k := 0) (by omega)
      injection hA with hA
      subst hA
      have hc0' : wr.cell? ad = some (I (nth l 0)) := hc0
      clear hx' hbl' hc0
      cases hp : nth l k == nth l 0
      · have hp2 : (nth l k != nth l 0) = true := by rw [cmp_ne, hp]; rfl
        have H2 := Lib.hid (show allEq l = false by rw [allEq_nth]; exact not_all _ l k hlt hp)
        generalize nth l k = x at *
        generalize nth l 0 = y at *
        go_wp2_with fail
        go_quiet (fail)
        go_wp2
        go_ret
        exact ⟨ret_bool H2.out.symm, below_drewN hB _⟩
      · have hp2 : (nth l k != nth l 0) = false := by rw [cmp_ne, hp]; rfl
        have H2 := Lib.hid (all_take_snoc (fun n => n == nth l 0) l k hlt HA.out hp)
        go_wp2_with fail
        go_quiet (fail)
        go_wp2
        go_roundw
        case rel => exact ⟨k + 1, by omega, by go_num, H2, below_drewN hB _⟩
        case measure => simp [intOf]; omega
    · obtain rfl : k = l.length := by omega
      rw [List.take_length] at HA
      go_wp2
      go_ret
      exact ⟨ret_bool (by rw [allEq_nth, HA.out]), hB⟩
end Go.Proofs.Ytglkjiimmlobbaa
