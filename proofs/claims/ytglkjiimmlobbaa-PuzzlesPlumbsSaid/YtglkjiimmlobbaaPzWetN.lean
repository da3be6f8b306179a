/-
  CONTRACTS: the closure of Flows, Numbers with it.
-/
import Derived.Test.YtglkjiimmlobbaaPzFloPure
namespace Go.Proofs.Ytglkjiimmlobbaa
open Go.RowKit Go.Shelf
/-- the numbers of a set, of the first m -/
def numsF (T : Nat → Bool) (m : Nat) : List Int := ((List.range m).filter T).map (fun (k : Nat) => (k : Int))
theorem numsF_yes {T : Nat → Bool} {m : Nat} (h : T m = true) : numsF T (m + 1) = numsF T m ++ [(m : Int)] := by
  simp [numsF, List.range_succ, h]
theorem numsF_no {T : Nat → Bool} {m : Nat} (h : T m = false) : numsF T (m + 1) = numsF T m := by
  simp [numsF, List.range_succ, h]
theorem numsF_len (T : Nat → Bool) (m : Nat) : (numsF T m).length ≤ m := by
  rw [numsF, List.length_map]
  exact Nat.le_trans (List.length_filter_le _ _) (by simp)
theorem numsF_snoc {T : Nat → Bool} {m : Nat} (h : T m = true) : (numsF T m).map I ++ [I (m : Int)] = (numsF T (m + 1)).map I := by rw [numsF_yes h, List.map_append]; rfl
theorem wetLit_any (T : Nat → Bool) (k g c : Nat) (w : World) (hF : FlowAt w g T k) (hc : c < 9) :
    Calls Try.prog 98 #[I c, .pointer (some ⟨g, 0, none⟩)] w fun e w' => e = .returned (.bool (T c)) ∧ w' = w := by
  have h := (hF.wet hc).1
  go_enter Try.func98, Try.ntmps98
  go_wp2
  go_ret
  exact ⟨rfl, rfl⟩

set_option maxRecDepth 100000 in
set_option maxHeartbeats 1000000 in
theorem numbersWet_any (T : Nat → Bool) (N m g : Nat) (w : World) (hF : FlowAt w g T m) (hg : g < w.heap.size) (hN : N ≤ 9) :
    Calls Try.prog 74 #[I N, .func (.func 98) #[] #[.pointer (some ⟨g, 0, none⟩)]] w fun e w' => ∃ A c, e = .returned (.slice A (numsF T N).length c) ∧ IntsR w' w'.heap.size A (numsF T N) ∧ Below w.heap.size w w' := by
  go_enter Try.func74, Try.ntmps74
  go_wp2_with fail
  go_loopw [5, 6, 8] (fun v _ i wr => ∃ k : Nat, k ≤ N ∧ i = .int .i64 k ∧ wr.ownsRow w.heap.size 3 1 v (numsF T k).length ((numsF T k).map I) ∧ Below w.heap.size w wr) (fun _ _ i _ => N - (intOf i).toNat)
  case atStart => exact ⟨0, Nat.zero_le _, rfl, World.ownsRow_nil _ _ _ _, Below.refl _ _⟩
  case round =>
    obtain ⟨k, hk, rfl, hown, hB⟩ := hrel
    obtain ⟨v, hv⟩ : ∃ v : Value, v = u5 := ⟨_, rfl⟩
    subst hv
    by_cases hlt : k < N
    · have hcall := wetLit_any T m g k wr ((hB.block g hg).trans hF) (by omega)
      have g1' : (k : Int) < N := by omega
      have hhl := numsF_len T k
      go_wp2_with fail
      refine hcall.mono ?_
      rintro e wq ⟨rfl, hww⟩
      rw [hww]
      clear hww
      obtain ⟨w2, hw2⟩ : ∃ w2, w2 = wr := ⟨_, rfl⟩
      rw [← hw2]
      have hB2 : Below w.heap.size w w2 := by rw [hw2]; exact hB
      have hrow := hown.lt
      rw [← hw2] at hrow
      have hown2 : w2.ownsRow w.heap.size 3 1 v (numsF T k).length ((numsF T k).map I) := by rw [hw2]; exact hown
      clear hcall hw2
      cases hq : T k
      · have HQ := Lib.hid (numsF_no hq)
        clear hq
        go_wp2_with fail
        go_roundw
        case rel => exact ⟨k + 1, by omega, by go_num, by rw [HQ.out]; exact hown2, hB2⟩
        case measure => simp [intOf]; omega
      · have HQ := Lib.hid (numsF_snoc hq)
        have HL := Lib.hid (show (numsF T (k + 1)).length = (numsF T k).length + 1 by rw [numsF_yes hq]; simp)
        obtain ⟨i0, hi, hz0, hz1, hz2⟩ := info_parts info_int
        clear hq
        go_wp2_with (at_builtin; refine wpList_append_own _ rfl _ _ 29 rfl w.heap.size 3 i0 (.int .i64 0) 1 8 Try.underlying29 hi hz0 hz1 hz2 rfl (by decide) v _ _ rfl (hown2.alloc _) ⟨w2.heap.size, 0, none⟩ 1 1 [I k] rfl rfl ?c1 ?c2 ?c3 ?c4 ?c5 ?_)
        case c1 =>
          intro j u hj
          match j, hj with
          | 0, hj => simp at hj; subst hj; simp [Addr.add]
        case c2 => intro u hu; simp at hu; subst hu; rfl
        case c3 => unfold maxLen; omega
        case c4 => omega
        case c5 => have := hB2.size; simp; omega
        intro v' w4 hown' hgrow _
        have hown4 := hown'
        rw [HQ.out, ← HL.out] at hown4
        have hB4 : Below w.heap.size w w4 := (hB2.alloc hB2.size _).grown hgrow (by have := hB2.size; simp; omega) (fun j hj => (hrow j hj).1)
        clear hown' hgrow hown hown2 hrow
        go_wp2
        go_roundw
        case rel => exact ⟨k + 1, by omega, by go_num, hown4, hB4⟩
        case measure => simp [intOf]; omega
    · obtain rfl : k = N := by omega
      obtain ⟨A, c, rfl, hi, -⟩ := own_ints hown
      clear hown
      go_wp2_with fail
      go_ret
      exact ⟨_, _, rfl, hi, hB⟩
end Go.Proofs.Ytglkjiimmlobbaa
