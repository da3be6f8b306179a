/-
  CONTRACTS: isConstant, by slices.ContainsFunc and slices.IndexFunc over its own closure.
-/
import Derived.Test.YtglkjiimmlobbaaPzSeqC
namespace Go.Proofs.Ytglkjiimmlobbaa
open Go.RowKit Go.Shelf
theorem allEq_nth (l : List Int) : allEq l = l.all (fun n => n == nth l 0) := by
  cases l <;> simp [allEq, nth]
theorem cmp_ne (a b : Int) : (a != b) = !(a == b) := rfl

set_option maxHeartbeats 400000 in
theorem constLit_any (A : Option Addr) (c g : Nat) (l : List Int) (v : Int) (w : World) (hx : IntsR w w.heap.size A l) (h1 : 1 ≤ l.length) (hl : l.length ≤ 64) (hg : w.cell? ⟨g, 0, none⟩ = some (.slice A l.length c)) :
    Calls Try.prog 152 #[I v, .pointer (some ⟨g, 0, none⟩)] w fun e w' => e = .returned (.bool (v != nth l 0)) ∧ w' = w := by
  obtain ⟨ad, rfl, hbl, hc⟩ := hx.at_ (k := 0) (by omega)
  have hc' : w.cell? ad = some (I (nth l 0)) := hc
  go_enter Try.func152, Try.ntmps152
  go_wp2_with fail
  go_ret
  exact ⟨ret_bool rfl, rfl⟩

set_option maxHeartbeats 1000000 in
theorem indexConst_any (A : Option Addr) (c g : Nat) (l : List Int) (w : World) (hx : IntsR w w.heap.size A l) (h1 : 1 ≤ l.length) (hl : l.length ≤ 64) (hg : w.cell? ⟨g, 0, none⟩ = some (.slice A l.length c)) :
    Calls Try.prog 168 #[.slice A l.length c, .func (.func 152) #[] #[.pointer (some ⟨g, 0, none⟩)]] w fun e w' => ∃ r : Int, e = .returned (I r) ∧ decide (0 ≤ r) = !allEq l ∧ w' = w := by
  go_enter Try.func168, Try.ntmps168
  go_wp2_with fail
  go_loop [8] (fun i => ∃ k : Nat, k ≤ l.length ∧ i = .int .i64 k ∧ Hid ((l.take k).all (fun n => n == nth l 0) = true)) (fun i => l.length - (intOf i).toNat)
  case atStart => exact ⟨0, Nat.zero_le _, rfl, Lib.hid rfl⟩
  case round =>
    obtain ⟨k, hk, rfl, HA⟩ := hrel
    by_cases hlt : k < l.length
    · obtain ⟨ad, rfl, hbl, hc⟩ := hx.at_ (k := k) hlt
      cases hp : nth l k == nth l 0
      · have hp2 : (nth l k != nth l 0) = true := by rw [cmp_ne, hp]; rfl
        have H2 := Lib.hid (show allEq l = false by rw [allEq_nth]; exact not_all _ l k hlt hp)
        go_wp2_with fail
        refine (constLit_any _ _ _ _ _ _ hx h1 hl hg).mono ?_
        rintro e w2 ⟨rfl, rfl⟩
        rw [hp2]
        go_wp2
        go_ret
        exact ⟨_, rfl, by rw [H2.out]; simp, rfl⟩
      · have hp2 : (nth l k != nth l 0) = false := by rw [cmp_ne, hp]; rfl
        have H2 := Lib.hid (all_take_snoc (fun n => n == nth l 0) l k hlt HA.out hp)
        go_wp2_with fail
        refine (constLit_any _ _ _ _ _ _ hx h1 hl hg).mono ?_
        rintro e w2 ⟨rfl, rfl⟩
        rw [hp2]
        go_wp2
        go_round
        case rel => exact ⟨k + 1, by omega, by go_num, H2⟩
        case measure => simp [intOf]; omega
    · obtain rfl : k = l.length := by omega
      rw [List.take_length] at HA
      go_wp2
      go_ret
      exact ⟨_, rfl, by rw [allEq_nth, HA.out]; rfl, rfl⟩

set_option maxHeartbeats 400000 in
theorem containsConst_any (A : Option Addr) (c g : Nat) (l : List Int) (w : World) (hx : IntsR w w.heap.size A l) (h1 : 1 ≤ l.length) (hl : l.length ≤ 64) (hg : w.cell? ⟨g, 0, none⟩ = some (.slice A l.length c)) :
    Calls Try.prog 151 #[.slice A l.length c, .func (.func 152) #[] #[.pointer (some ⟨g, 0, none⟩)]] w fun e w' => e = .returned (.bool (!allEq l)) ∧ w' = w := by
  go_enter Try.func151, Try.ntmps151
  go_wp2_with (go_at_call 168; refine (indexConst_any _ _ _ _ _ hx h1 hl hg).mono ?_; rintro e w' ⟨r, rfl, hr, rfl⟩)
  go_ret
  exact ⟨ret_bool (by rw [← hr]), rfl⟩

set_option maxHeartbeats 400000 in
theorem isConstant_any (A : Option Addr) (c : Nat) (l : List Int) (w : World) (hx : IntsR w w.heap.size A l) (h1 : 1 ≤ l.length) (hl : l.length ≤ 64) :
    Calls Try.prog 132 #[.slice A l.length c] w fun e w' => e = .returned (.bool (allEq l)) ∧ Below w.heap.size w w' := by
  have hb1 : Below w.heap.size w (w.alloc (.cells #[.slice A l.length c] 29)) := (Below.refl _ _).alloc (Nat.le_refl _) _
  have hx1 := ints_call hb1 hx
  have hg : (w.alloc (.cells #[.slice A l.length c] 29)).cell? ⟨w.heap.size, 0, none⟩ = some (.slice A l.length c) := alloc_cell _ _ _ 0
  go_enter Try.func132, Try.ntmps132
  go_wp2_with (go_at_call 151; refine (containsConst_any _ _ _ _ _ hx1 h1 hl hg).mono ?_; rintro e w' ⟨rfl, rfl⟩)
  go_ret
  exact ⟨ret_bool (by simp), hb1⟩
end Go.Proofs.Ytglkjiimmlobbaa
