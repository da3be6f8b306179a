/-
  LAYER 6: CONTRACTS: slices.Min at numbers, the closure of wayBack.
-/
import Derived.Test.YtehoaenkkmmobaaSrK
namespace Go.Proofs.Ytehoaenkkmmobaa
open Go.RowKit Go.Shelf
set_option maxRecDepth 100000 in
set_option maxHeartbeats 2000000 in
theorem min_any (A : Option Addr) (c : Nat) (xs : List Int) (w : World) (hx : IntsR w w.heap.size A xs) (h0 : 0 < xs.length) (hl : xs.length ≤ 1000) :
    Calls Try.prog 115 #[.slice A xs.length c] w fun e w' => ∃ m, e = .returned (I m) ∧ (∃ j, j < xs.length ∧ m = nth xs j) ∧ (∀ j, j < xs.length → m ≤ nth xs j) ∧ w' = w := by
  obtain ⟨ad, rfl, hbl, hc0⟩ := hx.at_ (k := 0) h0
  have HX := Lib.hid hx
  have e0 : ad.add 0 = ad := by unfold Addr.add; split <;> simp_all
  rw [e0] at hc0
  clear hx e0
  go_enter Try.func115, Try.ntmps115
  go_wp2_with fail
  go_loopw [3, 4] (fun m i wr => ∃ (k : Nat) (v : Int), 1 ≤ k ∧ k ≤ xs.length ∧ i = .int .i64 k ∧ m = I v ∧ wr = w ∧ Hid ((∃ j, j < xs.length ∧ v = nth xs j) ∧ ∀ j, j < k → v ≤ nth xs j)) (fun _ i _ => xs.length - (intOf i).toNat)
  case atStart => exact ⟨1, nth xs 0, Nat.le_refl _, h0, by go_num, rfl, rfl, Lib.hid ⟨⟨0, h0, rfl⟩, fun j hj => by rw [show j = 0 by omega]; exact Int.le_refl _⟩⟩
  case round =>
    obtain ⟨k, v, hk1, hk, rfl, rfl, rfl, HM⟩ := hrel
    by_cases hlt : k < xs.length
    · obtain ⟨ad', e, -, hck⟩ := HX.out.at_ (k := k) hlt
      injection e with e
      subst e
      obtain ⟨y, hy⟩ : ∃ y, y = nth xs k := ⟨_, rfl⟩
      rw [← hy] at hck
      have HY := Lib.hid hy
      clear hy
      go_wp2_with fail
      all_goals go_roundw
      case rel => exact ⟨k + 1, min v y, by omega, by omega, by go_num, by first | rfl | (simp; omega), by simp, Lib.hid ⟨by
        rcases Int.le_total v y with h | h
        · rw [Int.min_eq_left h]; exact HM.out.1
        · rw [Int.min_eq_right h]; exact ⟨k, hlt, HY.out⟩, fun j hj => by
        rcases Nat.lt_or_ge j k with h | h
        · exact Int.le_trans (Int.min_le_left _ _) (HM.out.2 j h)
        · obtain rfl : j = k := by omega
          rw [← HY.out]; exact Int.min_le_right _ _⟩⟩
      case measure => simp [intOf]; omega
    · obtain rfl : k = xs.length := by omega
      go_wp2_with fail
      go_ret
      exact ⟨v, rfl, HM.out.1, HM.out.2, rfl⟩
set_option maxRecDepth 100000 in
theorem isKnown_any (P g : Nat) (vP : Value) (AE AD : Option Addr) (cE cD : Nat) (mo : Int) (tu at_ : Nat) (vL vB vT : Value) (lost : Bool) (B n : Nat) (G : List (List Ed)) (D : List Int) (mem : List Lk) (p : Nat) (w : World)
    (hP : PlAt w P (plC vP AE AD G.length cE D.length cD mo tu at_ vL B vB lost vT)) (hm : MdR w AE AD G D) (hv : Vld G D) (hl : LnkR w B n mem) (hp : p < G.length) (ht : tu ≤ 99) (hg : w.cell? ⟨g, 0, none⟩ = some (.pointer (some ⟨P, 0, none⟩))) :
    Calls Try.prog 111 #[I p, .pointer (some ⟨g, 0, none⟩)] w fun e w' => e = .returned (.bool (untr (eOf G) tu mem p).isNone) ∧ w' = w := by
  have hcall := untried_any P vP AE AD cE cD mo tu at_ vL vB vT lost B n G D mem p w hP hm hv hl hp ht
  obtain ⟨u, hu⟩ : ∃ u, u = untr (eOf G) tu mem p := ⟨_, rfl⟩
  rw [← hu] at hcall ⊢
  clear hu hP hm hv hl
  go_enter Try.func111, Try.ntmps111
  go_wp2_with (go_at_call 102; refine hcall.mono ?_; rintro e w2 ⟨rfl, rfl⟩)
  go_ret
  exact ⟨ret_bool (by cases u <;> rfl), rfl⟩
end Go.Proofs.Ytehoaenkkmmobaa
