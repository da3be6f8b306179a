/-
  LAYER 6, CONTRACTS: slices.Clone and slices.DeleteFunc at lists of the call's own.
-/
import Derived.Test.YtehoaenkkmmobaaSrM
namespace Go.Proofs.Ytehoaenkkmmobaa
open Go.RowKit Go.Shelf
theorem OwnI.row {w : World} {base : Nat} {u : Value} {L : List Int} (h : OwnI w base u L) : (u = .slice none 0 0 ∧ L = []) ∨ ∃ g c N F, u = .slice (some ⟨g, 0, none⟩) L.length c ∧ base ≤ g ∧ RowAt w g 3 F N ∧ 0 + c ≤ N ∧ L.length ≤ c ∧ IC F 0 L.toArray := by
  have hi := own_ints h
  rcases h.2 with ⟨rfl, h0⟩ | ⟨g, cap, cur, rfl, hb, hg, h1, h2, h3, h4⟩
  · exact .inl ⟨rfl, List.eq_nil_of_length_eq_zero h0⟩
  · refine .inr ⟨g, cap, cur.size, fun x => cur.getD x undef, rfl, hb, ?_, by omega, h1, fun j hj => ?_⟩
    · rw [RowAt, hg]
      congr 2
      apply Array.ext_getElem?
      intro i
      rw [rowF_get]
      by_cases h : i < cur.size
      · rw [if_pos h]; simp [Array.getD, h]
      · rw [if_neg h, Array.getElem?_eq_none (by omega)]
    · have hj' : j < L.length := by simpa using hj
      obtain ⟨A, c, e, hx, -⟩ := hi
      injection e with e
      subst e
      obtain ⟨ad, e, -, hc⟩ := hx.at_ hj'
      injection e with e
      subst e
      rw [Addr.add_mid, cell_of_row w g _ cur _ _ hg] at hc
      rw [getElem!_pos L.toArray j hj]
      simp only [List.getElem_toArray]
      rw [← nth_lt hj']
      show cur.getD (0 + j) undef = _
      rw [Array.getD_eq_getD_getElem?, hc]
      rfl
theorem clone_own {base : Nat} {u : Value} {L : List Int} {w : World} (h : OwnI w base u L) (hl : L.length ≤ 1000) :
    Calls Try.prog 113 #[u] w fun e w' => ∃ v, e = .returned v ∧ OwnI w' w.heap.size v L ∧ Below w.heap.size w w' := by
  rcases h.row with ⟨rfl, rfl⟩ | ⟨g, c, N, F, rfl, -⟩
  · refine (clone_nil w).mono ?_
    rintro e w' ⟨rfl, rfl⟩
    exact ⟨_, rfl, World.ownsRow_nil _ _ _ _, Below.refl _ _⟩
  · obtain ⟨A, c', e, hx, -⟩ := own_ints h
    injection e with e
    subst e
    exact clone_any _ _ _ _ hx hl
set_option maxRecDepth 100000 in
theorem delete_nil (g : Nat) (lb : Array Value) (w : World) : Calls Try.prog 112 #[.slice none 0 0, .func (.func g) #[] lb] w fun e w' => e = .returned (.slice none 0 0) ∧ w' = w := by
  have hidx : Calls Try.prog 118 #[.slice none 0 0, .func (.func g) #[] lb] w fun e w' => e = .returned (I (-1)) ∧ w' = w := by
    go_enter Try.func118, Try.ntmps118
    go_wp2_with fail
    go_loopw [8] (fun i wr => i = .int .i64 0 ∧ wr = w) (fun _ _ => 0)
    case atStart => exact ⟨rfl, rfl⟩
    case round =>
      obtain ⟨rfl, rfl⟩ := hrel
      go_wp2_with fail
      go_ret
      exact ⟨rfl, rfl⟩
  go_enter Try.func112, Try.ntmps112
  go_wp2_with (go_at_call 118; refine hidx.mono ?_; rintro e w1 ⟨rfl, rfl⟩)
  go_ret
  exact ⟨rfl, rfl⟩
theorem grown_refl (w : World) (row : Option Nat) : w.grownBy w row := ⟨rfl, rfl, rfl, Nat.le_refl _, fun _ _ _ => rfl⟩
theorem ints_of_row {w : World} {g N : Nat} {F : Nat → Value} {L : List Int} (hR : RowAt w g 3 F N) (hN : L.length ≤ N) (hI : IC F 0 L.toArray) : IntsR w w.heap.size (some ⟨g, 0, none⟩) L := fun _ => by
  refine ⟨_, rfl, hR.lt, fun j hj => ?_⟩
  have e := hI j (by simpa using hj)
  rw [Addr.add_mid, hR.at_ (by omega), e, getElem!_pos _ _ (by simpa using hj), nth_lt hj]
  simp
theorem delete_own (g : Nat) (lb : Array Value) (eg : ∀ args w, (callFunc g args).run Try.prog w = .ok (.enter g args) w) (p : Int → Bool) {base : Nat} {u : Value} {L : List Int} {w : World} (h : OwnI w base u L) (hl : L.length ≤ 1000)
    (hp : ∀ (W : World) (x : Int), x ∈ L → w.grownBy W u.ownBlock → Calls Try.prog g (#[I x] ++ lb) W fun e w' => e = .returned (.bool (p x)) ∧ W.grownBy w' none) :
    Calls Try.prog 112 #[u, .func (.func g) #[] lb] w fun e w' => ∃ A c, e = .returned (.slice A (L.filter fun x => !p x).length c) ∧ IntsR w' w'.heap.size A (L.filter fun x => !p x) ∧ w.grownBy w' u.ownBlock := by
  rcases h.row with ⟨rfl, rfl⟩ | ⟨b, c, N, F, rfl, -, hR, hN, hc, hI⟩
  · refine (delete_nil g lb w).mono ?_
    rintro e w' ⟨rfl, rfl⟩
    exact ⟨none, 0, rfl, fun h => absurd h (by simp), grown_refl _ _⟩
  · have hd := deleteI_any g lb eg p b 0 c N F L.toArray w (fun W x hx hg => hp W x (by simpa using hx) hg) hR hI hN (by rw [List.size_toArray]; exact hc) (by rw [List.size_toArray]; omega)
    rw [List.size_toArray] at hd
    refine hd.mono ?_
    rintro e w' ⟨F', rfl, hg, hR', hI'⟩
    exact ⟨_, _, rfl, ints_of_row hR' (Nat.le_trans (List.length_filter_le _ _) (by omega)) hI', hg⟩
end Go.Proofs.Ytehoaenkkmmobaa
