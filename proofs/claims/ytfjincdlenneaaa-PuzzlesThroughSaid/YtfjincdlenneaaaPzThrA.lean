/-
  CONTRACTS of the law's own functions: earlier, has; what they say of mazes. (The first ones written out of PzHunP, PzHun, PzHas.)
-/
import Derived.Test.YtfjincdlenneaaaPzMazN
import Derived.Test.YtfjincdlenneaaaPzMazF
namespace Go.Proofs.Ytfjincdlenneaaa
open Go.RowKit Go.Shelf
/-- what 'earlier' answers -/
def earM : List Int → List Int → Bool
  | x :: a, y :: b => if x = y then earM a b else decide (x < y)
  | _, _ => false
theorem earM_app (h a b : List Int) : earM (h ++ a) (h ++ b) = earM a b := by
  induction h with
  | nil => rfl
  | cons x r ih => simp [earM, ih]
theorem earM_hit {a b : List Int} {k : Nat} (h1 : k < a.length) (h2 : k < b.length) (he : ∀ j, j < k → nth a j = nth b j) (hne : nth a k ≠ nth b k) : earM a b = decide (nth a k < nth b k) := by
  induction a generalizing b k with
  | nil => simp at h1
  | cons x r ih =>
    cases b with
    | nil => simp at h2
    | cons y s =>
      cases k with
      | zero =>
        have h : x ≠ y := hne
        simp only [earM]
        rw [if_neg h]
        rfl
      | succ k =>
        have h : x = y := he 0 (by omega)
        simp only [earM]
        rw [if_pos h]
        exact ih (b := s) (k := k) (by simpa using h1) (by simpa using h2) (fun j hj => he (j + 1) (by omega)) hne
theorem earM_miss {a b : List Int} (he : ∀ j, j < a.length → j < b.length → nth a j = nth b j) : earM a b = false := by
  induction a generalizing b with
  | nil => cases b <;> rfl
  | cons x r ih =>
    cases b with
    | nil => rfl
    | cons y s =>
      have h : x = y := he 0 (by simp) (by simp)
      simp only [earM]
      rw [if_pos h]
      exact ih (fun j h1 h2 => he (j + 1) (by simpa using h1) (by simpa using h2))
set_option maxHeartbeats 400000 in
theorem earlierM_any (A1 A2 : Option Addr) (k1 k2 : Nat) (x y : List Int) (w : World) (hx : IntsR w w.heap.size A1 x) (hy : IntsR w w.heap.size A2 y) (lx : x.length ≤ 1000) (_ly : y.length ≤ 1000) :
    Calls Try.prog 58 #[.slice A1 x.length k1, .slice A2 y.length k2] w fun e w' => e = .returned (.bool (earM x y)) ∧ Below w.heap.size w w' := by
  go_enter Try.func58, Try.ntmps58
  go_wp2
  go_loopw [5] (fun i wr => ∃ k : Nat, k ≤ x.length ∧ k ≤ y.length ∧ i = .int .i64 k ∧ Hid (∀ j, j < k → nth x j = nth y j) ∧ Below w.heap.size w wr) (fun i _ => x.length - (intOf i).toNat)
  case atStart => exact ⟨0, Nat.zero_le _, Nat.zero_le _, rfl, Lib.hid (fun j h => by omega), Below.refl _ _⟩
  case round =>
    obtain ⟨k, hk, hk2, rfl, HA, hB⟩ := hrel
    by_cases hlt : k < x.length
    · by_cases hlt2 : k < y.length
      · obtain ⟨a1, rfl, hb1, hc1⟩ := hx.at_ hlt
        obtain ⟨a2, rfl, hb2, hc2⟩ := hy.at_ hlt2
        have d1 := (hB.cell (p := a1.add k) (by rw [block_of_add]; omega)).trans hc1
        have d2 := (hB.cell (p := a2.add k) (by rw [block_of_add]; omega)).trans hc2
        by_cases he : nth x k = nth y k
        · have hb3 : (nth x k != nth y k) = false := by simp [he]
          have HE := Lib.hid he
          clear he hc1 hc2
          go_wp2
          go_quiet (fail)
          go_wp2
          go_roundw
          case rel => exact ⟨k + 1, by omega, by omega, by go_num, Lib.hid (fun j hj => by rcases Nat.lt_succ_iff_lt_or_eq.1 hj with h | rfl; exact HA.out j h; exact HE.out), below_drewN hB _⟩
          case measure => simp [intOf]; omega
        · have hb3 : (nth x k != nth y k) = true := by simpa using he
          have HE := Lib.hid (earM_hit hlt hlt2 HA.out he)
          clear he hc1 hc2
          go_wp2
          go_quiet (fail)
          go_wp2
          go_quiet (fail)
          go_wp2
          go_ret
          exact ⟨ret_bool HE.out.symm, below_drewN (below_drewN hB _) _⟩
      · have HM := Lib.hid (earM_miss (a := x) (b := y) (fun j h1 h2 => HA.out j (by omega)))
        go_wp2
        go_ret
        exact ⟨ret_bool HM.out.symm, hB⟩
    · have HM := Lib.hid (earM_miss (a := x) (b := y) (fun j h1 h2 => HA.out j (by omega)))
      go_wp2
      go_ret
      exact ⟨ret_bool HM.out.symm, hB⟩
/-- a list has a number -/
def hasM (l : List Int) (n : Int) : Bool := l.contains n

set_option maxHeartbeats 1000000 in
theorem lhasM_any (A : Option Addr) (c : Nat) (l : List Int) (n : Int) (w : World) (hx : IntsR w w.heap.size A l) (hl : l.length ≤ 1000000) :
    Calls Try.prog 55 #[.slice A l.length c, I n] w fun e w' => e = .returned (.bool (hasM l n)) ∧ w' = w := by
  go_enter Try.func55, Try.ntmps55
  go_wp2_with fail
  go_loop [5] (fun i => ∃ k : Nat, k ≤ l.length ∧ i = .int .i64 k ∧ Hid (∀ j, j < k → nth l j ≠ n)) (fun i => l.length - (intOf i).toNat)
  case atStart => exact ⟨0, Nat.zero_le _, rfl, Lib.hid (fun j hj => by omega)⟩
  case round =>
    obtain ⟨k, hk, rfl, HA⟩ := hrel
    by_cases hlt : k < l.length
    · obtain ⟨ad, rfl, hb, hc⟩ := hx.at_ hlt
      by_cases he : nth l k = n
      · have HR := Lib.hid (show hasM l n = true by rw [hasM, List.contains_iff_mem, ← he, nth_lt hlt]; exact List.getElem_mem hlt)
        have g1 : (nth l k == n) = true := by simpa using he
        have HE := Lib.hid he
        clear he
        go_wp2
        go_ret
        exact ⟨ret_bool HR.out.symm, rfl⟩
      · have HN := Lib.hid (show ∀ j, j < k + 1 → nth l j ≠ n from fun j hj => by
          by_cases e : j = k
          · rw [e]; exact he
          · exact HA.out j (by omega))
        have g1 : (nth l k == n) = false := by simpa using he
        clear he
        go_wp2
        go_round
        case rel => exact ⟨k + 1, by omega, by go_num, HN⟩
        case measure => simp [intOf]; omega
    · obtain rfl : k = l.length := by omega
      have HR := Lib.hid (show hasM l n = false by
        rw [hasM, ← Bool.not_eq_true, List.contains_iff_mem]
        intro hm
        obtain ⟨j, hj, e⟩ := List.getElem_of_mem hm
        exact HA.out j hj (by rw [nth_lt hj]; exact e))
      go_wp2
      go_ret
      exact ⟨ret_bool HR.out.symm, rfl⟩
/-- of two lists that are as long, the earlier one has the lesser number -/
theorem cod_ear (a : List Int) : ∀ b, Mv a → Mv b → a.length = b.length → earM a b = true → cod a < cod b := by
  induction a with
  | nil => intro b _ _ _ h; cases b <;> simp [earM] at h
  | cons x a ih =>
    intro b ha hb hl h
    cases b with
    | nil => simp [earM] at h
    | cons y b =>
      have h1 := Mv.cons.1 ha
      have h2 := Mv.cons.1 hb
      have hl' : a.length = b.length := by simpa using hl
      simp only [earM] at h
      by_cases e : x = y
      · rw [if_pos e] at h
        rw [e]
        exact cod_tail h2.1 h2.2 h1.2 (ih b h1.2 h2.2 hl' h)
      · rw [if_neg e] at h
        exact cod_front h1.1.1 (by simpa using h) h2.2 h1.2 hl'
theorem wlk_append (W H : Nat) (wall : Nat → Bool) (c : Nat) (p q : List Int) : wlk W H wall c (p ++ q) = wlk W H wall (wlk W H wall c p) q := by simp [wlk]
/-- from a trap no ball comes through -/
theorem trap_never {W H : Nat} {wall : Nat → Bool} {f t k i : Nat} {ms : List Int} (hk : k ≤ i) (hm : Mv (ms.take i)) (h : trpB W H wall f t (wlk W H wall f (ms.take k)) = true) : wlk W H wall f (ms.take i) ≠ t := by
  have e : ms.take i = ms.take k ++ (ms.take i).drop k := by
    have h1 : (ms.take i).take k = ms.take k := by rw [List.take_take, Nat.min_eq_left hk]
    rw [← h1, List.take_append_drop]
  have hn : escO W H wall (wlk W H wall f (ms.take k)) t = none := by
    rw [trpB] at h
    cases he : escO W H wall (wlk W H wall f (ms.take k)) t with
    | none => rfl
    | some p => rw [he] at h; simp at h
  rw [e, wlk_append]
  exact esc_none hn fun x hx => hm x (List.mem_of_mem_drop hx)
theorem has_nums {T : Nat → Bool} {n c : Nat} (hc : c < n) : hasM (numsG T n) (c : Int) = T c := by
  cases hT : T c
  · rw [hasM, ← Bool.not_eq_true, List.contains_iff_mem]
    intro hm
    rw [numsG, List.mem_map] at hm
    obtain ⟨x, hx, e⟩ := hm
    obtain rfl : x = c := by omega
    rw [List.mem_filter] at hx
    rw [hT] at hx
    exact absurd hx.2 (by simp)
  · rw [hasM, List.contains_iff_mem, numsG, List.mem_map]
    exact ⟨c, List.mem_filter.2 ⟨List.mem_range.2 hc, hT⟩, rfl⟩
theorem escM_len (W H fr tt : Int) (n : Nat) (wall : Nat → Bool) : (escL W H fr tt n wall).length ≤ 64 := by
  rw [escL, escN]
  cases hok : mazB W H fr tt n wall
  · exact Nat.zero_le _
  · obtain ⟨W', H', f, t, rfl, rfl, rfl, rfl, h1, h2, h3, h4, hn, hn9, hf, ht, hwf, hwt⟩ := maz_nat hok
    show ((escO W' H' wall f t).getD []).length ≤ 64
    cases he : escO W' H' wall f t with
    | none => exact Nat.zero_le _
    | some p =>
      have := (esc_some he).few h1 (by rw [← hn]; exact hf) hwf
      show p.length ≤ 64
      omega
theorem trpM_len (W H fr tt : Int) (n : Nat) (wall : Nat → Bool) : (trpL W H fr tt n wall).length ≤ n := by
  rw [trpL]
  split
  · exact numsG_len _ _
  · exact Nat.zero_le _
end Go.Proofs.Ytfjincdlenneaaa
