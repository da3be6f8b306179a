/-
  CONTRACTS: contains (of the document's own answers, and of the law), has.
-/
import Derived.Test.YtglkjiimmlobbaaPzRMixB
import Derived.Lib.IndexMore
namespace Go.Proofs.Ytglkjiimmlobbaa
open Go.RowKit Go.Shelf
def hasS (s p : ByteArray) : Bool := Lib.contains s.data.toList p.data.toList
theorem hasS_hit {s p : ByteArray} {k : Nat} (hk : k ≤ s.size) (ho : Lib.occAt s.data.toList p.data.toList k = true) (hn : ∀ j, j < k → Lib.occAt s.data.toList p.data.toList j = false) : hasS s p = true := by
  have := Lib.index_first (i := k) (by simpa using hk) ho hn
  rw [hasS, Lib.contains, this]
  simp
theorem hasS_miss {s p : ByteArray} {k : Nat} (hk : s.size < k + p.size) (hn : ∀ j, j < k → Lib.occAt s.data.toList p.data.toList j = false) : hasS s p = false := by
  have : Lib.index s.data.toList p.data.toList = -1 := by
    refine Lib.index_none fun j hj => ?_
    by_cases hlt : j < k
    · exact hn j hlt
    · cases ho : Lib.occAt s.data.toList p.data.toList j
      · rfl
      · have h1 := (List.isPrefixOf_iff_prefix.1 ho).length_le
        have e1 : s.data.toList.length = s.size := by simp
        have e2 : p.data.toList.length = p.size := by simp
        rw [List.length_drop, e1, e2] at h1
        rw [e1] at hj
        omega
  rw [hasS, Lib.contains, this]
  rfl

theorem piece_eq (s p : ByteArray) (k : Nat) : ((s.extract k (k + p.size)).toList == p.toList) = Lib.occAt s.data.toList p.data.toList k := by
  rw [Lib.extract_toList, Lib.toList_data, Lib.occAt, show k + p.size - k = p.size by omega]
  have hp : p.data.toList.length = p.size := by simp
  rw [Bool.eq_iff_iff, List.isPrefixOf_iff_prefix, List.prefix_iff_eq_take, hp, beq_iff_eq]
  exact ⟨fun h => h.symm, fun h => h.symm⟩

set_option maxHeartbeats 1000000 in
theorem rcontains_any (s p : ByteArray) (w : World) (hs : s.size ≤ 1000000) (hp : p.size ≤ 1000000) :
    Calls Try.prog 77 #[.string s, .string p] w fun e w' => e = .returned (.bool (hasS s p)) ∧ w' = w := by
  go_enter Try.func77, Try.ntmps77
  go_wp2_with fail
  go_loop [5] (fun i => ∃ k : Nat, k ≤ s.size + 1 ∧ i = .int .i64 k ∧ Hid (∀ j, j < k → Lib.occAt s.data.toList p.data.toList j = false)) (fun i => s.size + 1 - (intOf i).toNat)
  case atStart => exact ⟨0, Nat.zero_le _, rfl, Lib.hid (fun j hj => by omega)⟩
  case round =>
    obtain ⟨k, hk, rfl, HA⟩ := hrel
    by_cases hlt : k + p.size ≤ s.size
    · have g1 : (k : Int) + (p.size : Int) ≤ (s.size : Int) := by omega
      have g2 : decide ((k : Int) + (p.size : Int) ≤ (s.size : Int)) = true := decide_eq_true g1
      have HP := Lib.hid (piece_eq s p k)
      cases hq : ((s.extract k (k + p.size)).toList == p.toList)
      · have HN := Lib.hid (show ∀ j, j < k + 1 → Lib.occAt s.data.toList p.data.toList j = false from fun j hj => by
          by_cases e : j = k
          · rw [e, ← HP.out, hq]
          · exact HA.out j (by omega))
        go_wp2_with fail
        go_round
        case rel => exact ⟨k + 1, by omega, by go_num, HN⟩
        case measure => simp [intOf]; omega
      · have HR := Lib.hid (hasS_hit (by omega) (by rw [← HP.out, hq]) HA.out)
        go_wp2_with fail
        go_ret
        exact ⟨ret_bool HR.out.symm, rfl⟩
    · have g1 : ¬ (k : Int) + (p.size : Int) ≤ (s.size : Int) := by omega
      have g2 : decide ((k : Int) + (p.size : Int) ≤ (s.size : Int)) = false := decide_eq_false g1
      have HR := Lib.hid (hasS_miss (by omega) HA.out)
      go_wp2
      go_ret
      exact ⟨ret_bool HR.out.symm, rfl⟩

set_option maxHeartbeats 1000000 in
theorem lcontains_any (s p : ByteArray) (w : World) (hs : s.size ≤ 1000000) (hp : p.size ≤ 1000000) :
    Calls Try.prog 54 #[.string s, .string p] w fun e w' => e = .returned (.bool (hasS s p)) ∧ w' = w := by
  go_enter Try.func54, Try.ntmps54
  go_wp2_with fail
  go_loop [5] (fun i => ∃ k : Nat, k ≤ s.size + 1 ∧ i = .int .i64 k ∧ Hid (∀ j, j < k → Lib.occAt s.data.toList p.data.toList j = false)) (fun i => s.size + 1 - (intOf i).toNat)
  case atStart => exact ⟨0, Nat.zero_le _, rfl, Lib.hid (fun j hj => by omega)⟩
  case round =>
    obtain ⟨k, hk, rfl, HA⟩ := hrel
    by_cases hlt : k + p.size ≤ s.size
    · have g1 : (k : Int) + (p.size : Int) ≤ (s.size : Int) := by omega
      have g2 : decide ((k : Int) + (p.size : Int) ≤ (s.size : Int)) = true := decide_eq_true g1
      have HP := Lib.hid (piece_eq s p k)
      cases hq : ((s.extract k (k + p.size)).toList == p.toList)
      · have HN := Lib.hid (show ∀ j, j < k + 1 → Lib.occAt s.data.toList p.data.toList j = false from fun j hj => by
          by_cases e : j = k
          · rw [e, ← HP.out, hq]
          · exact HA.out j (by omega))
        go_wp2_with fail
        go_round
        case rel => exact ⟨k + 1, by omega, by go_num, HN⟩
        case measure => simp [intOf]; omega
      · have HR := Lib.hid (hasS_hit (by omega) (by rw [← HP.out, hq]) HA.out)
        go_wp2_with fail
        go_ret
        exact ⟨ret_bool HR.out.symm, rfl⟩
    · have g1 : ¬ (k : Int) + (p.size : Int) ≤ (s.size : Int) := by omega
      have g2 : decide ((k : Int) + (p.size : Int) ≤ (s.size : Int)) = false := decide_eq_false g1
      have HR := Lib.hid (hasS_miss (by omega) HA.out)
      go_wp2
      go_ret
      exact ⟨ret_bool HR.out.symm, rfl⟩

/-- a list has a number -/
def hasI (l : List Int) (n : Int) : Bool := l.contains n

set_option maxHeartbeats 1000000 in
theorem lhas_any (A : Option Addr) (c : Nat) (l : List Int) (n : Int) (w : World) (hx : IntsR w w.heap.size A l) (hl : l.length ≤ 1000000) :
    Calls Try.prog 55 #[.slice A l.length c, I n] w fun e w' => e = .returned (.bool (hasI l n)) ∧ w' = w := by
  go_enter Try.func55, Try.ntmps55
  go_wp2_with fail
  go_loop [5] (fun i => ∃ k : Nat, k ≤ l.length ∧ i = .int .i64 k ∧ Hid (∀ j, j < k → nth l j ≠ n)) (fun i => l.length - (intOf i).toNat)
  case atStart => exact ⟨0, Nat.zero_le _, rfl, Lib.hid (fun j hj => by omega)⟩
  case round =>
    obtain ⟨k, hk, rfl, HA⟩ := hrel
    by_cases hlt : k < l.length
    · obtain ⟨ad, rfl, hb, hc⟩ := hx.at_ hlt
      by_cases he : nth l k = n
      · have HR := Lib.hid (show hasI l n = true by rw [hasI, List.contains_iff_mem, ← he, nth_lt hlt]; exact List.getElem_mem hlt)
        have g1 : (nth l k == n) = true := by simpa using he
        have HE := Lib.hid he
        clear he
        go_wp2
        go_ret
        exact ⟨ret_bool HR.out.symm, rfl⟩
      · have HN := Lib.hid (show ∀ j, j < k + 1 → nth l j ≠ n from fun j hj => by
          by_cases e : j = k
          · rw [e]; exact he
          · exact HA.out j (by omega))
        have g1 : (nth l k == n) = false := by simpa using he
        clear he
        go_wp2
        go_round
        case rel => exact ⟨k + 1, by omega, by go_num, HN⟩
        case measure => simp [intOf]; omega
    · obtain rfl : k = l.length := by omega
      have HR := Lib.hid (show hasI l n = false by
        rw [hasI, ← Bool.not_eq_true, List.contains_iff_mem]
        intro hm
        obtain ⟨j, hj, e⟩ := List.getElem_of_mem hm
        exact HA.out j hj (by rw [nth_lt hj]; exact e))
      go_wp2
      go_ret
      exact ⟨ret_bool HR.out.symm, rfl⟩
end Go.Proofs.Ytglkjiimmlobbaa
