/-
  CONTRACTS: used, balance.tips, balance.isValid.
-/
import Derived.Test.YtglkjiimmlobbaaPzAdv
import Derived.Test.YtglkjiimmlobbaaPzWgh
namespace Go.Proofs.Ytglkjiimmlobbaa
open Go.RowKit Go.Shelf
abbrev balV (A : Option Addr) (c : Nat) (ws : List Int) (load : Int) : Value := .agg #[.slice A ws.length c, I load]
def balB (ws : List Int) (load : Int) : Bool := decide (ws.length ≤ 10) && inB 1 10000 ws && wi load 0 10000
theorem usedT_nth {ss : List Int} {k : Nat} (h : k < ss.length) : usedT ss (k + 1) = usedT ss k + if nth ss k = 0 then 0 else 1 := by rw [usedT_succ h, nth_lt h]
theorem usedT_le (ss : List Int) (k : Nat) : usedT ss k ≤ k := by
  rw [usedT, usedL]
  exact Nat.le_trans (List.length_filter_le _ _) (by simp; omega)

set_option maxHeartbeats 400000 in
theorem used_any (A : Option Addr) (c : Nat) (ss : List Int) (w : World) (hx : IntsR w w.heap.size A ss) (hl : ss.length ≤ maxLen) :
    Calls Try.prog 90 #[.slice A ss.length c] w fun e w' => e = .returned (I (usedL ss : Nat)) ∧ w' = w := by
  unfold maxLen at hl
  go_enter Try.func90, Try.ntmps90
  go_wp2
  go_loop [3, 8] (fun n i => ∃ k u : Nat, k ≤ ss.length ∧ u ≤ k ∧ i = .int .i64 k ∧ n = .int .i64 u ∧ Hid (u = usedT ss k)) (fun _ i => ss.length - (intOf i).toNat)
  case atStart => exact ⟨0, 0, Nat.zero_le _, Nat.le_refl _, rfl, rfl, Lib.hid rfl⟩
  case round =>
    obtain ⟨k, u, hk, hu, rfl, rfl, HU⟩ := hrel
    by_cases hlt : k < ss.length
    · obtain ⟨ad, rfl, hb, hc⟩ := hx.at_ hlt
      have H1 := Lib.hid (usedT_nth hlt)
      generalize hs : nth ss k = x at *
      clear hs
      by_cases he : x = 0
      · have hb0 : (x != 0) = false := by simp [he]
        have HE := Lib.hid he
        clear he
        go_wp2
        go_round
        case rel => exact ⟨k + 1, u, by omega, by omega, by go_num, rfl, Lib.hid (by rw [H1.out, if_pos HE.out, HU.out]; rfl)⟩
        case measure => simp [intOf]; omega
      · have hb0 : (x != 0) = true := by simpa using he
        have HE := Lib.hid he
        clear he
        go_wp2
        go_round
        case rel => exact ⟨k + 1, u + 1, by omega, by omega, by go_num, by go_num, Lib.hid (by rw [H1.out, if_neg HE.out, HU.out])⟩
        case measure => simp [intOf]; omega
    · obtain rfl : k = ss.length := by omega
      go_wp2
      go_ret
      exact ⟨ret_int (by rw [HU.out, usedT_all]), rfl⟩

theorem tip_mul {s x : Int} (h1 : -1 ≤ s) (h2 : s ≤ 1) (h3 : 1 ≤ x) (h4 : x ≤ 10000) : -10000 ≤ s * x ∧ s * x ≤ 10000 := by
  obtain rfl | rfl | rfl : s = -1 ∨ s = 0 ∨ s = 1 := by omega
  all_goals constructor <;> omega
theorem tipT_step (ws ss : List Int) (k : Nat) : tipT ws ss (k + 1) = tipT ws ss k + nth ss k * nth ws k := rfl

set_option maxHeartbeats 1000000 in
theorem tips_any (A1 A2 : Option Addr) (c1 c2 : Nat) (ws ss : List Int) (load : Int) (w : World) (hx : IntsR w w.heap.size A1 ws) (hy : IntsR w w.heap.size A2 ss) (hl : ws.length ≤ 10) (hls : ss.length = ws.length)
    (hw : ∀ i, i < ws.length → 1 ≤ nth ws i ∧ nth ws i ≤ 10000) (hs : ∀ i, i < ws.length → -1 ≤ nth ss i ∧ nth ss i ≤ 1) (h0 : 0 ≤ load) (h1 : load ≤ 10000) :
    Calls Try.prog 85 #[balV A1 c1 ws load, .slice A2 ss.length c2] w fun e w' => e = .returned (I (tipL ws ss load)) ∧ Below w.heap.size w w' := by
  obtain ⟨w1, hw1⟩ : ∃ w1, w1 = w.alloc (.cells #[.slice A1 ws.length c1, I load] 93) := ⟨_, rfl⟩
  have hb1 : Below w.heap.size w w1 := by rw [hw1]; exact (Below.refl _ _).alloc (Nat.le_refl _) _
  have l0 : w1.cell? ⟨w.heap.size, 0, none⟩ = some (.slice A1 ws.length c1) := by rw [hw1]; exact alloc_cell _ _ _ 0
  have l1 : w1.cell? ⟨w.heap.size, 1, none⟩ = some (I load) := by rw [hw1]; exact alloc_cell _ _ _ 1
  have hx1 := ints_call hb1 hx
  have hy1 := ints_call hb1 hy
  have HW := Lib.hid hw
  have HS := Lib.hid hs
  clear hx hy hw hs
  go_enter Try.func85, Try.ntmps85
  go_upto_region 1 with fail
  rw [← hw1]
  clear hw1
  go_wp2
  go_loop [5, 13] (fun n i => ∃ (k : Nat) (t : Int), k ≤ ws.length ∧ i = .int .i64 k ∧ n = .int .i64 t ∧ -10000 - 10000 * (k : Int) ≤ t ∧ t ≤ 10000 * (k : Int) ∧ Hid (t = -load + tipT ws ss k)) (fun _ i => ws.length - (intOf i).toNat)
  case atStart => exact ⟨0, -load, Nat.zero_le _, rfl, rfl, by omega, by omega, Lib.hid (by simp [tipT])⟩
  case round =>
    obtain ⟨k, t, hk, rfl, rfl, ht1, ht2, HT⟩ := hrel
    by_cases hlt : k < ws.length
    · obtain ⟨ad, rfl, hb, hc⟩ := hx1.at_ hlt
      obtain ⟨ad2, rfl, hb2, hc2⟩ := hy1.at_ (k := k) (by omega)
      have a1 := HW.out k hlt
      have a2 := HS.out k hlt
      have H1 := Lib.hid (tipT_step ws ss k)
      generalize nth ws k = x at *
      generalize nth ss k = y at *
      have hm := tip_mul a2.1 a2.2 a1.1 a1.2
      have em : IntKind.i64.wrap (y * x) = y * x := (IntWalk.i64_left _).trans (IntWalk.wrap64_in _ ⟨by omega, by omega⟩)
      have et : IntKind.i64.wrap (t + y * x) = t + y * x := (IntWalk.i64_left _).trans (IntWalk.wrap64_in _ ⟨by omega, by omega⟩)
      have hm1 := hm.1
      have hm2 := hm.2
      clear hm a1 a2
      go_wp2
      go_round
      case rel => exact ⟨k + 1, t + y * x, by omega, by go_num, rfl, by omega, by omega, Lib.hid (by rw [H1.out, HT.out, Int.add_assoc])⟩
      case measure => simp [intOf]; omega
    · obtain rfl : k = ws.length := by omega
      go_wp2
      go_ret
      exact ⟨ret_int (by rw [HT.out, tipL]), hb1⟩

set_option maxHeartbeats 1000000 in
theorem isValid_any (A1 : Option Addr) (c1 : Nat) (ws : List Int) (load : Int) (w : World) (hx : IntsR w w.heap.size A1 ws) (hl : ws.length ≤ maxLen) :
    Calls Try.prog 83 #[balV A1 c1 ws load] w fun e w' => e = .returned (.bool (balB ws load)) ∧ Below w.heap.size w w' := by
  have hl' := hl
  unfold maxLen at hl'
  obtain ⟨w1, hw1⟩ : ∃ w1, w1 = w.alloc (.cells #[.slice A1 ws.length c1, I load] 93) := ⟨_, rfl⟩
  have hb1 : Below w.heap.size w w1 := by rw [hw1]; exact (Below.refl _ _).alloc (Nat.le_refl _) _
  have l0 : w1.cell? ⟨w.heap.size, 0, none⟩ = some (.slice A1 ws.length c1) := by rw [hw1]; exact alloc_cell _ _ _ 0
  have l1 : w1.cell? ⟨w.heap.size, 1, none⟩ = some (I load) := by rw [hw1]; exact alloc_cell _ _ _ 1
  have hs1 : w.heap.size < w1.heap.size := by rw [hw1]; simp
  have hx1 := ints_call hb1 hx
  clear hx
  by_cases hlen : ws.length ≤ 10
  · have dl : decide (ws.length ≤ 10) = true := by simp [hlen]
    cases hq : inB 1 10000 ws
    · have H2 := Lib.hid (show balB ws load = false by rw [balB, hq, Bool.and_false]; rfl)
      clear dl
      go_enter Try.func83, Try.ntmps83
      go_upto_region 1 with fail
      rw [← hw1]
      clear hw1
      go_wp2_with (go_at_call 130; refine (allWithin_any _ _ _ _ ws _ hx1 hl).mono ?_; rintro e w' ⟨rfl, hb⟩; rw [hq])
      go_ret
      exact ⟨ret_bool H2.out.symm, hb1.trans (hb.mono (by omega))⟩
    · have H2 := Lib.hid (show balB ws load = wi load 0 10000 by rw [balB, hq, dl]; rfl)
      clear dl
      go_enter Try.func83, Try.ntmps83
      go_upto_region 1 with fail
      rw [← hw1]
      clear hw1
      go_wp2_with (first
        | (go_at_call 130; refine (allWithin_any _ _ _ _ ws _ hx1 hl).mono ?_; rintro e w' ⟨rfl, hb⟩; rw [hq]; have l1 := (hb.cell (p := ⟨w.heap.size, 1, none⟩) hs1).trans l1)
        | (go_at_call 65; refine (within_any _ _ _ _).mono ?_; rintro e w' ⟨rfl, rfl⟩))
      go_ret
      exact ⟨ret_bool H2.out.symm, hb1.trans (hb.mono (by omega))⟩
  · have H2 := Lib.hid (show balB ws load = false by rw [balB, decide_eq_false hlen]; rfl)
    go_enter Try.func83, Try.ntmps83
    go_upto_region 1 with fail
    rw [← hw1]
    clear hw1
    go_wp2
    go_ret
    exact ⟨ret_bool H2.out.symm, hb1⟩
end Go.Proofs.Ytglkjiimmlobbaa
