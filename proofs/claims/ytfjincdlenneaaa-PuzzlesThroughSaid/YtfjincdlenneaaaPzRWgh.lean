/-
  CONTRACTS of the reference: Within, weighable, tips, Tips, weighings.
-/
import Derived.Test.YtfjincdlenneaaaPzTips
import Derived.Deep.OwnRows
namespace Go.Proofs.Ytfjincdlenneaaa
open Go.RowKit Go.Shelf
set_option maxHeartbeats 400000 in
theorem rWithin_any (n lo hi : Int) (w : World) :
    Calls Try.prog 67 #[I n, I lo, I hi] w fun e w' => e = .returned (.bool (wi n lo hi)) ∧ w' = w := by
  by_cases h : lo ≤ n
  all_goals
    go_enter Try.func67, Try.ntmps67
    go_wp2
    go_ret
    exact ⟨ret_bool (by simp [wi]; omega), rfl⟩

theorem bal_split (ws : List Int) (load : Int) (h : inB 1 10000 ws = true) : balB ws load = (decide (ws.length ≤ 10) && wi load 0 10000) := by
  rw [balB, h, Bool.and_true]
set_option maxHeartbeats 1000000 in
theorem weighable_any (A : Option Addr) (c : Nat) (ws : List Int) (load : Int) (w : World) (hx : IntsR w w.heap.size A ws) (hl : ws.length ≤ maxLen) :
    Calls Try.prog 86 #[.slice A ws.length c, I load] w fun e w' => e = .returned (.bool (balB ws load)) ∧ w' = w := by
  unfold maxLen at hl
  go_enter Try.func86, Try.ntmps86
  go_wp2
  go_loop [5] (fun i => ∃ k : Nat, k ≤ ws.length ∧ i = .int .i64 k ∧ Hid ((ws.take k).all (fun s => wi s 1 10000) = true)) (fun i => ws.length - (intOf i).toNat)
  case atStart => exact ⟨0, Nat.zero_le _, rfl, Lib.hid rfl⟩
  case round =>
    obtain ⟨k, hk, rfl, HA⟩ := hrel
    by_cases hlt : k < ws.length
    · obtain ⟨ad, rfl, hb, hc⟩ := hx.at_ hlt
      cases hp : wi (nth ws k) 1 10000
      · have h2 : inB 1 10000 ws = false := not_all (fun s => wi s 1 10000) ws k hlt hp
        have H2 := Lib.hid (show balB ws load = false by rw [balB, h2, Bool.and_false, Bool.false_and])
        clear h2
        go_wp2_with (go_at_call 67; refine (rWithin_any _ _ _ _).mono ?_; rintro e w' ⟨rfl, rfl⟩; rw [hp])
        go_ret
        exact ⟨ret_bool H2.out.symm, rfl⟩
      · go_wp2_with (go_at_call 67; refine (rWithin_any _ _ _ _).mono ?_; rintro e w' ⟨rfl, rfl⟩; rw [hp])
        go_round
        case rel => exact ⟨k + 1, by omega, by go_num, Lib.hid (all_take_snoc _ ws k hlt HA.out hp)⟩
        case measure => simp [intOf]; omega
    · obtain rfl : k = ws.length := by omega
      have hall := HA.out
      rw [List.take_length] at hall
      have HB := Lib.hid (bal_split ws load hall)
      clear hall HA
      by_cases hn : ws.length ≤ 10
      · have d1 : decide (ws.length ≤ 10) = true := decide_eq_true hn
        have d2 : decide ((ws.length : Int) ≤ 10) = true := decide_eq_true (by omega)
        have HB2 := Lib.hid (show balB ws load = wi load 0 10000 by rw [HB.out, d1, Bool.true_and])
        clear HB hn
        go_wp2_with (go_at_call 67; refine (rWithin_any _ _ _ _).mono ?_; rintro e w' ⟨rfl, rfl⟩)
        go_ret
        exact ⟨ret_bool HB2.out.symm, rfl⟩
      · have d1 : decide (ws.length ≤ 10) = false := decide_eq_false hn
        have d2 : decide ((ws.length : Int) ≤ 10) = false := decide_eq_false (by omega)
        have HB2 := Lib.hid (show balB ws load = false by rw [HB.out, d1, Bool.false_and])
        clear HB hn
        go_wp2
        go_ret
        exact ⟨ret_bool HB2.out.symm, rfl⟩

set_option maxHeartbeats 1000000 in
theorem rtips_any (A1 A2 : Option Addr) (c1 c2 n : Nat) (ws ss : List Int) (load : Int) (w : World) (hx : IntsR w w.heap.size A1 ws) (hy : IntsR w w.heap.size A2 ss) (hl : ws.length ≤ 10) (hls : ss.length = ws.length) (hn : ss.length = n)
    (hw : ∀ i, i < ws.length → 1 ≤ nth ws i ∧ nth ws i ≤ 10000) (hs : ∀ i, i < ws.length → -1 ≤ nth ss i ∧ nth ss i ≤ 1) (h0 : 0 ≤ load) (h1 : load ≤ 10000) :
    Calls Try.prog 87 #[.slice A1 ws.length c1, .slice A2 n c2, I load] w fun e w' => e = .returned (I (tipL ws ss load)) ∧ Below w.heap.size w w' := by
  subst hn
  have HW := Lib.hid hw
  have HS := Lib.hid hs
  have HLS := Lib.hid hls
  clear hw hs hls
  go_enter Try.func87, Try.ntmps87
  go_wp2
  go_loopw [7, 8] (fun n i wr => ∃ (k : Nat) (t : Int), k ≤ ws.length ∧ i = .int .i64 k ∧ n = .int .i64 t ∧ -10000 - 10000 * (k : Int) ≤ t ∧ t ≤ 10000 * (k : Int) ∧ Hid (t = -load + tipT ws ss k) ∧ Below w.heap.size w wr) (fun _ i _ => ws.length - (intOf i).toNat)
  case atStart => exact ⟨0, -load, Nat.zero_le _, rfl, rfl, by omega, by omega, Lib.hid (by simp [tipT]), Below.refl _ _⟩
  case round =>
    obtain ⟨k, t, hk, rfl, rfl, ht1, ht2, HT, hB⟩ := hrel
    have hxr := ints_call hB hx
    have hyr := ints_call hB hy
    by_cases hlt : k < ws.length
    · have hlt2 : k < ss.length := by rw [HLS.out]; exact hlt
      obtain ⟨ad, rfl, hb, hc⟩ := hxr.at_ hlt
      obtain ⟨ad2, rfl, hb2, hc2⟩ := hyr.at_ hlt2
      have a1 := HW.out k hlt
      have a2 := HS.out k hlt
      have H1 := Lib.hid (tipT_step ws ss k)
      generalize nth ws k = x at *
      generalize nth ss k = y at *
      have hm := tip_mul a2.1 a2.2 a1.1 a1.2
      have em : IntKind.i64.wrap (y * x) = y * x := (IntWalk.i64_left _).trans (IntWalk.wrap64_in _ ⟨by omega, by omega⟩)
      have et : IntKind.i64.wrap (t + y * x) = t + y * x := (IntWalk.i64_left _).trans (IntWalk.wrap64_in _ ⟨by omega, by omega⟩)
      have hm1 := hm.1
      have hm2 := hm.2
      clear hm a1 a2
      go_wp2
      go_quiet (fail)
      go_wp2
      go_roundw
      case rel => exact ⟨k + 1, t + y * x, by omega, by go_num, rfl, by omega, by omega, Lib.hid (by rw [H1.out, HT.out, Int.add_assoc]), below_drewN hB _⟩
      case measure => simp [intOf]; omega
    · obtain rfl : k = ws.length := by omega
      go_wp2
      go_ret
      exact ⟨ret_int (by rw [HT.out, tipL]), hB⟩

set_option maxHeartbeats 1000000 in
theorem rTips_any (A1 A2 : Option Addr) (c1 c2 : Nat) (ws ss : List Int) (load : Int) (w : World) (hx : IntsR w w.heap.size A1 ws) (hy : IntsR w w.heap.size A2 ss) (hl : ws.length ≤ maxLen) (hls : ss.length ≤ maxLen) :
    Calls Try.prog 29 #[.slice A1 ws.length c1, .slice A2 ss.length c2, I load] w fun e w' => e = .returned (.tuple #[I (tipsN ws ss load), I (tipsE ws ss load)]) ∧ Below w.heap.size w w' := by
  have hls' := hls
  have hl' := hl
  unfold maxLen at hls' hl'
  go_enter Try.func29, Try.ntmps29
  go_wp2_with fail
  refine (weighable_any A1 c1 ws load w hx hl).mono ?_
  rintro e w' ⟨rfl, rfl⟩
  cases hv : balB ws load
  · have HE := Lib.hid (show tipsN ws ss load = 0 ∧ tipsE ws ss load = 1 by constructor <;> simp [tipsN, tipsE, hv])
    clear hv
    go_wp2
    go_ret2
    exact ⟨by rw [HE.out.1, HE.out.2]; rfl, Below.refl _ _⟩
  · have HV := Lib.hid hv
    clear hv
    by_cases hn : ss.length = ws.length
    · have g1 : ((ss.length : Int) != (ws.length : Int)) = false := by simp [hn]
      have HN := Lib.hid hn
      clear hn
      go_wp2_with fail
      go_loop [8] (fun i => ∃ k : Nat, k ≤ ss.length ∧ i = .int .i64 k ∧ Hid ((ss.take k).all (fun s => wi s (-1) 1) = true)) (fun i => ss.length - (intOf i).toNat)
      case atStart => exact ⟨0, Nat.zero_le _, rfl, Lib.hid rfl⟩
      case round =>
        obtain ⟨k, hk, rfl, HA⟩ := hrel
        by_cases hlt : k < ss.length
        · obtain ⟨ad, rfl, hb, hc⟩ := hy.at_ hlt
          cases hp : wi (nth ss k) (-1) 1
          · have h2 : standB ws ss = false := by rw [standB, show inB (-1) 1 ss = false from not_all (fun s => wi s (-1) 1) ss k hlt hp, Bool.and_false]
            have HE := Lib.hid (show tipsN ws ss load = 0 ∧ tipsE ws ss load = 1 by constructor <;> simp [tipsN, tipsE, h2])
            clear h2
            go_wp2_with (go_at_call 67; refine (rWithin_any _ _ _ _).mono ?_; rintro e w' ⟨rfl, rfl⟩; rw [hp])
            go_ret2
            exact ⟨by rw [HE.out.1, HE.out.2]; rfl, Below.refl _ _⟩
          · go_wp2_with (go_at_call 67; refine (rWithin_any _ _ _ _).mono ?_; rintro e w' ⟨rfl, rfl⟩; rw [hp])
            go_round
            case rel => exact ⟨k + 1, by omega, by go_num, Lib.hid (all_take_snoc _ ss k hlt HA.out hp)⟩
            case measure => simp [intOf]; omega
        · obtain rfl : k = ss.length := by omega
          have hall := HA.out
          rw [List.take_length] at hall
          have hst : standB ws ss = true := by rw [standB, decide_eq_true HN.out, Bool.true_and]; exact hall
          have HE := Lib.hid (show tipsN ws ss load = tipL ws ss load ∧ tipsE ws ss load = 0 by constructor <;> simp [tipsN, tipsE, hst, HV.out])
          obtain ⟨b1, b2, b3, b4⟩ := bal_facts HV.out
          have S2 := Lib.hid (stand_facts hst).2
          have B2 := Lib.hid b2
          clear hall HA hst b2 g1
          go_wp2_with fail
          refine (rtips_any A1 A2 c1 c2 ss.length ws ss load w' hx hy b1 HN.out rfl B2.out S2.out b3 b4).mono ?_
          rintro e w4 ⟨rfl, hb4⟩
          go_wp2
          go_ret2
          exact ⟨by rw [HE.out.1, HE.out.2]; rfl, hb4⟩
    · have g1 : ((ss.length : Int) != (ws.length : Int)) = true := by simp; omega
      have h2 : standB ws ss = false := by rw [standB, decide_eq_false hn, Bool.false_and]
      have HE := Lib.hid (show tipsN ws ss load = 0 ∧ tipsE ws ss load = 1 by constructor <;> simp [tipsN, tipsE, h2])
      clear hn h2
      go_wp2
      go_ret2
      exact ⟨by rw [HE.out.1, HE.out.2]; rfl, Below.refl _ _⟩
end Go.Proofs.Ytfjincdlenneaaa
