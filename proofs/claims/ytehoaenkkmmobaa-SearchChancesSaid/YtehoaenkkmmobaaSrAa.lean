/-
  LAYER 6, CONTRACTS: gcd, lowest, sum, turns.
-/
import Derived.Test.YtehoaenkkmmobaaSrZ
namespace Go.Proofs.Ytehoaenkkmmobaa
open Go.RowKit Go.Shelf
set_option maxRecDepth 100000 in
set_option maxHeartbeats 2000000 in
theorem gcd_any (a b : Nat) (w : World) (ha : a ≤ 2 ^ 62) (hb : b ≤ 2 ^ 62) :
    Calls Try.prog 89 #[I a, I b] w fun e w' => e = .returned (I (Nat.gcd a b : Nat)) ∧ Below w.heap.size w w' := by
  obtain ⟨G, hG⟩ : ∃ G, G = Nat.gcd a b := ⟨_, rfl⟩
  rw [← hG]
  go_enter Try.func89, Try.ntmps89
  go_wp2_with fail
  go_loopw [0, 1] (fun x y wr => ∃ p q : Nat, x = .int .i64 p ∧ y = .int .i64 q ∧ p ≤ 2 ^ 62 ∧ q ≤ 2 ^ 62 ∧ Hid (G = Nat.gcd p q) ∧ Below w.heap.size w wr) (fun _ y _ => (intOf y).toNat)
  case atStart => exact ⟨a, b, rfl, rfl, ha, hb, Lib.hid hG, Below.refl _ _⟩
  case round =>
    obtain ⟨p, q, rfl, rfl, hp, hq, HG, hB⟩ := hrel
    by_cases h0 : q = 0
    · subst h0
      have HN := Lib.hid (show p = G by rw [HG.out, Nat.gcd_zero_right])
      go_wp2_with fail
      go_ret
      rw [HN.out]
      exact ⟨rfl, hB⟩
    · have hrem : ((p : Int)).tmod (q : Int) = ((p % q : Nat) : Int) := Int.ofNat_tmod _ _
      have hlt := Nat.mod_lt p (show 0 < q by omega)
      have c1 : ((q : Int) != 0) = true := by simp; omega
      have c2 : ((q : Int) == 0) = false := by simp; omega
      have c3 : decide ((q : Int) = 0) = false := decide_eq_false (by omega)
      have c4 : ¬ (q : Int) = 0 := by omega
      have HN := Lib.hid (show G = Nat.gcd q (p % q) by rw [HG.out, Nat.gcd_comm p q, Nat.gcd_rec, Nat.gcd_comm])
      obtain ⟨r, hr⟩ : ∃ r, r = p % q := ⟨_, rfl⟩
      rw [← hr] at hrem hlt HN
      clear hr h0
      go_wp2_with fail
      go_region
      go_roundw
      case rel => exact ⟨_, _, _, _, _, _, _, _, ⟨q, r, rfl, rfl, hq, by omega, HN, hB.drew⟩, rfl⟩
      case measure => simp [intOf]; omega
set_option maxRecDepth 100000 in
set_option maxHeartbeats 2000000 in
theorem lowest_any (a b : Nat) (w : World) (ha : a ≤ 2 ^ 62) (hb : b ≤ 2 ^ 62) (h0 : 0 < b) :
    Calls Try.prog 66 #[I a, I b] w fun e w' => e = .returned (.tuple #[I (a / Nat.gcd a b : Nat), I (b / Nat.gcd a b : Nat)]) ∧ Below w.heap.size w w' := by
  have hcall := gcd_any a b w ha hb
  have hpos : 0 < Nat.gcd a b := Nat.gcd_pos_of_pos_right _ h0
  have hle := Nat.gcd_le_right a h0
  obtain ⟨d, hd⟩ : ∃ d, d = Nat.gcd a b := ⟨_, rfl⟩
  rw [← hd] at hcall hpos hle
  rw [← hd]
  have q1 : (a : Int).tdiv (d : Int) = ((a / d : Nat) : Int) := Int.ofNat_tdiv _ _
  have q2 : (b : Int).tdiv (d : Int) = ((b / d : Nat) : Int) := Int.ofNat_tdiv _ _
  have l1 : a / d ≤ a := Nat.div_le_self _ _
  have l2 : b / d ≤ b := Nat.div_le_self _ _
  obtain ⟨x, hx⟩ : ∃ x, x = a / d := ⟨_, rfl⟩
  obtain ⟨y, hy⟩ : ∃ y, y = b / d := ⟨_, rfl⟩
  rw [← hx] at q1 l1
  rw [← hy] at q2 l2
  rw [← hx, ← hy]
  clear hd hx hy
  have c2 : ((d : Int) == 0) = false := by simp; omega
  have c3 : decide ((d : Int) = 0) = false := decide_eq_false (by omega)
  have c4 : ¬ (d : Int) = 0 := by omega
  go_enter Try.func66, Try.ntmps66
  go_wp2_with (go_at_call 89; refine hcall.mono ?_; rintro e w2 ⟨rfl, hb2⟩)
  go_region
  go_wp2_with fail
  go_ret2
  exact ⟨rfl, hb2.drew⟩
set_option maxRecDepth 100000 in
set_option maxHeartbeats 2000000 in
theorem sum_any (A : Option Addr) (c : Nat) (L : List Nat) (w : World) (hx : IntsR w w.heap.size A (numI L)) (hl : L.length ≤ 1000) (hb : ∀ x ∈ L, x ≤ 10000) :
    Calls Try.prog 67 #[.slice A L.length c] w fun e w' => e = .returned (I (L.sum : Nat)) ∧ w' = w := by
  have hsum : ∀ k, k ≤ L.length → (L.take k).sum ≤ 10000 * k := by
    intro k
    induction k with
    | zero => simp
    | succ k ih =>
      intro hk
      rw [List.take_succ_eq_append_getElem (by omega), List.sum_append]
      have h1 := ih (by omega)
      have h2 := hb L[k] (List.getElem_mem (by omega))
      simp
      omega
  have HS := Lib.hid hsum
  have HB := Lib.hid hb
  clear hsum hb
  go_enter Try.func67, Try.ntmps67
  go_wp2_with fail
  go_loopw [8, 3] (fun i s wr => ∃ k n : Nat, k ≤ L.length ∧ i = .int .i64 k ∧ s = .int .i64 n ∧ n ≤ 10000 * k ∧ Hid (n = (L.take k).sum) ∧ wr = w) (fun i _ _ => L.length - (intOf i).toNat)
  case atStart => exact ⟨0, 0, Nat.zero_le _, rfl, rfl, by omega, Lib.hid (by simp), rfl⟩
  case round =>
    obtain ⟨k, n, hk, rfl, rfl, hn, HN, rfl⟩ := hrel
    by_cases hlt : k < L.length
    · obtain ⟨ad, rfl, hbA, hc⟩ := hx.at_ (k := k) (by rw [numI_length]; exact hlt)
      rw [numI_nth hlt] at hc
      have h2 := HB.out L[k] (List.getElem_mem hlt)
      obtain ⟨y, hy⟩ : ∃ y, y = L[k] := ⟨_, rfl⟩
      rw [← hy] at hc h2
      have HN' := Lib.hid (show n + y = (L.take (k + 1)).sum by rw [List.take_succ_eq_append_getElem hlt, List.sum_append, ← HN.out, hy]; simp)
      clear hy
      go_wp2_with fail
      go_roundw
      case rel => exact ⟨k + 1, n + y, by omega, by go_num, by go_num, by omega, HN', trivial⟩
      case measure => simp [intOf]; omega
    · obtain rfl : k = L.length := by omega
      have HE := Lib.hid (show n = L.sum by rw [HN.out, List.take_length])
      go_wp2_with fail
      go_ret
      rw [HE.out]
      exact ⟨rfl, rfl⟩
def turT (G : List (List Ed)) (k : Nat) : Nat := (G.take k).foldl (fun n es => max n es.length) 1
def turN (G : List (List Ed)) : Nat := turT G G.length
theorem turT_succ {G : List (List Ed)} {k : Nat} (h : k < G.length) : turT G (k + 1) = max (turT G k) G[k].length := by
  rw [turT, turT, List.take_succ_eq_append_getElem h, List.foldl_append]; rfl
theorem turT_bnd {G : List (List Ed)} {D : List Int} (hv : Vld G D) : ∀ k, k ≤ G.length → 1 ≤ turT G k ∧ turT G k ≤ 100 := by
  intro k
  induction k with
  | zero => intro _; simp [turT]
  | succ k ih =>
    intro hk
    have h1 := ih (by omega)
    have h2 := hv.few k (by omega)
    rw [turT_succ (by omega)]
    omega
theorem turN_bnd {G : List (List Ed)} {D : List Int} (hv : Vld G D) : 1 ≤ turN G ∧ turN G ≤ 100 := turT_bnd hv _ (Nat.le_refl _)
set_option maxRecDepth 100000 in
set_option maxHeartbeats 2000000 in
theorem turns_any (vP : Value) (AE AD : Option Addr) (cE cD : Nat) (G : List (List Ed)) (D : List Int) (w : World) (hm : MdR w AE AD G D) (hv : Vld G D) :
    Calls Try.prog 106 #[mdlV vP AE AD G.length cE D.length cD] w fun e w' => e = .returned (I (turN G)) ∧ Below w.heap.size w w' := by
  obtain ⟨w1, hw1, hs1, y0, hb1⟩ := one_box w (.cells #[vP, .slice AE G.length cE, .slice AD D.length cD] 64)
  have a1 : w1.cell? ⟨w.heap.size, 1, none⟩ = some (.slice AE G.length cE) := cell_of_row w1 _ 1 _ _ _ y0
  have hm1 := hm.call hb1
  have hmx := hv.many
  have HB := Lib.hid (turT_bnd hv)
  have HF := Lib.hid hv.few
  have HG := Lib.hid hm1.g
  clear hm hm1 y0 hv
  go_enter Try.func106, Try.ntmps106
  go_upto_region 1 with fail
  rw [← hw1]
  clear hw1
  go_wp2_with fail
  go_loopw [10, 3] (fun i s wr => ∃ k n : Nat, k ≤ G.length ∧ i = .int .i64 k ∧ s = .int .i64 n ∧ Hid (n = turT G k) ∧ wr = w1) (fun i _ _ => G.length - (intOf i).toNat)
  case atStart => exact ⟨0, 1, Nat.zero_le _, rfl, rfl, Lib.hid rfl, rfl⟩
  case round =>
    obtain ⟨k, n, hk, rfl, rfl, HN, rfl⟩ := hrel
    by_cases hlt : k < G.length
    · obtain ⟨g, o, rfl, hgl, Ap, cp, hc, -⟩ := HG.out.at_ hlt
      have h1 := HB.out k (by omega)
      rw [← HN.out] at h1
      have h2 := HF.out k hlt
      have HS := Lib.hid (turT_succ hlt)
      obtain ⟨l, hl⟩ : ∃ l, l = G[k].length := ⟨_, rfl⟩
      rw [← hl] at hc h2 HS
      clear hl
      by_cases hnl : n ≤ l
      · have HX := Lib.hid (show l = turT G (k + 1) by rw [HS.out, ← HN.out]; omega)
        go_wp2_with fail
        all_goals
          go_roundw
          case rel => exact ⟨k + 1, l, by omega, by go_num, by first | rfl | (congr 1; omega), HX, trivial⟩
          case measure => simp [intOf]; omega
      · have HX := Lib.hid (show n = turT G (k + 1) by rw [HS.out, ← HN.out]; omega)
        go_wp2_with fail
        all_goals
          go_roundw
          case rel => exact ⟨k + 1, n, by omega, by go_num, by first | rfl | (congr 1; omega), HX, trivial⟩
          case measure => simp [intOf]; omega
    · obtain rfl : k = G.length := by omega
      have HE := Lib.hid (show n = turN G from HN.out)
      go_wp2_with fail
      go_ret
      rw [HE.out]
      exact ⟨rfl, hb1⟩
end Go.Proofs.Ytehoaenkkmmobaa
