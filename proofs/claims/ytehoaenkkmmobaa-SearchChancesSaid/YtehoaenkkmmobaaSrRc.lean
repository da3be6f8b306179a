/-
  LAYER 6, CONTRACTS: the law's large, much; the document's within, Check.
-/
import Derived.Test.YtehoaenkkmmobaaSrWk
namespace Go.Proofs.Ytehoaenkkmmobaa
open Go.RowKit Go.Shelf
theorem rWithin_any (n lo hi : Int) (w : World) :
    Calls Try.prog 46 #[.int .i64 n, .int .i64 lo, .int .i64 hi] w fun e w' => e = .returned (.bool (wi n lo hi)) ∧ w = w' := by
  by_cases h : lo ≤ n
  all_goals
    go_enter Try.func46, Try.ntmps46
    go_wp2
    go_ret
    exact ⟨ret_bool (by simp [wi]; omega), rfl⟩
def mchB (m : Int) : Bool := decide (120 < m) && decide (m ≤ 2000)
theorem much_any (m : Int) (w : World) : Calls Try.prog 30 #[I m] w fun e w' => e = .returned (.bool (mchB m)) ∧ w' = w := by
  by_cases h : 120 < m
  all_goals
    go_enter Try.func30, Try.ntmps30
    go_wp2
    go_ret
    exact ⟨ret_bool (by simp [mchB]; omega), rfl⟩
/-- how many edges the first k positions have, as it is counted -/
def larT (G : List (List Ed)) : Nat → Int
  | 0 => 0
  | k + 1 => wrap64 (larT G k + ((gAt G k).length : Nat))
def larB (nP : Nat) (G : List (List Ed)) : Bool := (decide ((20 : Int) < nP) && decide ((nP : Int) ≤ 300)) || decide (40 < larT G (min G.length 400)) || decide ((400 : Int) < G.length)
theorem wrap64_bnd (n : Int) : -9223372036854775808 ≤ wrap64 n ∧ wrap64 n ≤ 9223372036854775807 := by unfold wrap64; omega
theorem larT_bnd (G : List (List Ed)) (k : Nat) : -9223372036854775808 ≤ larT G k ∧ larT G k ≤ 9223372036854775807 := by
  cases k with
  | zero => simp [larT]
  | succ k => rw [larT]; exact wrap64_bnd _
set_option maxRecDepth 100000 in
set_option maxHeartbeats 4000000 in
theorem large_any (AP AE : Option Addr) (nP cP cE : Nat) (G : List (List Ed)) (w : World) (hg : GrR w w.heap.size AE G) (hP : nP ≤ maxLen) (hE : G.length ≤ maxLen) (hes : ∀ es ∈ G, es.length ≤ maxLen) :
    Calls Try.prog 15 #[grV AP AE nP cP G.length cE] w fun e w' => e = .returned (.bool (larB nP G)) ∧ Below w.heap.size w w' := by
  obtain ⟨w1, hw1, hs1, y0, hb1⟩ := one_box w (.cells #[.slice AP nP cP, .slice AE G.length cE] 25)
  have a0 : w1.cell? ⟨w.heap.size, 0, none⟩ = some (.slice AP nP cP) := cell_of_row w1 _ 0 _ _ _ y0
  have a1 : w1.cell? ⟨w.heap.size, 1, none⟩ = some (.slice AE G.length cE) := cell_of_row w1 _ 1 _ _ _ y0
  have HG := Lib.hid (grr_call hb1 hg)
  have HES := Lib.hid hes
  have hP' := hP
  have hE' := hE
  unfold maxLen at hP' hE'
  clear hg y0 hes hP hE
  go_enter Try.func15, Try.ntmps15
  go_upto_region 1 with fail
  rw [← hw1]
  clear hw1
  go_wp2_with fail
  go_loopw [4, 3] (fun i s wr => ∃ (k : Nat) (n : Int), k ≤ G.length ∧ k ≤ 400 ∧ i = .int .i64 k ∧ s = .int .i64 n ∧ Hid (n = larT G k) ∧ wr = w1) (fun i _ _ => 400 - (intOf i).toNat)
  case atStart => exact ⟨0, 0, Nat.zero_le _, by omega, rfl, rfl, Lib.hid rfl, rfl⟩
  case round =>
    obtain ⟨k, n, hk, hk4, rfl, rfl, HN, rfl⟩ := hrel
    by_cases hlt : k < G.length
    · by_cases hl4 : k < 400
      · obtain ⟨g, o, rfl, hgl, Ap, cp, hc, -⟩ := HG.out.at_ hlt
        have h2 := HES.out _ (List.getElem_mem hlt)
        have hgk := gAt_eq hlt
        obtain ⟨l, hl⟩ : ∃ l, l = G[k].length := ⟨_, rfl⟩
        rw [← hl] at hc h2
        have hb := larT_bnd G k
        have hb2 := larT_bnd G (k + 1)
        have hS : larT G (k + 1) = wrap64 (larT G k + (l : Nat)) := by rw [larT, hgk, hl]
        rw [← HN.out] at hb hS
        obtain ⟨n2, hn2⟩ : ∃ n2, n2 = larT G (k + 1) := ⟨_, rfl⟩
        rw [← hn2] at hb2 hS
        have q1 : wrap64 (n + (l : Int)) = n2 := hS.symm
        have q2 : IntKind.i64.wrap (n + (l : Int)) = n2 := by rw [← q1]; exact IntWalk.i64_left _
        have HN2 := Lib.hid hn2
        clear hl hgk hS hn2 h2
        have d1 : decide ((k : Int) < (G.length : Int)) = true := decide_eq_true (by omega)
        have d2 : decide (k < G.length) = true := decide_eq_true hlt
        have d3 : decide ((k : Int) < 400) = true := decide_eq_true (by omega)
        have d4 : decide (k < 400) = true := decide_eq_true hl4
        go_wp2_with fail
        go_roundw
        case rel => exact ⟨k + 1, n2, by omega, by omega, by go_num, rfl, HN2, trivial⟩
        case measure => simp [intOf]; omega
      · obtain rfl : k = 400 := by omega
        have d1 : decide (((400 : Nat) : Int) < (G.length : Int)) = true := decide_eq_true (by omega)
        have d2 : decide (400 < G.length) = true := decide_eq_true hlt
        have d3 : decide (((400 : Nat) : Int) < 400) = false := decide_eq_false (by omega)
        have hmin : min G.length 400 = 400 := by omega
        have HR := Lib.hid (show larB nP G = ((decide ((20 : Int) < nP) && decide ((nP : Int) ≤ 300)) || decide (40 < n) || decide ((400 : Int) < G.length)) by rw [larB, hmin, HN.out])
        obtain ⟨b1, c1⟩ : ∃ b, decide ((20 : Int) < (nP : Int)) = b := ⟨_, rfl⟩
        obtain ⟨b2, c2⟩ : ∃ b, decide ((nP : Int) ≤ 300) = b := ⟨_, rfl⟩
        obtain ⟨b3, c3⟩ : ∃ b, decide (40 < n) = b := ⟨_, rfl⟩
        obtain ⟨b4, c4⟩ : ∃ b, decide ((400 : Int) < (G.length : Int)) = b := ⟨_, rfl⟩
        have e1 : decide (20 < nP) = b1 := by rw [← c1]; exact decide_eq_decide.2 (by omega)
        have e2 : decide (nP ≤ 300) = b2 := by rw [← c2]; exact decide_eq_decide.2 (by omega)
        have e4 : decide (400 < G.length) = b4 := by rw [← c4]; exact decide_eq_decide.2 (by omega)
        have HR2 := Lib.hid (show larB nP G = ((b1 && b2) || b3 || b4) by rw [HR.out, c1, c2, c3, c4])
        clear HR HN hmin
        cases b1 <;> cases b2 <;> cases b3 <;> cases b4
        all_goals
          go_wp2_with fail
          go_ret
          exact ⟨ret_bool HR2.out.symm, hb1⟩
    · obtain rfl : k = G.length := by omega
      have d1 : decide ((G.length : Int) < (G.length : Int)) = false := decide_eq_false (by omega)
      have hmin : min G.length 400 = G.length := by omega
      have HR := Lib.hid (show larB nP G = ((decide ((20 : Int) < nP) && decide ((nP : Int) ≤ 300)) || decide (40 < n) || decide ((400 : Int) < G.length)) by rw [larB, hmin, HN.out])
      obtain ⟨b1, c1⟩ : ∃ b, decide ((20 : Int) < (nP : Int)) = b := ⟨_, rfl⟩
      obtain ⟨b2, c2⟩ : ∃ b, decide ((nP : Int) ≤ 300) = b := ⟨_, rfl⟩
      obtain ⟨b3, c3⟩ : ∃ b, decide (40 < n) = b := ⟨_, rfl⟩
      obtain ⟨b4, c4⟩ : ∃ b, decide ((400 : Int) < (G.length : Int)) = b := ⟨_, rfl⟩
      have e1 : decide (20 < nP) = b1 := by rw [← c1]; exact decide_eq_decide.2 (by omega)
      have e2 : decide (nP ≤ 300) = b2 := by rw [← c2]; exact decide_eq_decide.2 (by omega)
      have e4 : decide (400 < G.length) = b4 := by rw [← c4]; exact decide_eq_decide.2 (by omega)
      have HR2 := Lib.hid (show larB nP G = ((b1 && b2) || b3 || b4) by rw [HR.out, c1, c2, c3, c4])
      clear HR HN hmin
      cases b1 <;> cases b2 <;> cases b3 <;> cases b4
      all_goals
        go_wp2_with fail
        go_ret
        exact ⟨ret_bool HR2.out.symm, hb1⟩
end Go.Proofs.Ytehoaenkkmmobaa
