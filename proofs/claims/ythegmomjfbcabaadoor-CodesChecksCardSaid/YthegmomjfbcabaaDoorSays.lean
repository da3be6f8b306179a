/-
  CONTRACTS: sum, says.
-/
import Derived.Test.YthegmomjfbcabaaDoorClues
namespace Go.Proofs.YthegmomjfbcabaaDoor
open Go.RowKit
def rsum (c : List Int) (a : Nat) : Nat → Int
  | 0 => 0
  | k + 1 => rsum c a k + nth c (a + k)
theorem rsum_bounds (c : List Int) (a k : Nat) (h : ∀ i, i < k → 0 ≤ nth c (a + i) ∧ nth c (a + i) ≤ 9) : 0 ≤ rsum c a k ∧ rsum c a k ≤ 9 * k := by
  induction k with
  | zero => simp [rsum]
  | succ k ih =>
    have h1 := ih (fun i hi => h i (by omega))
    have h2 := h k (by omega)
    simp only [rsum]
    omega

set_option maxRecDepth 100000 in
set_option maxHeartbeats 1000000 in
theorem sum_any (c : List Int) (a b : Nat) (w : World) (hab : a ≤ b) (hb : b < 4) (hs : ∀ i, i ≤ b → 0 ≤ nth c i ∧ nth c i ≤ 9) :
    Calls Tryd.prog 127 #[rowV c, .int .i64 a, .int .i64 b] w fun e w' => e = .returned (.int .i64 (rsum c a (b + 1 - a))) ∧ Below w.heap.size w w' := by
  have rc := fun k (hk : k < 4) => (alloc_cell w #[I (nth c 0), I (nth c 1), I (nth c 2), I (nth c 3)] 87 k).trans (rowCells_at c k hk)
  go_enter Tryd.func127, Tryd.ntmps127
  go_wp2
  go_loop [8, 7] (fun i n => ∃ k : Nat, a + k ≤ b + 1 ∧ i = .int .i64 ((a + k : Nat) : Int) ∧ n = .int .i64 (rsum c a k)) (fun i _ => b + 1 - (intOf i).toNat)
  case atStart => exact ⟨0, by omega, rfl, rfl⟩
  case round =>
    obtain ⟨k, hk, rfl, rfl⟩ := hrel
    have hbd := rsum_bounds c a k (fun i hi => hs _ (by omega))
    have h1 := hbd.1
    have h2 := hbd.2
    clear hbd
    by_cases hlt : a + k ≤ b
    · have hc := rc (a + k) (by omega)
      have hn := hs (a + k) hlt
      have hn1 := hn.1
      have hn2 := hn.2
      clear hn rc
      go_wp2
      go_round
      case rel => exact ⟨k + 1, by omega, by go_num, ret_val (by simp only [rsum])⟩
      case measure => simp [intOf]; omega
    · clear rc
      go_wp2
      go_ret
      exact ⟨ret_int (by congr 1; omega), (Below.refl _ _).alloc (Nat.le_refl _) _⟩
/-- the world when says has laid its boxes -/
theorem three_boxes (w : World) (a b c : Obj) : Below w.heap.size w (((w.alloc a).alloc b).alloc c) := (((Below.refl _ _).alloc (Nat.le_refl _) _).alloc (by simp) _).alloc (by simp; omega) _
theorem third_cell (w : World) (a b : Obj) (cs : Array Value) (t : TypeId) (i : Nat) : (((w.alloc a).alloc b).alloc (.cells cs t)).cell? ⟨w.heap.size + 1 + 1, i, none⟩ = cs[i]? := alloc_cell' _ _ _ _ _ (by simp)
set_option maxRecDepth 100000 in
set_option maxHeartbeats 2000000 in
theorem says_1 (W : Nat) (S : Int) (a : Nat) (ha : a < 4) (b n m : Int) (g : List Int) (ng : Bool) (r : List Int) (A : Option Addr) (cap : Nat) (w : World) :
    Calls Tryd.prog 106 #[lockV W S, clV ⟨1, (a : Nat), b, n, m, g, ng⟩ A cap, rowV r] w fun e w' => e = .returned (.bool (nth r a == n)) ∧ Below w.heap.size w w' := by
  have hbw := three_boxes w (.cells #[.int .i64 W, .int .i64 S] 78) (.cells (clArr ⟨1, (a : Nat), b, n, m, g, ng⟩ A cap) 26) (.cells #[I (nth r 0), I (nth r 1), I (nth r 2), I (nth r 3)] 87)
  simp only [clArr] at hbw
  have r1 := (third_cell w (.cells #[.int .i64 W, .int .i64 S] 78) (.cells #[I 1, I (a : Nat), I b, I n, I m, .slice A g.length cap, .bool ng] 26) #[I (nth r 0), I (nth r 1), I (nth r 2), I (nth r 3)] 87 a).trans (rowCells_at r a ha)
  have a4 : (a : Int) < 4 := by omega
  go_enter Tryd.func106, Tryd.ntmps106
  go_wp2
  go_quiet (fail)
  go_wp2
  go_ret
  exact ⟨rfl, below_drewN hbw _⟩

set_option maxRecDepth 100000 in
set_option maxHeartbeats 2000000 in
theorem says_3 (W : Nat) (S : Int) (a b : Nat) (ha : a < 4) (hb : b < 4) (n m : Int) (g : List Int) (ng : Bool) (r : List Int) (A : Option Addr) (cap : Nat) (w : World) :
    Calls Tryd.prog 106 #[lockV W S, clV ⟨3, (a : Nat), (b : Nat), n, m, g, ng⟩ A cap, rowV r] w fun e w' => e = .returned (.bool (decide (nth r a < nth r b))) ∧ Below w.heap.size w w' := by
  have hbw := three_boxes w (.cells #[.int .i64 W, .int .i64 S] 78) (.cells (clArr ⟨3, (a : Nat), (b : Nat), n, m, g, ng⟩ A cap) 26) (.cells #[I (nth r 0), I (nth r 1), I (nth r 2), I (nth r 3)] 87)
  simp only [clArr] at hbw
  have r1 := (third_cell w (.cells #[.int .i64 W, .int .i64 S] 78) (.cells #[I 3, I (a : Nat), I (b : Nat), I n, I m, .slice A g.length cap, .bool ng] 26) #[I (nth r 0), I (nth r 1), I (nth r 2), I (nth r 3)] 87 a).trans (rowCells_at r a ha)
  have r2 := (third_cell w (.cells #[.int .i64 W, .int .i64 S] 78) (.cells #[I 3, I (a : Nat), I (b : Nat), I n, I m, .slice A g.length cap, .bool ng] 26) #[I (nth r 0), I (nth r 1), I (nth r 2), I (nth r 3)] 87 b).trans (rowCells_at r b hb)
  have a4 : (a : Int) < 4 := by omega
  have b4 : (b : Int) < 4 := by omega
  go_enter Tryd.func106, Tryd.ntmps106
  go_wp2
  go_quiet (fail)
  go_wp2
  go_ret
  exact ⟨rfl, below_drewN hbw _⟩

set_option maxRecDepth 100000 in
set_option maxHeartbeats 2000000 in
theorem says_4 (W : Nat) (S : Int) (a b : Nat) (ha : a < 4) (hb : b < 4) (n m : Int) (g : List Int) (ng : Bool) (r : List Int) (A : Option Addr) (cap : Nat) (w : World) :
    Calls Tryd.prog 106 #[lockV W S, clV ⟨4, (a : Nat), (b : Nat), n, m, g, ng⟩ A cap, rowV r] w fun e w' => e = .returned (.bool (nth r a == nth r b)) ∧ Below w.heap.size w w' := by
  have hbw := three_boxes w (.cells #[.int .i64 W, .int .i64 S] 78) (.cells (clArr ⟨4, (a : Nat), (b : Nat), n, m, g, ng⟩ A cap) 26) (.cells #[I (nth r 0), I (nth r 1), I (nth r 2), I (nth r 3)] 87)
  simp only [clArr] at hbw
  have r1 := (third_cell w (.cells #[.int .i64 W, .int .i64 S] 78) (.cells #[I 4, I (a : Nat), I (b : Nat), I n, I m, .slice A g.length cap, .bool ng] 26) #[I (nth r 0), I (nth r 1), I (nth r 2), I (nth r 3)] 87 a).trans (rowCells_at r a ha)
  have r2 := (third_cell w (.cells #[.int .i64 W, .int .i64 S] 78) (.cells #[I 4, I (a : Nat), I (b : Nat), I n, I m, .slice A g.length cap, .bool ng] 26) #[I (nth r 0), I (nth r 1), I (nth r 2), I (nth r 3)] 87 b).trans (rowCells_at r b hb)
  have a4 : (a : Int) < 4 := by omega
  have b4 : (b : Int) < 4 := by omega
  go_enter Tryd.func106, Tryd.ntmps106
  go_wp2
  go_quiet (fail)
  go_wp2
  go_ret
  exact ⟨rfl, below_drewN hbw _⟩

set_option maxRecDepth 100000 in
set_option maxHeartbeats 2000000 in
theorem says_7 (W : Nat) (S : Int) (a : Nat) (ha : a < 4) (b n m : Int) (hn : 2 ≤ n) (hn' : n ≤ 10) (g : List Int) (ng : Bool) (r : List Int) (A : Option Addr) (cap : Nat) (w : World) (hr : 0 ≤ nth r a ∧ nth r a ≤ 9) :
    Calls Tryd.prog 106 #[lockV W S, clV ⟨7, (a : Nat), b, n, m, g, ng⟩ A cap, rowV r] w fun e w' => e = .returned (.bool (nth r a % n == m)) ∧ Below w.heap.size w w' := by
  have hbw := three_boxes w (.cells #[.int .i64 W, .int .i64 S] 78) (.cells (clArr ⟨7, (a : Nat), b, n, m, g, ng⟩ A cap) 26) (.cells #[I (nth r 0), I (nth r 1), I (nth r 2), I (nth r 3)] 87)
  simp only [clArr] at hbw
  have r1 := (third_cell w (.cells #[.int .i64 W, .int .i64 S] 78) (.cells #[I 7, I (a : Nat), I b, I n, I m, .slice A g.length cap, .bool ng] 26) #[I (nth r 0), I (nth r 1), I (nth r 2), I (nth r 3)] 87 a).trans (rowCells_at r a ha)
  have a4 : (a : Int) < 4 := by omega
  have hr1 := hr.1
  have hr2 := hr.2
  clear hr
  go_enter Tryd.func106, Tryd.ntmps106
  go_wp2
  go_quiet (fail)
  go_wp2
  go_ret
  exact ⟨rfl, below_drewN hbw _⟩

set_option maxRecDepth 100000 in
set_option maxHeartbeats 2000000 in
theorem says_2 (W : Nat) (S : Int) (a b : Nat) (hab : a ≤ b) (hb4 : b < 4) (n m : Int) (g : List Int) (ng : Bool) (r : List Int) (A : Option Addr) (cap : Nat) (w : World) (hs : ∀ i, i ≤ b → 0 ≤ nth r i ∧ nth r i ≤ 9) :
    Calls Tryd.prog 106 #[lockV W S, clV ⟨2, (a : Nat), (b : Nat), n, m, g, ng⟩ A cap, rowV r] w fun e w' => e = .returned (.bool (rsum r a (b + 1 - a) == n)) ∧ Below w.heap.size w w' := by
  have hbw := three_boxes w (.cells #[.int .i64 W, .int .i64 S] 78) (.cells (clArr ⟨2, (a : Nat), (b : Nat), n, m, g, ng⟩ A cap) 26) (.cells #[I (nth r 0), I (nth r 1), I (nth r 2), I (nth r 3)] 87)
  simp only [clArr] at hbw
  go_enter Tryd.func106, Tryd.ntmps106
  go_upto_region 5 with fail
  obtain ⟨w1, hw1⟩ : ∃ w1, w1 = ((w.alloc (.cells #[I W, I S] 78)).alloc (.cells (clArr ⟨2, (a : Nat), (b : Nat), n, m, g, ng⟩ A cap) 26)).alloc (.cells #[I (nth r 0), I (nth r 1), I (nth r 2), I (nth r 3)] 87) := ⟨_, rfl⟩
  have hw1' := hw1
  simp only [clArr] at hw1'
  rw [← hw1']
  rw [← hw1'] at hbw
  have s0 : w.heap.size < w1.heap.size := by rw [hw1]; simp; omega
  have s1 : w.heap.size + 1 < w1.heap.size := by rw [hw1]; simp
  have s2 : w.heap.size + 1 + 1 < w1.heap.size := by rw [hw1]; simp
  have l0 : w1.cell? ⟨w.heap.size, 0, none⟩ = some (I W) := by rw [hw1, World.cell?_alloc_lt _ _ _ (by simp; omega), World.cell?_alloc_lt _ _ _ (by simp)]; exact alloc_cell _ _ _ 0
  have l1 : w1.cell? ⟨w.heap.size, 1, none⟩ = some (I S) := by rw [hw1, World.cell?_alloc_lt _ _ _ (by simp; omega), World.cell?_alloc_lt _ _ _ (by simp)]; exact alloc_cell _ _ _ 1
  have cc := fun i => (by rw [hw1, World.cell?_alloc_lt _ _ _ (by simp)]; exact alloc_cell' _ _ _ _ i (by simp) : w1.cell? ⟨w.heap.size + 1, i, none⟩ = (clArr ⟨2, (a : Nat), (b : Nat), n, m, g, ng⟩ A cap)[i]?)
  have c1 : w1.cell? ⟨w.heap.size + 1, 1, none⟩ = some (I (⟨2, (a : Nat), (b : Nat), n, m, g, ng⟩ : Cl).a) := cc 1
  have c2 : w1.cell? ⟨w.heap.size + 1, 2, none⟩ = some (I (⟨2, (a : Nat), (b : Nat), n, m, g, ng⟩ : Cl).b) := cc 2
  have c3 : w1.cell? ⟨w.heap.size + 1, 3, none⟩ = some (I (⟨2, (a : Nat), (b : Nat), n, m, g, ng⟩ : Cl).n) := cc 3
  have c4 : w1.cell? ⟨w.heap.size + 1, 4, none⟩ = some (I (⟨2, (a : Nat), (b : Nat), n, m, g, ng⟩ : Cl).m) := cc 4
  have c5 : w1.cell? ⟨w.heap.size + 1, 5, none⟩ = some (.slice A (⟨2, (a : Nat), (b : Nat), n, m, g, ng⟩ : Cl).guess.length cap) := cc 5
  dsimp only at c1 c2 c3 c4 c5
  have rr := fun i => (by rw [hw1]; exact third_cell _ _ _ _ _ i : w1.cell? ⟨w.heap.size + 1 + 1, i, none⟩ = #[I (nth r 0), I (nth r 1), I (nth r 2), I (nth r 3)][i]?)
  have r0 : w1.cell? ⟨w.heap.size + 1 + 1, 0, none⟩ = some (I (nth r 0)) := rr 0
  have r1 : w1.cell? ⟨w.heap.size + 1 + 1, 1, none⟩ = some (I (nth r 1)) := rr 1
  have r2 : w1.cell? ⟨w.heap.size + 1 + 1, 2, none⟩ = some (I (nth r 2)) := rr 2
  have r3 : w1.cell? ⟨w.heap.size + 1 + 1, 3, none⟩ = some (I (nth r 3)) := rr 3
  clear hw1 hw1' cc rr
  go_region_held3 (fun w' => Below w1.heap.size w1 w' ∧ (∀ b o, b < w1.heap.size → w'.cell? ⟨b, o, none⟩ = w1.cell? ⟨b, o, none⟩))
    (first | exact keptS_drew _ | exact keptS_call (by assumption) hb | assumption)
    (first | (go_at_call 127; go_must (refine (sum_any _ _ _ _ hab hb4 hs).mono ?_); rintro e w' ⟨rfl, hb⟩))
  all_goals
    go_wp2
    go_ret
    exact ⟨rfl, hbw.trans (Below.mono (And.left (by assumption)) hbw.size)⟩

set_option maxRecDepth 100000 in
theorem run_index_cnt (r : List Int) (W n : Nat) (hn : n < 10) (w : World) : (Instr.index 137 (.agg (cntArr r W)) (.int .i64 (n : Int))).run Tryd.prog w = .ok (I (cnt r n W)) w := by
  match n, hn with
  | 0, _ => exact (by kernel_rfl : (Instr.index 137 (.agg (cntArr r W)) (.int .i64 ((0 : Nat) : Int))).run Tryd.prog w = .ok (I (cnt r ((0 : Nat) : Int) W)) w)
  | 1, _ => exact (by kernel_rfl : (Instr.index 137 (.agg (cntArr r W)) (.int .i64 ((1 : Nat) : Int))).run Tryd.prog w = .ok (I (cnt r ((1 : Nat) : Int) W)) w)
  | 2, _ => exact (by kernel_rfl : (Instr.index 137 (.agg (cntArr r W)) (.int .i64 ((2 : Nat) : Int))).run Tryd.prog w = .ok (I (cnt r ((2 : Nat) : Int) W)) w)
  | 3, _ => exact (by kernel_rfl : (Instr.index 137 (.agg (cntArr r W)) (.int .i64 ((3 : Nat) : Int))).run Tryd.prog w = .ok (I (cnt r ((3 : Nat) : Int) W)) w)
  | 4, _ => exact (by kernel_rfl : (Instr.index 137 (.agg (cntArr r W)) (.int .i64 ((4 : Nat) : Int))).run Tryd.prog w = .ok (I (cnt r ((4 : Nat) : Int) W)) w)
  | 5, _ => exact (by kernel_rfl : (Instr.index 137 (.agg (cntArr r W)) (.int .i64 ((5 : Nat) : Int))).run Tryd.prog w = .ok (I (cnt r ((5 : Nat) : Int) W)) w)
  | 6, _ => exact (by kernel_rfl : (Instr.index 137 (.agg (cntArr r W)) (.int .i64 ((6 : Nat) : Int))).run Tryd.prog w = .ok (I (cnt r ((6 : Nat) : Int) W)) w)
  | 7, _ => exact (by kernel_rfl : (Instr.index 137 (.agg (cntArr r W)) (.int .i64 ((7 : Nat) : Int))).run Tryd.prog w = .ok (I (cnt r ((7 : Nat) : Int) W)) w)
  | 8, _ => exact (by kernel_rfl : (Instr.index 137 (.agg (cntArr r W)) (.int .i64 ((8 : Nat) : Int))).run Tryd.prog w = .ok (I (cnt r ((8 : Nat) : Int) W)) w)
  | 9, _ => exact (by kernel_rfl : (Instr.index 137 (.agg (cntArr r W)) (.int .i64 ((9 : Nat) : Int))).run Tryd.prog w = .ok (I (cnt r ((9 : Nat) : Int) W)) w)
set_option maxRecDepth 100000 in
set_option maxHeartbeats 2000000 in
theorem says_5 (W : Nat) (S : Int) (hW : W ≤ 4) (n : Nat) (hn : n < 10) (a b m : Int) (g : List Int) (ng : Bool) (r : List Int) (A : Option Addr) (cap : Nat) (w : World) (hs : Sym r W) :
    Calls Tryd.prog 106 #[lockV W S, clV ⟨5, a, b, (n : Nat), m, g, ng⟩ A cap, rowV r] w fun e w' => e = .returned (.bool (cnt r n W == m)) ∧ Below w.heap.size w w' := by
  have hbw := three_boxes w (.cells #[.int .i64 W, .int .i64 S] 78) (.cells (clArr ⟨5, a, b, (n : Nat), m, g, ng⟩ A cap) 26) (.cells #[I (nth r 0), I (nth r 1), I (nth r 2), I (nth r 3)] 87)
  simp only [clArr] at hbw
  have hix := run_index_cnt r W n hn
  go_enter Tryd.func106, Tryd.ntmps106
  go_upto_region 11 with fail
  obtain ⟨w1, hw1⟩ : ∃ w1, w1 = ((w.alloc (.cells #[I W, I S] 78)).alloc (.cells (clArr ⟨5, a, b, (n : Nat), m, g, ng⟩ A cap) 26)).alloc (.cells #[I (nth r 0), I (nth r 1), I (nth r 2), I (nth r 3)] 87) := ⟨_, rfl⟩
  have hw1' := hw1
  simp only [clArr] at hw1'
  rw [← hw1']
  rw [← hw1'] at hbw
  have s0 : w.heap.size < w1.heap.size := by rw [hw1]; simp; omega
  have s1 : w.heap.size + 1 < w1.heap.size := by rw [hw1]; simp
  have s2 : w.heap.size + 1 + 1 < w1.heap.size := by rw [hw1]; simp
  have l0 : w1.cell? ⟨w.heap.size, 0, none⟩ = some (I W) := by rw [hw1, World.cell?_alloc_lt _ _ _ (by simp; omega), World.cell?_alloc_lt _ _ _ (by simp)]; exact alloc_cell _ _ _ 0
  have l1 : w1.cell? ⟨w.heap.size, 1, none⟩ = some (I S) := by rw [hw1, World.cell?_alloc_lt _ _ _ (by simp; omega), World.cell?_alloc_lt _ _ _ (by simp)]; exact alloc_cell _ _ _ 1
  have cc := fun i => (by rw [hw1, World.cell?_alloc_lt _ _ _ (by simp)]; exact alloc_cell' _ _ _ _ i (by simp) : w1.cell? ⟨w.heap.size + 1, i, none⟩ = (clArr ⟨5, a, b, (n : Nat), m, g, ng⟩ A cap)[i]?)
  have c1 : w1.cell? ⟨w.heap.size + 1, 1, none⟩ = some (I (⟨5, a, b, (n : Nat), m, g, ng⟩ : Cl).a) := cc 1
  have c2 : w1.cell? ⟨w.heap.size + 1, 2, none⟩ = some (I (⟨5, a, b, (n : Nat), m, g, ng⟩ : Cl).b) := cc 2
  have c3 : w1.cell? ⟨w.heap.size + 1, 3, none⟩ = some (I (⟨5, a, b, (n : Nat), m, g, ng⟩ : Cl).n) := cc 3
  have c4 : w1.cell? ⟨w.heap.size + 1, 4, none⟩ = some (I (⟨5, a, b, (n : Nat), m, g, ng⟩ : Cl).m) := cc 4
  have c5 : w1.cell? ⟨w.heap.size + 1, 5, none⟩ = some (.slice A (⟨5, a, b, (n : Nat), m, g, ng⟩ : Cl).guess.length cap) := cc 5
  dsimp only at c1 c2 c3 c4 c5
  have rr := fun i => (by rw [hw1]; exact third_cell _ _ _ _ _ i : w1.cell? ⟨w.heap.size + 1 + 1, i, none⟩ = #[I (nth r 0), I (nth r 1), I (nth r 2), I (nth r 3)][i]?)
  have r0 : w1.cell? ⟨w.heap.size + 1 + 1, 0, none⟩ = some (I (nth r 0)) := rr 0
  have r1 : w1.cell? ⟨w.heap.size + 1 + 1, 1, none⟩ = some (I (nth r 1)) := rr 1
  have r2 : w1.cell? ⟨w.heap.size + 1 + 1, 2, none⟩ = some (I (nth r 2)) := rr 2
  have r3 : w1.cell? ⟨w.heap.size + 1 + 1, 3, none⟩ = some (I (nth r 3)) := rr 3
  clear hw1 hw1' cc rr
  go_region_held3 (fun w' => Below w1.heap.size w1 w' ∧ (∀ b o, b < w1.heap.size → w'.cell? ⟨b, o, none⟩ = w1.cell? ⟨b, o, none⟩))
    (first | exact keptS_drew _ | exact keptS_call (by assumption) hb | assumption)
    (first | (go_at_call 108; go_must (refine (counts_any _ _ _ _ hW hs).mono ?_); rintro e w' ⟨rfl, hb⟩))
  all_goals
    go_wp2
    go_ret
    exact ⟨rfl, hbw.trans (Below.mono (And.left (by assumption)) hbw.size)⟩

set_option maxRecDepth 100000 in
set_option maxHeartbeats 2000000 in
theorem says_6 (W : Nat) (S : Int) (hW : W ≤ 4) (a b n m : Int) (g : List Int) (hgl : g.length ≤ 4) (hgs : Sym g W) (ng : Bool) (r : List Int) (A : Option Addr) (cap : Nat) (w : World) (hs : Sym r W) (hg : IntsR w w.heap.size A g) :
    Calls Tryd.prog 106 #[lockV W S, clV ⟨6, a, b, n, m, g, ng⟩ A cap, rowV r] w fun e w' => e = .returned (.bool (rgt r g W == n && com r g W 10 - rgt r g W == m)) ∧ Below w.heap.size w w' := by
  have hbw := three_boxes w (.cells #[.int .i64 W, .int .i64 S] 78) (.cells (clArr ⟨6, a, b, n, m, g, ng⟩ A cap) 26) (.cells #[I (nth r 0), I (nth r 1), I (nth r 2), I (nth r 3)] 87)
  simp only [clArr] at hbw
  go_enter Tryd.func106, Tryd.ntmps106
  go_upto_region 13 with fail
  obtain ⟨w1, hw1⟩ : ∃ w1, w1 = ((w.alloc (.cells #[I W, I S] 78)).alloc (.cells (clArr ⟨6, a, b, n, m, g, ng⟩ A cap) 26)).alloc (.cells #[I (nth r 0), I (nth r 1), I (nth r 2), I (nth r 3)] 87) := ⟨_, rfl⟩
  have hw1' := hw1
  simp only [clArr] at hw1'
  rw [← hw1']
  rw [← hw1'] at hbw
  have s0 : w.heap.size < w1.heap.size := by rw [hw1]; simp; omega
  have s1 : w.heap.size + 1 < w1.heap.size := by rw [hw1]; simp
  have s2 : w.heap.size + 1 + 1 < w1.heap.size := by rw [hw1]; simp
  have l0 : w1.cell? ⟨w.heap.size, 0, none⟩ = some (I W) := by rw [hw1, World.cell?_alloc_lt _ _ _ (by simp; omega), World.cell?_alloc_lt _ _ _ (by simp)]; exact alloc_cell _ _ _ 0
  have l1 : w1.cell? ⟨w.heap.size, 1, none⟩ = some (I S) := by rw [hw1, World.cell?_alloc_lt _ _ _ (by simp; omega), World.cell?_alloc_lt _ _ _ (by simp)]; exact alloc_cell _ _ _ 1
  have cc := fun i => (by rw [hw1, World.cell?_alloc_lt _ _ _ (by simp)]; exact alloc_cell' _ _ _ _ i (by simp) : w1.cell? ⟨w.heap.size + 1, i, none⟩ = (clArr ⟨6, a, b, n, m, g, ng⟩ A cap)[i]?)
  have c1 : w1.cell? ⟨w.heap.size + 1, 1, none⟩ = some (I (⟨6, a, b, n, m, g, ng⟩ : Cl).a) := cc 1
  have c2 : w1.cell? ⟨w.heap.size + 1, 2, none⟩ = some (I (⟨6, a, b, n, m, g, ng⟩ : Cl).b) := cc 2
  have c3 : w1.cell? ⟨w.heap.size + 1, 3, none⟩ = some (I (⟨6, a, b, n, m, g, ng⟩ : Cl).n) := cc 3
  have c4 : w1.cell? ⟨w.heap.size + 1, 4, none⟩ = some (I (⟨6, a, b, n, m, g, ng⟩ : Cl).m) := cc 4
  have c5 : w1.cell? ⟨w.heap.size + 1, 5, none⟩ = some (.slice A (⟨6, a, b, n, m, g, ng⟩ : Cl).guess.length cap) := cc 5
  dsimp only at c1 c2 c3 c4 c5
  have rr := fun i => (by rw [hw1]; exact third_cell _ _ _ _ _ i : w1.cell? ⟨w.heap.size + 1 + 1, i, none⟩ = #[I (nth r 0), I (nth r 1), I (nth r 2), I (nth r 3)][i]?)
  have r0 : w1.cell? ⟨w.heap.size + 1 + 1, 0, none⟩ = some (I (nth r 0)) := rr 0
  have r1 : w1.cell? ⟨w.heap.size + 1 + 1, 1, none⟩ = some (I (nth r 1)) := rr 1
  have r2 : w1.cell? ⟨w.heap.size + 1 + 1, 2, none⟩ = some (I (nth r 2)) := rr 2
  have r3 : w1.cell? ⟨w.heap.size + 1 + 1, 3, none⟩ = some (I (nth r 3)) := rr 3
  clear hw1 hw1' cc rr
  have hg1 := ints_call hbw hg
  go_cut [7, 8] (fun s7 s8 wx => s7 = I (rgt r g W) ∧ s8 = I (com r g W 10 - rgt r g W) ∧ KeptS w1 wx)
  case first =>
    go_region_held3 (fun w' => Below w1.heap.size w1 w' ∧ (∀ b o, b < w1.heap.size → w'.cell? ⟨b, o, none⟩ = w1.cell? ⟨b, o, none⟩))
      (first | exact keptS_drew _ | exact keptS_call (by assumption) hb | assumption)
      (first | (go_at_call 69; go_must (refine (rowOf_any _ _ _ _ (kept_ints (by assumption) hg1) hgl).mono ?_); rintro e w' ⟨rfl, hb⟩) | (go_at_call 71; go_must (refine (answer_any _ _ _ _ _ hW hs hgs).mono ?_); rintro e w' ⟨rfl, hb⟩))
    all_goals
      go_wp2_with fail
      go_meet
      exact ⟨rfl, rfl, by assumption⟩
  case rest =>
    obtain ⟨rfl, rfl, hk⟩ := hcut
    have e3 : wc.cell? ⟨w.heap.size + 1, 3, none⟩ = some (I n) := (hk.2 _ _ s1).trans c3
    have e4 : wc.cell? ⟨w.heap.size + 1, 4, none⟩ = some (I m) := (hk.2 _ _ s1).trans c4
    have hbc : Below w.heap.size w wc := hbw.trans (hk.1.mono hbw.size)
    clear hk l0 l1 c1 c2 c3 c4 c5 r0 r1 r2 r3
    cases h1 : (rgt r g W == n)
    · go_wp2
      go_ret
      exact ⟨ret_bool (by rw [h1]; rfl), hbc⟩
    · cases h2 : (com r g W 10 - rgt r g W == m)
      all_goals
        go_wp2
        go_ret
        exact ⟨ret_bool (by rw [h1, h2]; rfl), hbc⟩
end Go.Proofs.YthegmomjfbcabaaDoor
