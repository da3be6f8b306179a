/-
  CONTRACT: padlockref01.True, kind by kind.
-/
import Derived.Test.YthegmomjfbcabaaDoorRef
import Derived.Test.YthegmomjfbcabaaDoorSays
import Derived.Test.YthegmomjfbcabaaDoorHolds
namespace Go.Proofs.YthegmomjfbcabaaDoor
open Go.RowKit
set_option maxRecDepth 100000 in
set_option maxHeartbeats 2000000 in
theorem true_1 (a : Nat) (b n m : Int) (g : List Int) (ng : Bool) (A : Option Addr) (cap : Nat) (x : List Int) (A2 : Option Addr) (k2 : Nat) (w : World) (hx : IntsR w w.heap.size A2 x) (h0 : 0 < x.length) (ha : a < x.length) (_h4 : x.length ≤ 4) :
    Calls Tryd.prog 70 #[clV ⟨1, (a : Nat), b, n, m, g, ng⟩ A cap, .slice A2 x.length k2] w fun e w' => e = .returned (.bool ((nth x a == n) != ng)) ∧ Below w.heap.size w w' := by
  obtain ⟨w1, hw1⟩ : ∃ w1, w1 = w.alloc (.cells #[I 1, I (a : Nat), I b, I n, I m, .slice A g.length cap, .bool ng] 26) := ⟨_, rfl⟩
  have bc := fun i => (by rw [hw1]; exact alloc_cell _ _ _ i : w1.cell? ⟨w.heap.size, i, none⟩ = (#[I 1, I (a : Nat), I b, I n, I m, .slice A g.length cap, .bool ng] : Array Value)[i]?)
  have q0 : w1.cell? ⟨w.heap.size, 0, none⟩ = some (I 1) := bc 0
  have q1 : w1.cell? ⟨w.heap.size, 1, none⟩ = some (I (a : Nat)) := bc 1
  have q2 : w1.cell? ⟨w.heap.size, 2, none⟩ = some (I b) := bc 2
  have q3 : w1.cell? ⟨w.heap.size, 3, none⟩ = some (I n) := bc 3
  have q4 : w1.cell? ⟨w.heap.size, 4, none⟩ = some (I m) := bc 4
  have q5 : w1.cell? ⟨w.heap.size, 5, none⟩ = some (.slice A g.length cap) := bc 5
  have q6 : w1.cell? ⟨w.heap.size, 6, none⟩ = some (.bool ng) := bc 6
  have hb1 : Below w.heap.size w w1 := by rw [hw1]; exact (Below.refl _ _).alloc (Nat.le_refl _) _
  have s1 : w.heap.size < w1.heap.size := by rw [hw1]; simp
  have hx1 := ints_call hb1 hx
  obtain ⟨ad, rfl, hab, hc⟩ := hx1 h0
  have HW := Lib.hid hw1
  clear bc hw1 hx
  have d1 := hc a ha
  have ha' : (a : Int) < (x.length : Int) := by omega
  clear hc
  go_enter Tryd.func70, Tryd.ntmps70
  go_upto_region 4 with fail
  try rw [← HW.out]
  go_wp2
  go_quiet (fail)
  go_wp2
  go_ret
  exact ⟨rfl, below_drewN hb1 _⟩

set_option maxRecDepth 100000 in
set_option maxHeartbeats 2000000 in
theorem true_3 (a b : Nat) (n m : Int) (g : List Int) (ng : Bool) (A : Option Addr) (cap : Nat) (x : List Int) (A2 : Option Addr) (k2 : Nat) (w : World) (hx : IntsR w w.heap.size A2 x) (h0 : 0 < x.length) (ha : a < x.length) (hb : b < x.length) (_h4 : x.length ≤ 4) :
    Calls Tryd.prog 70 #[clV ⟨3, (a : Nat), (b : Nat), n, m, g, ng⟩ A cap, .slice A2 x.length k2] w fun e w' => e = .returned (.bool ((decide (nth x a < nth x b)) != ng)) ∧ Below w.heap.size w w' := by
  obtain ⟨w1, hw1⟩ : ∃ w1, w1 = w.alloc (.cells #[I 3, I (a : Nat), I (b : Nat), I n, I m, .slice A g.length cap, .bool ng] 26) := ⟨_, rfl⟩
  have bc := fun i => (by rw [hw1]; exact alloc_cell _ _ _ i : w1.cell? ⟨w.heap.size, i, none⟩ = (#[I 3, I (a : Nat), I (b : Nat), I n, I m, .slice A g.length cap, .bool ng] : Array Value)[i]?)
  have q0 : w1.cell? ⟨w.heap.size, 0, none⟩ = some (I 3) := bc 0
  have q1 : w1.cell? ⟨w.heap.size, 1, none⟩ = some (I (a : Nat)) := bc 1
  have q2 : w1.cell? ⟨w.heap.size, 2, none⟩ = some (I (b : Nat)) := bc 2
  have q3 : w1.cell? ⟨w.heap.size, 3, none⟩ = some (I n) := bc 3
  have q4 : w1.cell? ⟨w.heap.size, 4, none⟩ = some (I m) := bc 4
  have q5 : w1.cell? ⟨w.heap.size, 5, none⟩ = some (.slice A g.length cap) := bc 5
  have q6 : w1.cell? ⟨w.heap.size, 6, none⟩ = some (.bool ng) := bc 6
  have hb1 : Below w.heap.size w w1 := by rw [hw1]; exact (Below.refl _ _).alloc (Nat.le_refl _) _
  have s1 : w.heap.size < w1.heap.size := by rw [hw1]; simp
  have hx1 := ints_call hb1 hx
  obtain ⟨ad, rfl, hab, hc⟩ := hx1 h0
  have HW := Lib.hid hw1
  clear bc hw1 hx
  have d1 := hc a ha
  have d2 := hc b hb
  have ha' : (a : Int) < (x.length : Int) := by omega
  have hb' : (b : Int) < (x.length : Int) := by omega
  clear hc
  go_enter Tryd.func70, Tryd.ntmps70
  go_upto_region 13 with fail
  try rw [← HW.out]
  go_wp2
  go_quiet (fail)
  go_wp2
  go_ret
  exact ⟨rfl, below_drewN hb1 _⟩

set_option maxRecDepth 100000 in
set_option maxHeartbeats 2000000 in
theorem true_4 (a b : Nat) (n m : Int) (g : List Int) (ng : Bool) (A : Option Addr) (cap : Nat) (x : List Int) (A2 : Option Addr) (k2 : Nat) (w : World) (hx : IntsR w w.heap.size A2 x) (h0 : 0 < x.length) (ha : a < x.length) (hb : b < x.length) (_h4 : x.length ≤ 4) :
    Calls Tryd.prog 70 #[clV ⟨4, (a : Nat), (b : Nat), n, m, g, ng⟩ A cap, .slice A2 x.length k2] w fun e w' => e = .returned (.bool ((nth x a == nth x b) != ng)) ∧ Below w.heap.size w w' := by
  obtain ⟨w1, hw1⟩ : ∃ w1, w1 = w.alloc (.cells #[I 4, I (a : Nat), I (b : Nat), I n, I m, .slice A g.length cap, .bool ng] 26) := ⟨_, rfl⟩
  have bc := fun i => (by rw [hw1]; exact alloc_cell _ _ _ i : w1.cell? ⟨w.heap.size, i, none⟩ = (#[I 4, I (a : Nat), I (b : Nat), I n, I m, .slice A g.length cap, .bool ng] : Array Value)[i]?)
  have q0 : w1.cell? ⟨w.heap.size, 0, none⟩ = some (I 4) := bc 0
  have q1 : w1.cell? ⟨w.heap.size, 1, none⟩ = some (I (a : Nat)) := bc 1
  have q2 : w1.cell? ⟨w.heap.size, 2, none⟩ = some (I (b : Nat)) := bc 2
  have q3 : w1.cell? ⟨w.heap.size, 3, none⟩ = some (I n) := bc 3
  have q4 : w1.cell? ⟨w.heap.size, 4, none⟩ = some (I m) := bc 4
  have q5 : w1.cell? ⟨w.heap.size, 5, none⟩ = some (.slice A g.length cap) := bc 5
  have q6 : w1.cell? ⟨w.heap.size, 6, none⟩ = some (.bool ng) := bc 6
  have hb1 : Below w.heap.size w w1 := by rw [hw1]; exact (Below.refl _ _).alloc (Nat.le_refl _) _
  have s1 : w.heap.size < w1.heap.size := by rw [hw1]; simp
  have hx1 := ints_call hb1 hx
  obtain ⟨ad, rfl, hab, hc⟩ := hx1 h0
  have HW := Lib.hid hw1
  clear bc hw1 hx
  have d1 := hc a ha
  have d2 := hc b hb
  have ha' : (a : Int) < (x.length : Int) := by omega
  have hb' : (b : Int) < (x.length : Int) := by omega
  clear hc
  go_enter Tryd.func70, Tryd.ntmps70
  go_upto_region 15 with fail
  try rw [← HW.out]
  go_wp2
  go_quiet (fail)
  go_wp2
  go_ret
  exact ⟨rfl, below_drewN hb1 _⟩

set_option maxRecDepth 100000 in
set_option maxHeartbeats 2000000 in
theorem true_7 (a : Nat) (b n m : Int) (g : List Int) (ng : Bool) (A : Option Addr) (cap : Nat) (x : List Int) (A2 : Option Addr) (k2 : Nat) (w : World) (hx : IntsR w w.heap.size A2 x) (h0 : 0 < x.length) (ha : a < x.length) (hn : 2 ≤ n) (hn' : n ≤ 10) (hr : 0 ≤ nth x a) (hr' : nth x a ≤ 9) (_h4 : x.length ≤ 4) :
    Calls Tryd.prog 70 #[clV ⟨7, (a : Nat), b, n, m, g, ng⟩ A cap, .slice A2 x.length k2] w fun e w' => e = .returned (.bool ((nth x a % n == m) != ng)) ∧ Below w.heap.size w w' := by
  obtain ⟨w1, hw1⟩ : ∃ w1, w1 = w.alloc (.cells #[I 7, I (a : Nat), I b, I n, I m, .slice A g.length cap, .bool ng] 26) := ⟨_, rfl⟩
  have bc := fun i => (by rw [hw1]; exact alloc_cell _ _ _ i : w1.cell? ⟨w.heap.size, i, none⟩ = (#[I 7, I (a : Nat), I b, I n, I m, .slice A g.length cap, .bool ng] : Array Value)[i]?)
  have q0 : w1.cell? ⟨w.heap.size, 0, none⟩ = some (I 7) := bc 0
  have q1 : w1.cell? ⟨w.heap.size, 1, none⟩ = some (I (a : Nat)) := bc 1
  have q2 : w1.cell? ⟨w.heap.size, 2, none⟩ = some (I b) := bc 2
  have q3 : w1.cell? ⟨w.heap.size, 3, none⟩ = some (I n) := bc 3
  have q4 : w1.cell? ⟨w.heap.size, 4, none⟩ = some (I m) := bc 4
  have q5 : w1.cell? ⟨w.heap.size, 5, none⟩ = some (.slice A g.length cap) := bc 5
  have q6 : w1.cell? ⟨w.heap.size, 6, none⟩ = some (.bool ng) := bc 6
  have hb1 : Below w.heap.size w w1 := by rw [hw1]; exact (Below.refl _ _).alloc (Nat.le_refl _) _
  have s1 : w.heap.size < w1.heap.size := by rw [hw1]; simp
  have hx1 := ints_call hb1 hx
  obtain ⟨ad, rfl, hab, hc⟩ := hx1 h0
  have HW := Lib.hid hw1
  clear bc hw1 hx
  have d1 := hc a ha
  have ha' : (a : Int) < (x.length : Int) := by omega
  clear hc
  go_enter Tryd.func70, Tryd.ntmps70
  go_upto_region 22 with fail
  try rw [← HW.out]
  go_wp2
  go_quiet (fail)
  go_wp2
  go_ret
  exact ⟨rfl, below_drewN hb1 _⟩

set_option maxRecDepth 100000 in
set_option maxHeartbeats 2000000 in
theorem true_5 (a b n m : Int) (g : List Int) (ng : Bool) (A : Option Addr) (cap : Nat) (x : List Int) (A2 : Option Addr) (k2 : Nat) (w : World) (hx : IntsR w w.heap.size A2 x) (h0 : 0 < x.length) (h4 : x.length ≤ 4) :
    Calls Tryd.prog 70 #[clV ⟨5, a, b, n, m, g, ng⟩ A cap, .slice A2 x.length k2] w fun e w' => e = .returned (.bool ((cnt x n x.length == m) != ng)) ∧ Below w.heap.size w w' := by
  obtain ⟨w1, hw1⟩ : ∃ w1, w1 = w.alloc (.cells #[I 5, I a, I b, I n, I m, .slice A g.length cap, .bool ng] 26) := ⟨_, rfl⟩
  have bc := fun i => (by rw [hw1]; exact alloc_cell _ _ _ i : w1.cell? ⟨w.heap.size, i, none⟩ = (#[I 5, I a, I b, I n, I m, .slice A g.length cap, .bool ng] : Array Value)[i]?)
  have q0 : w1.cell? ⟨w.heap.size, 0, none⟩ = some (I 5) := bc 0
  have q1 : w1.cell? ⟨w.heap.size, 1, none⟩ = some (I a) := bc 1
  have q2 : w1.cell? ⟨w.heap.size, 2, none⟩ = some (I b) := bc 2
  have q3 : w1.cell? ⟨w.heap.size, 3, none⟩ = some (I n) := bc 3
  have q4 : w1.cell? ⟨w.heap.size, 4, none⟩ = some (I m) := bc 4
  have q5 : w1.cell? ⟨w.heap.size, 5, none⟩ = some (.slice A g.length cap) := bc 5
  have q6 : w1.cell? ⟨w.heap.size, 6, none⟩ = some (.bool ng) := bc 6
  have hb1 : Below w.heap.size w w1 := by rw [hw1]; exact (Below.refl _ _).alloc (Nat.le_refl _) _
  have s1 : w.heap.size < w1.heap.size := by rw [hw1]; simp
  have hx1 := ints_call hb1 hx
  obtain ⟨ad, rfl, hab, hc⟩ := hx1 h0
  have HW := Lib.hid hw1
  clear bc hw1 hx
  have hx2 : IntsR w1 w1.heap.size (some ad) x := fun _ => ⟨ad, rfl, hab, hc⟩
  clear hc
  go_enter Tryd.func70, Tryd.ntmps70
  go_upto_region 17 with fail
  try rw [← HW.out]
  go_wp2
  go_region_held3 (fun w' => Below w1.heap.size w1 w' ∧ (∀ b o, b < w1.heap.size → w'.cell? ⟨b, o, none⟩ = w1.cell? ⟨b, o, none⟩))
    (first | exact keptS_drew _ | exact keptS_call (by assumption) hb | assumption)
    ((go_at_call 107; go_must (refine (shown_any _ _ _ x _ ?_ h4).mono ?_); go_must (exact kept_ints (by assumption) hx2); rintro e w' ⟨rfl, rfl⟩))
  all_goals
    go_wp2
    go_ret
    exact ⟨rfl, hb1.trans (Below.mono (And.left (by assumption : KeptS w1 _)) (by omega))⟩

set_option maxRecDepth 100000 in
set_option maxHeartbeats 2000000 in
theorem true_6 (a b n m : Int) (g : List Int) (ng : Bool) (A : Option Addr) (cap : Nat) (x : List Int) (A2 : Option Addr) (k2 : Nat) (w : World) (hx : IntsR w w.heap.size A2 x) (hg : IntsR w w.heap.size A g) (hgl : g.length = x.length) (h0 : 0 < x.length) (h4 : x.length ≤ 4) :
    Calls Tryd.prog 70 #[clV ⟨6, a, b, n, m, g, ng⟩ A cap, .slice A2 x.length k2] w fun e w' => e = .returned (.bool ((rgt x g x.length == n && com x g x.length 10 - rgt x g x.length == m) != ng)) ∧ Below w.heap.size w w' := by
  obtain ⟨w1, hw1⟩ : ∃ w1, w1 = w.alloc (.cells #[I 6, I a, I b, I n, I m, .slice A g.length cap, .bool ng] 26) := ⟨_, rfl⟩
  have bc := fun i => (by rw [hw1]; exact alloc_cell _ _ _ i : w1.cell? ⟨w.heap.size, i, none⟩ = (#[I 6, I a, I b, I n, I m, .slice A g.length cap, .bool ng] : Array Value)[i]?)
  have q0 : w1.cell? ⟨w.heap.size, 0, none⟩ = some (I 6) := bc 0
  have q1 : w1.cell? ⟨w.heap.size, 1, none⟩ = some (I a) := bc 1
  have q2 : w1.cell? ⟨w.heap.size, 2, none⟩ = some (I b) := bc 2
  have q3 : w1.cell? ⟨w.heap.size, 3, none⟩ = some (I n) := bc 3
  have q4 : w1.cell? ⟨w.heap.size, 4, none⟩ = some (I m) := bc 4
  have q5 : w1.cell? ⟨w.heap.size, 5, none⟩ = some (.slice A g.length cap) := bc 5
  have q6 : w1.cell? ⟨w.heap.size, 6, none⟩ = some (.bool ng) := bc 6
  have hb1 : Below w.heap.size w w1 := by rw [hw1]; exact (Below.refl _ _).alloc (Nat.le_refl _) _
  have s1 : w.heap.size < w1.heap.size := by rw [hw1]; simp
  have hx1 := ints_call hb1 hx
  have hg1 := ints_call hb1 hg
  have HG := Lib.hid hgl
  clear hg hgl
  obtain ⟨ad, rfl, hab, hc⟩ := hx1 h0
  have HW := Lib.hid hw1
  clear bc hw1 hx
  have hx2 : IntsR w1 w1.heap.size (some ad) x := fun _ => ⟨ad, rfl, hab, hc⟩
  clear hc
  go_enter Tryd.func70, Tryd.ntmps70
  go_upto_region 19 with fail
  try rw [← HW.out]
  go_wp2_with fail
  refine (ranswer_any (some ad) A k2 cap x g w1 hx2 hg1 h4 HG.out).mono ?_
  rintro e w2 ⟨rfl, hb2⟩
  have p3 := (hb2.cell (p := ⟨w.heap.size, 3, none⟩) s1).trans q3
  have p4 := (hb2.cell (p := ⟨w.heap.size, 4, none⟩) s1).trans q4
  have p6 := (hb2.cell (p := ⟨w.heap.size, 6, none⟩) s1).trans q6
  have hbb := hb1.trans (hb2.mono (by omega))
  clear q0 q1 q2 q3 q4 q5 q6 hb2
  obtain ⟨r, hr⟩ : ∃ r, rgt x g x.length = r := ⟨_, rfl⟩
  obtain ⟨d, hd⟩ : ∃ d, com x g x.length 10 - rgt x g x.length = d := ⟨_, rfl⟩
  have HD := Lib.hid hd
  have HR := Lib.hid hr
  rw [hd, hr]
  clear hd hr
  cases h1 : (r == n)
  all_goals
    have H1 := Lib.hid h1
    go_wp2
    go_ret
    refine ⟨ret_bool ?_, hbb⟩
    rw [HD.out, HR.out, H1.out]
    cases (d == m) <;> cases ng <;> rfl

set_option maxRecDepth 100000 in
set_option maxHeartbeats 2000000 in
theorem true_2 (a b : Nat) (n m : Int) (g : List Int) (ng : Bool) (A : Option Addr) (cap : Nat) (x : List Int) (A2 : Option Addr) (k2 : Nat) (w : World) (hx : IntsR w w.heap.size A2 x) (hab0 : a ≤ b) (hb : b < x.length) (hs : ∀ i, i ≤ b → 0 ≤ nth x i ∧ nth x i ≤ 9) (h0 : 0 < x.length) (h4 : x.length ≤ 4) :
    Calls Tryd.prog 70 #[clV ⟨2, (a : Nat), (b : Nat), n, m, g, ng⟩ A cap, .slice A2 x.length k2] w fun e w' => e = .returned (.bool ((rsum x a (b + 1 - a) == n) != ng)) ∧ Below w.heap.size w w' := by
  obtain ⟨w1, hw1⟩ : ∃ w1, w1 = w.alloc (.cells #[I 2, I (a : Nat), I (b : Nat), I n, I m, .slice A g.length cap, .bool ng] 26) := ⟨_, rfl⟩
  have bc := fun i => (by rw [hw1]; exact alloc_cell _ _ _ i : w1.cell? ⟨w.heap.size, i, none⟩ = (#[I 2, I (a : Nat), I (b : Nat), I n, I m, .slice A g.length cap, .bool ng] : Array Value)[i]?)
  have q0 : w1.cell? ⟨w.heap.size, 0, none⟩ = some (I 2) := bc 0
  have q1 : w1.cell? ⟨w.heap.size, 1, none⟩ = some (I (a : Nat)) := bc 1
  have q2 : w1.cell? ⟨w.heap.size, 2, none⟩ = some (I (b : Nat)) := bc 2
  have q3 : w1.cell? ⟨w.heap.size, 3, none⟩ = some (I n) := bc 3
  have q4 : w1.cell? ⟨w.heap.size, 4, none⟩ = some (I m) := bc 4
  have q5 : w1.cell? ⟨w.heap.size, 5, none⟩ = some (.slice A g.length cap) := bc 5
  have q6 : w1.cell? ⟨w.heap.size, 6, none⟩ = some (.bool ng) := bc 6
  have hb1 : Below w.heap.size w w1 := by rw [hw1]; exact (Below.refl _ _).alloc (Nat.le_refl _) _
  have s1 : w.heap.size < w1.heap.size := by rw [hw1]; simp
  have hx1 := ints_call hb1 hx
  obtain ⟨ad, rfl, hab, hc⟩ := hx1 h0
  have HW := Lib.hid hw1
  clear bc hw1 hx
  have hb' : (b : Int) < (x.length : Int) := by omega
  have HC := Lib.hid hc
  have HS := Lib.hid hs
  clear hc hs
  go_enter Tryd.func70, Tryd.ntmps70
  go_upto_region 6 with fail
  try rw [← HW.out]
  go_wp2
  go_loopw [6, 7] (fun t i wr => ∃ k : Nat, a ≤ k ∧ k ≤ b + 1 ∧ i = .int .i64 k ∧ t = .int .i64 (rsum x a (k - a)) ∧ w1 = wr) (fun _ i _ => b + 1 - (intOf i).toNat)
  case atStart => exact ⟨a, Nat.le_refl _, by omega, rfl, by rw [Nat.sub_self]; rfl, rfl⟩
  case round =>
    obtain ⟨k, ha, hk, rfl, rfl, rfl⟩ := hrel
    obtain ⟨u1, u2⟩ := rsum_bounds x a (k - a) (fun i hi => HS.out (a + i) (by omega))
    by_cases hlt : k ≤ b
    · have d1 := HC.out k (by omega)
      have ek : k + 1 - a = (k - a) + 1 := by omega
      have eak : a + (k - a) = k := by omega
      obtain ⟨v1, v2⟩ := HS.out k hlt
      have HK := Lib.hid (show rsum x a (k + 1 - a) = rsum x a (k - a) + nth x k by rw [ek, rsum, eak])
      have hkl : (k : Int) < (x.length : Int) := by omega
      have hkb : (k : Int) ≤ (b : Int) := by omega
      clear ek eak
      generalize rsum x a (k - a) = t at *
      go_wp2
      go_roundw
      case rel => exact ⟨k + 1, by omega, by omega, by go_num, by rw [HK.out], trivial⟩
      case measure => simp [intOf]; omega
    · obtain rfl : k = b + 1 := by omega
      have hkb : ¬ ((b : Int) + 1 ≤ (b : Int)) := by omega
      go_wp2
      go_ret
      exact ⟨rfl, hb1⟩

end Go.Proofs.YthegmomjfbcabaaDoor
/-
  CONTRACTS: padlockref01.True, padlockref01.first.
-/
namespace Go.Proofs.YthegmomjfbcabaaDoor
open Go.RowKit
theorem True_any (S : Int) (x : List Int) (hL : lockOk x.length S = true) (c : Cl) (hv : clueB x.length S c = true) (hs : Sym x x.length) (A A2 : Option Addr) (cap k2 : Nat) (w : World) (hg : IntsR w w.heap.size A c.guess) (hx : IntsR w w.heap.size A2 x) :
    Calls Tryd.prog 70 #[clV c A cap, .slice A2 x.length k2] w fun e w' => e = .returned (.bool (holdB x.length c x)) ∧ Below w.heap.size w w' := by
  obtain ⟨hW1, hW4, hS2, hS10⟩ := lockOk_facts hL
  obtain ⟨kind, a, b, n, m, g, ng⟩ := c
  simp only [clueB, Bool.and_eq_true] at hv
  obtain ⟨⟨hk, _⟩, hr⟩ := hv
  rw [wi_iff] at hk
  have hcases : kind = 1 ∨ kind = 2 ∨ kind = 3 ∨ kind = 4 ∨ kind = 5 ∨ kind = 6 ∨ kind = 7 := by omega
  have E : ∀ x : Int, 0 ≤ x → ∃ k : Nat, x = k := fun x h => ⟨x.toNat, by omega⟩
  have h0 : 0 < x.length := by omega
  have h4 : x.length ≤ 4 := by omega
  rcases hcases with rfl | rfl | rfl | rfl | rfl | rfl | rfl
  · have h : wi a 0 (wrap64 ((x.length : Int) - 1)) = true ∧ wi n 0 (wrap64 (S - 1)) = true := by simpa [rangeB] using hr
    rw [wi_pre (by omega) (by omega)] at h
    obtain ⟨a, rfl⟩ := E a h.1.1
    exact true_1 a b n m g ng A cap x A2 k2 w hx h0 (by omega) h4
  · have h : ((wi a 0 (wrap64 ((x.length : Int) - 1)) = true ∧ wi b 0 (wrap64 ((x.length : Int) - 1)) = true) ∧ a ≤ b) ∧ wi n 0 100 = true := by simpa [rangeB] using hr
    rw [wi_pre (by omega) (by omega), wi_pre (by omega) (by omega)] at h
    obtain ⟨a, rfl⟩ := E a h.1.1.1.1
    obtain ⟨b, rfl⟩ := E b h.1.1.2.1
    exact true_2 a b n m g ng A cap x A2 k2 w hx (by omega) (by omega) (fun i hi => hs i (by omega)) h0 h4
  · have h : (wi a 0 (wrap64 ((x.length : Int) - 1)) = true ∧ wi b 0 (wrap64 ((x.length : Int) - 1)) = true) ∧ ¬ a = b := by simpa [rangeB] using hr
    rw [wi_pre (by omega) (by omega), wi_pre (by omega) (by omega)] at h
    obtain ⟨a, rfl⟩ := E a h.1.1.1
    obtain ⟨b, rfl⟩ := E b h.1.2.1
    exact true_3 a b n m g ng A cap x A2 k2 w hx h0 (by omega) (by omega) h4
  · have h : (wi a 0 (wrap64 ((x.length : Int) - 1)) = true ∧ wi b 0 (wrap64 ((x.length : Int) - 1)) = true) ∧ ¬ a = b := by simpa [rangeB] using hr
    rw [wi_pre (by omega) (by omega), wi_pre (by omega) (by omega)] at h
    obtain ⟨a, rfl⟩ := E a h.1.1.1
    obtain ⟨b, rfl⟩ := E b h.1.2.1
    exact true_4 a b n m g ng A cap x A2 k2 w hx h0 (by omega) (by omega) h4
  · exact true_5 a b n m g ng A cap x A2 k2 w hx h0 h4
  · have h : (codeB x.length S g = true ∧ wi n 0 x.length = true) ∧ wi m 0 x.length = true := by simpa [rangeB] using hr
    obtain ⟨hgl, hgs⟩ := codeB_facts (by omega) (by omega) h.1.1
    exact true_6 a b n m g ng A cap x A2 k2 w hx hg (by omega) h0 h4
  · have h : (wi a 0 (wrap64 ((x.length : Int) - 1)) = true ∧ wi n 2 10 = true) ∧ wi m 0 (wrap64 (n - 1)) = true := by simpa [rangeB] using hr
    rw [wi_pre (by omega) (by omega), wi_iff] at h
    obtain ⟨a, rfl⟩ := E a h.1.1.1
    exact true_7 a b n m g ng A cap x A2 k2 w hx h0 (by omega) (by omega) (by omega) (hs a (by omega)).1 (hs a (by omega)).2 h4

set_option maxRecDepth 100000 in
set_option maxHeartbeats 2000000 in
theorem rfirst_any (S : Int) (x : List Int) (hL : lockOk x.length S = true) (cs : List Cl) (hv : cluesB x.length S cs = true) (hs : Sym x x.length) (A A2 : Option Addr) (c k2 : Nat) (w : World) (hc : ClsR w w.heap.size A cs) (hl : cs.length ≤ maxLen) (hx : IntsR w w.heap.size A2 x) :
    Calls Tryd.prog 75 #[.slice A cs.length c, .slice A2 x.length k2] w fun e w' => e = .returned (.int .i64 (brk x.length x cs 0)) ∧ Below w.heap.size w w' := by
  unfold maxLen at hl
  go_enter Tryd.func75, Tryd.ntmps75
  go_wp2
  go_loopw [5] (fun i wr => ∃ k : Nat, k ≤ cs.length ∧ i = .int .i64 k ∧ Hid (brk x.length x cs 0 = brk x.length x (cs.drop k) k) ∧ Below w.heap.size w wr) (fun i _ => cs.length - (intOf i).toNat)
  case atStart => exact ⟨0, Nat.zero_le _, rfl, Lib.hid rfl, Below.refl _ _⟩
  case round =>
    obtain ⟨k, hk, rfl, HA, hB⟩ := hrel
    have hx' := ints_call hB hx
    have hc' := cls_call hB hc
    clear hx hc
    by_cases hlt : k < cs.length
    · obtain ⟨gb, go, rfl, hb, hcc⟩ := hc' (by omega)
      obtain ⟨A', c', hc1, hc2, hc3⟩ := hcc k hlt
      have hbd := Lib.hid (brk_drop x.length x cs k hlt)
      have hvk := cluesB_at hv k hlt
      generalize hxs : cs[k] = xs at hc1 hc2 hc3 hbd hvk
      clear hxs hcc
      have d0 : wr.cell? ⟨gb, go + k * 7, none⟩ = some (I xs.kind) := hc1 0 _ rfl
      have d1 : wr.cell? ⟨gb, go + k * 7 + 1, none⟩ = some (I xs.a) := hc1 1 _ rfl
      have d2 : wr.cell? ⟨gb, go + k * 7 + 2, none⟩ = some (I xs.b) := hc1 2 _ rfl
      have d3 : wr.cell? ⟨gb, go + k * 7 + 3, none⟩ = some (I xs.n) := hc1 3 _ rfl
      have d4 : wr.cell? ⟨gb, go + k * 7 + 4, none⟩ = some (I xs.m) := hc1 4 _ rfl
      have d5 : wr.cell? ⟨gb, go + k * 7 + 5, none⟩ = some (.slice A' xs.guess.length c') := hc1 5 _ rfl
      have d6 : wr.cell? ⟨gb, go + k * 7 + 6, none⟩ = some (.bool xs.neg) := hc1 6 _ rfl
      clear hc1
      have HV := Lib.hid hvk
      clear hvk
      cases hp : holdB x.length xs x
      all_goals
        go_wp2_with fail
        refine (True_any S x hL xs HV.out hs A' A2 c' k2 wr hc2 hx').mono ?_
        rintro e w2 ⟨rfl, hb2⟩
        rw [hp]
        have hbw := hB.trans (hb2.mono hB.size)
        clear hb2
        go_wp2
      · go_ret
        exact ⟨ret_int (by rw [HA.out, hbd.out, hp]; rfl), hbw⟩
      · go_roundw
        case rel => exact ⟨k + 1, by omega, by go_num, Lib.hid (by rw [HA.out, hbd.out, hp]; rfl), hbw⟩
        case measure => simp [intOf]; omega
    · obtain rfl : k = cs.length := by omega
      go_wp2
      go_ret
      exact ⟨ret_int (by rw [HA.out, List.drop_length]; rfl), hB⟩
end Go.Proofs.YthegmomjfbcabaaDoor
