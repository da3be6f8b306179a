/-
  CONTRACT: checkClue.
-/
import Derived.Test.YthegmomjfbcabaaDoorRange
namespace Go.Proofs.YthegmomjfbcabaaDoor
open Go.RowKit
/-- the table of shapes, cell by cell -/
def tabCells : List Value :=
  [.string ⟨#[97, 116]⟩, .string ⟨#[65, 78]⟩, .bool false, .string ⟨#[115, 117, 109]⟩, .string ⟨#[65, 66, 78]⟩, .bool false, .string ⟨#[108, 101, 115, 115]⟩, .string ⟨#[65, 66]⟩, .bool false,
   .string ⟨#[115, 97, 109, 101]⟩, .string ⟨#[65, 66]⟩, .bool false, .string ⟨#[104, 97, 115]⟩, .string ⟨#[78, 77]⟩, .bool false, .string ⟨#[114, 105, 103, 104, 116]⟩, .string ⟨#[78, 77]⟩, .bool true,
   .string ⟨#[114, 101, 109, 97, 105, 110]⟩, .string ⟨#[65, 78, 77]⟩, .bool false]
def Tab (w : World) : Prop := 0 < w.heap.size ∧ ∀ (i : Nat) (v : Value), tabCells[i]? = some v → w.cell? ⟨0, i, none⟩ = some v
theorem Tab.below {w w' : World} (h : Tab w) (hb : Below w.heap.size w w') : Tab w' := ⟨Nat.lt_of_lt_of_le h.1 hb.size, fun i v hv => (hb.cell (p := ⟨0, i, none⟩) h.1).trans (h.2 i v hv)⟩
theorem Tab.cell {w : World} (h : Tab w) (i : Nat) (v : Value) (hv : tabCells[i]? = some v) : w.cell? ⟨0, i, none⟩ = some v := h.2 i v hv
theorem ascii_of (l : List UInt8) (h : l.all (fun b => b.toNat < 128) = true) : ∀ (i : Nat) (hi : i < (⟨l.toArray⟩ : ByteArray).size), ((⟨l.toArray⟩ : ByteArray)[i]'hi).toNat < 128 := by
  intro i hi
  have hi' : i < l.length := by simpa [ByteArray.size] using hi
  have := List.all_eq_true.1 h l[i] (List.getElem_mem hi')
  rw [decide_eq_true_eq] at this
  exact this
def wordAt (q : Nat) : ByteArray := match q with | 0 => ⟨#[97, 116]⟩ | 1 => ⟨#[115, 117, 109]⟩ | 2 => ⟨#[108, 101, 115, 115]⟩ | 3 => ⟨#[115, 97, 109, 101]⟩ | 4 => ⟨#[104, 97, 115]⟩ | 5 => ⟨#[114, 105, 103, 104, 116]⟩ | _ => ⟨#[114, 101, 109, 97, 105, 110]⟩
def numsAt (q : Nat) : ByteArray := match q with | 0 => ⟨#[65, 78]⟩ | 1 => ⟨#[65, 66, 78]⟩ | 2 => ⟨#[65, 66]⟩ | 3 => ⟨#[65, 66]⟩ | 4 => ⟨#[78, 77]⟩ | 5 => ⟨#[78, 77]⟩ | _ => ⟨#[65, 78, 77]⟩
def gsAt (q : Nat) : Bool := q == 5
theorem Tab.shape {w : World} (h : Tab w) (q : Nat) (hq : q < 7) : w.cell? ⟨0, q * 3, none⟩ = some (.string (wordAt q)) ∧ w.cell? ⟨0, q * 3 + 1, none⟩ = some (.string (numsAt q)) ∧ w.cell? ⟨0, q * 3 + 2, none⟩ = some (.bool (gsAt q)) := by
  match q, hq with
  | 0, _ => exact ⟨h.2 0 _ rfl, h.2 1 _ rfl, h.2 2 _ rfl⟩
  | 1, _ => exact ⟨h.2 3 _ rfl, h.2 4 _ rfl, h.2 5 _ rfl⟩
  | 2, _ => exact ⟨h.2 6 _ rfl, h.2 7 _ rfl, h.2 8 _ rfl⟩
  | 3, _ => exact ⟨h.2 9 _ rfl, h.2 10 _ rfl, h.2 11 _ rfl⟩
  | 4, _ => exact ⟨h.2 12 _ rfl, h.2 13 _ rfl, h.2 14 _ rfl⟩
  | 5, _ => exact ⟨h.2 15 _ rfl, h.2 16 _ rfl, h.2 17 _ rfl⟩
  | 6, _ => exact ⟨h.2 18 _ rfl, h.2 19 _ rfl, h.2 20 _ rfl⟩
theorem nums_ascii (q : Nat) (hq : q < 7) : ∀ (i : Nat) (hi : i < (numsAt q).size), ((numsAt q)[i]'hi).toNat < 128 := by
  match q, hq with
  | 0, _ => exact ascii_of [65, 78] rfl
  | 1, _ => exact ascii_of [65, 66, 78] rfl
  | 2, _ => exact ascii_of [65, 66] rfl
  | 3, _ => exact ascii_of [65, 66] rfl
  | 4, _ => exact ascii_of [78, 77] rfl
  | 5, _ => exact ascii_of [78, 77] rfl
  | 6, _ => exact ascii_of [65, 78, 77] rfl
theorem nums_size (q : Nat) (hq : q < 7) : (numsAt q).size ≤ maxLen := by
  match q, hq with
  | 0, _ => exact of_decide_eq_true rfl
  | 1, _ => exact of_decide_eq_true rfl
  | 2, _ => exact of_decide_eq_true rfl
  | 3, _ => exact of_decide_eq_true rfl
  | 4, _ => exact of_decide_eq_true rfl
  | 5, _ => exact of_decide_eq_true rfl
  | 6, _ => exact of_decide_eq_true rfl
/-- the fields that a clue does not use are zero -/
def spareB (c : Cl) : Bool :=
  if c.kind = 1 then c.b == 0 && c.m == 0 && c.guess.isEmpty
  else if c.kind = 2 then c.m == 0 && c.guess.isEmpty
  else if c.kind = 3 ∨ c.kind = 4 then c.n == 0 && c.m == 0 && c.guess.isEmpty
  else if c.kind = 5 then c.a == 0 && c.b == 0 && c.guess.isEmpty
  else if c.kind = 6 then c.a == 0 && c.b == 0
  else if c.kind = 7 then c.b == 0 && c.guess.isEmpty
  else false
def clueB (W S : Int) (c : Cl) : Bool := wi c.kind 1 7 && spareB c && rangeB W S c
def errIf (b : Bool) : Int := if b then 0 else 11
def clueErr (W S : Int) (c : Cl) : Int := errIf (clueB W S c)
theorem len_zero (g : List Int) : ((g.length : Int) == 0) = g.isEmpty := by cases g <;> simp; omega
theorem spB_at (q : Nat) (hq : q < 7) (a b n m : Int) (g : List Int) (ng : Bool) : spB (numsAt q) (gsAt q) ⟨(q : Int) + 1, a, b, n, m, g, ng⟩ = spareB ⟨(q : Int) + 1, a, b, n, m, g, ng⟩ := by
  match q, hq with
  | 0, _ => simp [spB, numsAt, gsAt, zap, zap1, spareB, len_zero]
  | 1, _ => simp [spB, numsAt, gsAt, zap, zap1, spareB, len_zero]
  | 2, _ => simp [spB, numsAt, gsAt, zap, zap1, spareB, len_zero]
  | 3, _ => simp [spB, numsAt, gsAt, zap, zap1, spareB, len_zero]
  | 4, _ => simp [spB, numsAt, gsAt, zap, zap1, spareB, len_zero]
  | 5, _ => simp [spB, numsAt, gsAt, zap, zap1, spareB, len_zero]
  | 6, _ => simp [spB, numsAt, gsAt, zap, zap1, spareB, len_zero]
theorem inRange_at (q : Nat) (hq : q < 7) (W S a b n m : Int) (g : List Int) (ng : Bool) (A : Option Addr) (cap : Nat) (w : World) (hg : IntsR w w.heap.size A g) (hgl : g.length ≤ maxLen) :
    Calls Tryd.prog 104 #[lockV W S, clV ⟨(q : Int) + 1, a, b, n, m, g, ng⟩ A cap] w fun e w' => e = .returned (.bool (rangeB W S ⟨(q : Int) + 1, a, b, n, m, g, ng⟩)) ∧ Below w.heap.size w w' := by
  match q, hq with
  | 0, _ => exact inRange_1 W S a b n m g ng A cap w
  | 1, _ => exact inRange_2 W S a b n m g ng A cap w
  | 2, _ => exact inRange_3 W S a b n m g ng A cap w
  | 3, _ => exact inRange_4 W S a b n m g ng A cap w
  | 4, _ => exact inRange_5 W S a b n m g ng A cap w
  | 5, _ => exact inRange_6 W S a b n m g ng A cap w hg hgl
  | 6, _ => exact inRange_7 W S a b n m g ng A cap w

set_option maxRecDepth 100000 in
set_option maxHeartbeats 4000000 in
theorem checkClue_A (W S : Int) (c : Cl) (A : Option Addr) (cap : Nat) (w : World) (hT : Tab w) (_hgl : c.guess.length ≤ maxLen) (hwi : wi c.kind 1 7 = false) :
    Calls Tryd.prog 64 #[lockV W S, clV c A cap] w fun e w' => e = .returned (.int .i64 (errIf (false))) ∧ Below w.heap.size w w' := by
  have hbw := two_boxes w (.cells #[.int .i64 W, .int .i64 S] 78) (.cells (clArr c A cap) 26)
  go_enter Tryd.func64, Tryd.ntmps64
  go_upto_region 1 with fail
  obtain ⟨w1, hw1⟩ : ∃ w1, w1 = (w.alloc (.cells #[I W, I S] 78)).alloc (.cells (clArr c A cap) 26) := ⟨_, rfl⟩
  have hw1' := hw1
  simp only [clArr] at hw1'
  rw [← hw1']
  rw [← hw1] at hbw
  have s0 : w.heap.size < w1.heap.size := by rw [hw1]; simp; omega
  have s1 : w.heap.size + 1 < w1.heap.size := by rw [hw1]; simp
  have sg : 0 < w1.heap.size := by omega
  have hT1 := hT.below hbw
  have l0 : w1.cell? ⟨w.heap.size, 0, none⟩ = some (I W) := by rw [hw1, World.cell?_alloc_lt _ _ _ (by simp)]; exact alloc_cell _ _ _ 0
  have l1 : w1.cell? ⟨w.heap.size, 1, none⟩ = some (I S) := by rw [hw1, World.cell?_alloc_lt _ _ _ (by simp)]; exact alloc_cell _ _ _ 1
  have cc := fun i => (by rw [hw1]; exact alloc_cell' _ _ _ _ i (by simp) : w1.cell? ⟨w.heap.size + 1, i, none⟩ = (clArr c A cap)[i]?)
  have c0 : w1.cell? ⟨w.heap.size + 1, 0, none⟩ = some (I c.kind) := cc 0
  have c1 : w1.cell? ⟨w.heap.size + 1, 1, none⟩ = some (I c.a) := cc 1
  have c2 : w1.cell? ⟨w.heap.size + 1, 2, none⟩ = some (I c.b) := cc 2
  have c3 : w1.cell? ⟨w.heap.size + 1, 3, none⟩ = some (I c.n) := cc 3
  have c4 : w1.cell? ⟨w.heap.size + 1, 4, none⟩ = some (I c.m) := cc 4
  have c5 : w1.cell? ⟨w.heap.size + 1, 5, none⟩ = some (.slice A c.guess.length cap) := cc 5
  have c6 : w1.cell? ⟨w.heap.size + 1, 6, none⟩ = some (.bool c.neg) := cc 6
  clear hw1 hw1' cc hT hT1
  go_cut [21] (fun s21 wx => s21 = .bool (false) ∧ KeptS w1 wx)
  case first =>
    refine wp_region_inv (by kernel_rfl) (fun L a w' => L.size = 17 ∧ ∃ u5 u6 u7 u8 u9 u10 u11 u12 u13 u14 u15 u16 u17 u18 u19 u20 u21 : Value, a = { tmps := #[lockV W S, clV c A cap, .pointer (some ⟨w.heap.size, 0, none⟩), .pointer (some ⟨w.heap.size + 1, 0, none⟩), .int .i64 0, u5, u6, u7, u8, u9, u10, u11, u12, u13, u14, u15, u16, u17, u18, u19, u20, u21], defers := [] } ∧ Below w1.heap.size w1 w' ∧ (L.getD 0 false = true → u5 = .pointer (some ⟨w.heap.size + 1, 0, none⟩)) ∧ (L.getD 1 false = true → u6 = I c.kind) ∧ (L.getD 2 false = true → u7 = .bool false) ∧ (L.getD 3 false = true → u8 = .bool false) ∧ (L.getD 4 false = true → u9 = undef) ∧ (L.getD 5 false = true → u10 = undef) ∧ (L.getD 6 false = true → u11 = undef) ∧ (L.getD 7 false = true → u12 = undef) ∧ (L.getD 8 false = true → u13 = undef) ∧ (L.getD 9 false = true → u14 = undef) ∧ (L.getD 10 false = true → u15 = undef) ∧ (L.getD 11 false = true → u16 = .bool false) ∧ (L.getD 12 false = true → u17 = .bool false) ∧ (L.getD 13 false = true → u18 = undef) ∧ (L.getD 14 false = true → u19 = undef) ∧ (L.getD 15 false = true → u20 = undef) ∧ (L.getD 16 false = true → u21 = .bool false)) ?_ ?_ ?_
    · exact ⟨by simp, _, _, _, _, _, _, _, _, _, _, _, _, _, _, _, _, _, rfl, (Below.refl _ _).drew, by simp, by simp, by simp, by simp, by simp, by simp, by simp, by simp, by simp, by simp, by simp, by simp, by simp, by simp, by simp, by simp, by simp⟩
    · rintro i L a w' ⟨hL, u5, u6, u7, u8, u9, u10, u11, u12, u13, u14, u15, u16, u17, u18, u19, u20, u21, rfl, hbw', h0, h1, h2, h3, h4, h5, h6, h7, h8, h9, h10, h11, h12, h13, h14, h15, h16⟩ hi
      have hcases : i = 0 ∨ i = 1 ∨ i = 2 ∨ i = 3 ∨ i = 4 ∨ i = 5 ∨ i = 6 ∨ i = 7 ∨ i = 8 ∨ i = 9 ∨ i = 10 ∨ i = 11 ∨ i = 12 ∨ i = 13 ∨ i = 14 ∨ i = 15 ∨ i = 16 := by
        have : i < 17 := ready_lt hi
        omega
      have hc' := bcell hbw'
      rcases hcases with rfl | rfl | rfl | rfl | rfl | rfl | rfl | rfl | rfl | rfl | rfl | rfl | rfl | rfl | rfl | rfl | rfl
      · refine wpOp_val (.pointer (some ⟨w.heap.size + 1, 0, none⟩)) rfl (by rfl) (by go_simp) ?_
        exact ⟨by simpa using hL, _, _, _, _, _, _, _, _, _, _, _, _, _, _, _, _, _, rfl, hbw', fun _ => rfl, (fun h => h1 ((set_other (by decide)).symm.trans h)), (fun h => h2 ((set_other (by decide)).symm.trans h)), (fun h => h3 ((set_other (by decide)).symm.trans h)), (fun h => h4 ((set_other (by decide)).symm.trans h)), (fun h => h5 ((set_other (by decide)).symm.trans h)), (fun h => h6 ((set_other (by decide)).symm.trans h)), (fun h => h7 ((set_other (by decide)).symm.trans h)), (fun h => h8 ((set_other (by decide)).symm.trans h)), (fun h => h9 ((set_other (by decide)).symm.trans h)), (fun h => h10 ((set_other (by decide)).symm.trans h)), (fun h => h11 ((set_other (by decide)).symm.trans h)), (fun h => h12 ((set_other (by decide)).symm.trans h)), (fun h => h13 ((set_other (by decide)).symm.trans h)), (fun h => h14 ((set_other (by decide)).symm.trans h)), (fun h => h15 ((set_other (by decide)).symm.trans h)), (fun h => h16 ((set_other (by decide)).symm.trans h))⟩
      · obtain rfl := h0 (ready_dep hi 0 (by kernel_rfl))
        refine wpOp_val (I c.kind) rfl (by rfl) (by go_simp) ?_
        exact ⟨by simpa using hL, _, _, _, _, _, _, _, _, _, _, _, _, _, _, _, _, _, rfl, hbw', (fun h => h0 ((set_other (by decide)).symm.trans h)), fun _ => rfl, (fun h => h2 ((set_other (by decide)).symm.trans h)), (fun h => h3 ((set_other (by decide)).symm.trans h)), (fun h => h4 ((set_other (by decide)).symm.trans h)), (fun h => h5 ((set_other (by decide)).symm.trans h)), (fun h => h6 ((set_other (by decide)).symm.trans h)), (fun h => h7 ((set_other (by decide)).symm.trans h)), (fun h => h8 ((set_other (by decide)).symm.trans h)), (fun h => h9 ((set_other (by decide)).symm.trans h)), (fun h => h10 ((set_other (by decide)).symm.trans h)), (fun h => h11 ((set_other (by decide)).symm.trans h)), (fun h => h12 ((set_other (by decide)).symm.trans h)), (fun h => h13 ((set_other (by decide)).symm.trans h)), (fun h => h14 ((set_other (by decide)).symm.trans h)), (fun h => h15 ((set_other (by decide)).symm.trans h)), (fun h => h16 ((set_other (by decide)).symm.trans h))⟩
      · obtain rfl := h1 (ready_dep hi 1 (by kernel_rfl))
        refine wpOp_wp rfl (by rfl) (wp_call_fns (vs := #[I c.kind, I 1, I 7]) rfl (by simp [Act.eval]) (enters_of Tryd.func78 (by kernel_rfl) rfl) (((within_any _ _ _ _)).mono ?_))
        rintro e w2 ⟨rfl, rfl⟩
        rw [hwi]
        exact ⟨by simpa using hL, _, _, _, _, _, _, _, _, _, _, _, _, _, _, _, _, _, rfl, hbw', (fun h => h0 ((set_other (by decide)).symm.trans h)), (fun h => h1 ((set_other (by decide)).symm.trans h)), fun _ => rfl, (fun h => h3 ((set_other (by decide)).symm.trans h)), (fun h => h4 ((set_other (by decide)).symm.trans h)), (fun h => h5 ((set_other (by decide)).symm.trans h)), (fun h => h6 ((set_other (by decide)).symm.trans h)), (fun h => h7 ((set_other (by decide)).symm.trans h)), (fun h => h8 ((set_other (by decide)).symm.trans h)), (fun h => h9 ((set_other (by decide)).symm.trans h)), (fun h => h10 ((set_other (by decide)).symm.trans h)), (fun h => h11 ((set_other (by decide)).symm.trans h)), (fun h => h12 ((set_other (by decide)).symm.trans h)), (fun h => h13 ((set_other (by decide)).symm.trans h)), (fun h => h14 ((set_other (by decide)).symm.trans h)), (fun h => h15 ((set_other (by decide)).symm.trans h)), (fun h => h16 ((set_other (by decide)).symm.trans h))⟩
      · obtain rfl := h2 (ready_dep hi 2 (by kernel_rfl))
        refine wpOp_val (.bool false) rfl (by rfl) (by go_simp) ?_
        exact ⟨by simpa using hL, _, _, _, _, _, _, _, _, _, _, _, _, _, _, _, _, _, rfl, hbw', (fun h => h0 ((set_other (by decide)).symm.trans h)), (fun h => h1 ((set_other (by decide)).symm.trans h)), (fun h => h2 ((set_other (by decide)).symm.trans h)), fun _ => rfl, (fun h => h4 ((set_other (by decide)).symm.trans h)), (fun h => h5 ((set_other (by decide)).symm.trans h)), (fun h => h6 ((set_other (by decide)).symm.trans h)), (fun h => h7 ((set_other (by decide)).symm.trans h)), (fun h => h8 ((set_other (by decide)).symm.trans h)), (fun h => h9 ((set_other (by decide)).symm.trans h)), (fun h => h10 ((set_other (by decide)).symm.trans h)), (fun h => h11 ((set_other (by decide)).symm.trans h)), (fun h => h12 ((set_other (by decide)).symm.trans h)), (fun h => h13 ((set_other (by decide)).symm.trans h)), (fun h => h14 ((set_other (by decide)).symm.trans h)), (fun h => h15 ((set_other (by decide)).symm.trans h)), (fun h => h16 ((set_other (by decide)).symm.trans h))⟩
      · obtain rfl := h3 (ready_dep hi 3 (by kernel_rfl))
        refine wpOp_skip rfl (by rfl) ?_
        exact ⟨by simpa using hL, _, _, _, _, _, _, _, _, _, _, _, _, _, _, _, _, _, rfl, hbw', (fun h => h0 ((set_other (by decide)).symm.trans h)), (fun h => h1 ((set_other (by decide)).symm.trans h)), (fun h => h2 ((set_other (by decide)).symm.trans h)), (fun h => h3 ((set_other (by decide)).symm.trans h)), fun _ => rfl, (fun h => h5 ((set_other (by decide)).symm.trans h)), (fun h => h6 ((set_other (by decide)).symm.trans h)), (fun h => h7 ((set_other (by decide)).symm.trans h)), (fun h => h8 ((set_other (by decide)).symm.trans h)), (fun h => h9 ((set_other (by decide)).symm.trans h)), (fun h => h10 ((set_other (by decide)).symm.trans h)), (fun h => h11 ((set_other (by decide)).symm.trans h)), (fun h => h12 ((set_other (by decide)).symm.trans h)), (fun h => h13 ((set_other (by decide)).symm.trans h)), (fun h => h14 ((set_other (by decide)).symm.trans h)), (fun h => h15 ((set_other (by decide)).symm.trans h)), (fun h => h16 ((set_other (by decide)).symm.trans h))⟩
      · obtain rfl := h3 (ready_dep hi 3 (by kernel_rfl))
        refine wpOp_skip rfl (by rfl) ?_
        exact ⟨by simpa using hL, _, _, _, _, _, _, _, _, _, _, _, _, _, _, _, _, _, rfl, hbw', (fun h => h0 ((set_other (by decide)).symm.trans h)), (fun h => h1 ((set_other (by decide)).symm.trans h)), (fun h => h2 ((set_other (by decide)).symm.trans h)), (fun h => h3 ((set_other (by decide)).symm.trans h)), (fun h => h4 ((set_other (by decide)).symm.trans h)), fun _ => rfl, (fun h => h6 ((set_other (by decide)).symm.trans h)), (fun h => h7 ((set_other (by decide)).symm.trans h)), (fun h => h8 ((set_other (by decide)).symm.trans h)), (fun h => h9 ((set_other (by decide)).symm.trans h)), (fun h => h10 ((set_other (by decide)).symm.trans h)), (fun h => h11 ((set_other (by decide)).symm.trans h)), (fun h => h12 ((set_other (by decide)).symm.trans h)), (fun h => h13 ((set_other (by decide)).symm.trans h)), (fun h => h14 ((set_other (by decide)).symm.trans h)), (fun h => h15 ((set_other (by decide)).symm.trans h)), (fun h => h16 ((set_other (by decide)).symm.trans h))⟩
      · obtain rfl := h3 (ready_dep hi 3 (by kernel_rfl))
        refine wpOp_skip rfl (by rfl) ?_
        exact ⟨by simpa using hL, _, _, _, _, _, _, _, _, _, _, _, _, _, _, _, _, _, rfl, hbw', (fun h => h0 ((set_other (by decide)).symm.trans h)), (fun h => h1 ((set_other (by decide)).symm.trans h)), (fun h => h2 ((set_other (by decide)).symm.trans h)), (fun h => h3 ((set_other (by decide)).symm.trans h)), (fun h => h4 ((set_other (by decide)).symm.trans h)), (fun h => h5 ((set_other (by decide)).symm.trans h)), fun _ => rfl, (fun h => h7 ((set_other (by decide)).symm.trans h)), (fun h => h8 ((set_other (by decide)).symm.trans h)), (fun h => h9 ((set_other (by decide)).symm.trans h)), (fun h => h10 ((set_other (by decide)).symm.trans h)), (fun h => h11 ((set_other (by decide)).symm.trans h)), (fun h => h12 ((set_other (by decide)).symm.trans h)), (fun h => h13 ((set_other (by decide)).symm.trans h)), (fun h => h14 ((set_other (by decide)).symm.trans h)), (fun h => h15 ((set_other (by decide)).symm.trans h)), (fun h => h16 ((set_other (by decide)).symm.trans h))⟩
      · obtain rfl := h3 (ready_dep hi 3 (by kernel_rfl))
        refine wpOp_skip rfl (by rfl) ?_
        exact ⟨by simpa using hL, _, _, _, _, _, _, _, _, _, _, _, _, _, _, _, _, _, rfl, hbw', (fun h => h0 ((set_other (by decide)).symm.trans h)), (fun h => h1 ((set_other (by decide)).symm.trans h)), (fun h => h2 ((set_other (by decide)).symm.trans h)), (fun h => h3 ((set_other (by decide)).symm.trans h)), (fun h => h4 ((set_other (by decide)).symm.trans h)), (fun h => h5 ((set_other (by decide)).symm.trans h)), (fun h => h6 ((set_other (by decide)).symm.trans h)), fun _ => rfl, (fun h => h8 ((set_other (by decide)).symm.trans h)), (fun h => h9 ((set_other (by decide)).symm.trans h)), (fun h => h10 ((set_other (by decide)).symm.trans h)), (fun h => h11 ((set_other (by decide)).symm.trans h)), (fun h => h12 ((set_other (by decide)).symm.trans h)), (fun h => h13 ((set_other (by decide)).symm.trans h)), (fun h => h14 ((set_other (by decide)).symm.trans h)), (fun h => h15 ((set_other (by decide)).symm.trans h)), (fun h => h16 ((set_other (by decide)).symm.trans h))⟩
      · obtain rfl := h3 (ready_dep hi 3 (by kernel_rfl))
        refine wpOp_skip rfl (by rfl) ?_
        exact ⟨by simpa using hL, _, _, _, _, _, _, _, _, _, _, _, _, _, _, _, _, _, rfl, hbw', (fun h => h0 ((set_other (by decide)).symm.trans h)), (fun h => h1 ((set_other (by decide)).symm.trans h)), (fun h => h2 ((set_other (by decide)).symm.trans h)), (fun h => h3 ((set_other (by decide)).symm.trans h)), (fun h => h4 ((set_other (by decide)).symm.trans h)), (fun h => h5 ((set_other (by decide)).symm.trans h)), (fun h => h6 ((set_other (by decide)).symm.trans h)), (fun h => h7 ((set_other (by decide)).symm.trans h)), fun _ => rfl, (fun h => h9 ((set_other (by decide)).symm.trans h)), (fun h => h10 ((set_other (by decide)).symm.trans h)), (fun h => h11 ((set_other (by decide)).symm.trans h)), (fun h => h12 ((set_other (by decide)).symm.trans h)), (fun h => h13 ((set_other (by decide)).symm.trans h)), (fun h => h14 ((set_other (by decide)).symm.trans h)), (fun h => h15 ((set_other (by decide)).symm.trans h)), (fun h => h16 ((set_other (by decide)).symm.trans h))⟩
      · obtain rfl := h3 (ready_dep hi 3 (by kernel_rfl))
        refine wpOp_skip rfl (by rfl) ?_
        exact ⟨by simpa using hL, _, _, _, _, _, _, _, _, _, _, _, _, _, _, _, _, _, rfl, hbw', (fun h => h0 ((set_other (by decide)).symm.trans h)), (fun h => h1 ((set_other (by decide)).symm.trans h)), (fun h => h2 ((set_other (by decide)).symm.trans h)), (fun h => h3 ((set_other (by decide)).symm.trans h)), (fun h => h4 ((set_other (by decide)).symm.trans h)), (fun h => h5 ((set_other (by decide)).symm.trans h)), (fun h => h6 ((set_other (by decide)).symm.trans h)), (fun h => h7 ((set_other (by decide)).symm.trans h)), (fun h => h8 ((set_other (by decide)).symm.trans h)), fun _ => rfl, (fun h => h10 ((set_other (by decide)).symm.trans h)), (fun h => h11 ((set_other (by decide)).symm.trans h)), (fun h => h12 ((set_other (by decide)).symm.trans h)), (fun h => h13 ((set_other (by decide)).symm.trans h)), (fun h => h14 ((set_other (by decide)).symm.trans h)), (fun h => h15 ((set_other (by decide)).symm.trans h)), (fun h => h16 ((set_other (by decide)).symm.trans h))⟩
      · obtain rfl := h3 (ready_dep hi 3 (by kernel_rfl))
        refine wpOp_skip rfl (by rfl) ?_
        exact ⟨by simpa using hL, _, _, _, _, _, _, _, _, _, _, _, _, _, _, _, _, _, rfl, hbw', (fun h => h0 ((set_other (by decide)).symm.trans h)), (fun h => h1 ((set_other (by decide)).symm.trans h)), (fun h => h2 ((set_other (by decide)).symm.trans h)), (fun h => h3 ((set_other (by decide)).symm.trans h)), (fun h => h4 ((set_other (by decide)).symm.trans h)), (fun h => h5 ((set_other (by decide)).symm.trans h)), (fun h => h6 ((set_other (by decide)).symm.trans h)), (fun h => h7 ((set_other (by decide)).symm.trans h)), (fun h => h8 ((set_other (by decide)).symm.trans h)), (fun h => h9 ((set_other (by decide)).symm.trans h)), fun _ => rfl, (fun h => h11 ((set_other (by decide)).symm.trans h)), (fun h => h12 ((set_other (by decide)).symm.trans h)), (fun h => h13 ((set_other (by decide)).symm.trans h)), (fun h => h14 ((set_other (by decide)).symm.trans h)), (fun h => h15 ((set_other (by decide)).symm.trans h)), (fun h => h16 ((set_other (by decide)).symm.trans h))⟩
      · obtain rfl := h3 (ready_dep hi 3 (by kernel_rfl))
        obtain rfl := h10 (ready_dep hi 10 (by kernel_rfl))
        refine wpOp_val (.bool false) rfl (by rfl) (by go_simp) ?_
        exact ⟨by simpa using hL, _, _, _, _, _, _, _, _, _, _, _, _, _, _, _, _, _, rfl, hbw', (fun h => h0 ((set_other (by decide)).symm.trans h)), (fun h => h1 ((set_other (by decide)).symm.trans h)), (fun h => h2 ((set_other (by decide)).symm.trans h)), (fun h => h3 ((set_other (by decide)).symm.trans h)), (fun h => h4 ((set_other (by decide)).symm.trans h)), (fun h => h5 ((set_other (by decide)).symm.trans h)), (fun h => h6 ((set_other (by decide)).symm.trans h)), (fun h => h7 ((set_other (by decide)).symm.trans h)), (fun h => h8 ((set_other (by decide)).symm.trans h)), (fun h => h9 ((set_other (by decide)).symm.trans h)), (fun h => h10 ((set_other (by decide)).symm.trans h)), fun _ => rfl, (fun h => h12 ((set_other (by decide)).symm.trans h)), (fun h => h13 ((set_other (by decide)).symm.trans h)), (fun h => h14 ((set_other (by decide)).symm.trans h)), (fun h => h15 ((set_other (by decide)).symm.trans h)), (fun h => h16 ((set_other (by decide)).symm.trans h))⟩
      · obtain rfl := h11 (ready_dep hi 11 (by kernel_rfl))
        refine wpOp_val (.bool false) rfl (by rfl) (by go_simp) ?_
        exact ⟨by simpa using hL, _, _, _, _, _, _, _, _, _, _, _, _, _, _, _, _, _, rfl, hbw', (fun h => h0 ((set_other (by decide)).symm.trans h)), (fun h => h1 ((set_other (by decide)).symm.trans h)), (fun h => h2 ((set_other (by decide)).symm.trans h)), (fun h => h3 ((set_other (by decide)).symm.trans h)), (fun h => h4 ((set_other (by decide)).symm.trans h)), (fun h => h5 ((set_other (by decide)).symm.trans h)), (fun h => h6 ((set_other (by decide)).symm.trans h)), (fun h => h7 ((set_other (by decide)).symm.trans h)), (fun h => h8 ((set_other (by decide)).symm.trans h)), (fun h => h9 ((set_other (by decide)).symm.trans h)), (fun h => h10 ((set_other (by decide)).symm.trans h)), (fun h => h11 ((set_other (by decide)).symm.trans h)), fun _ => rfl, (fun h => h13 ((set_other (by decide)).symm.trans h)), (fun h => h14 ((set_other (by decide)).symm.trans h)), (fun h => h15 ((set_other (by decide)).symm.trans h)), (fun h => h16 ((set_other (by decide)).symm.trans h))⟩
      · obtain rfl := h12 (ready_dep hi 12 (by kernel_rfl))
        refine wpOp_skip rfl (by rfl) ?_
        exact ⟨by simpa using hL, _, _, _, _, _, _, _, _, _, _, _, _, _, _, _, _, _, rfl, hbw', (fun h => h0 ((set_other (by decide)).symm.trans h)), (fun h => h1 ((set_other (by decide)).symm.trans h)), (fun h => h2 ((set_other (by decide)).symm.trans h)), (fun h => h3 ((set_other (by decide)).symm.trans h)), (fun h => h4 ((set_other (by decide)).symm.trans h)), (fun h => h5 ((set_other (by decide)).symm.trans h)), (fun h => h6 ((set_other (by decide)).symm.trans h)), (fun h => h7 ((set_other (by decide)).symm.trans h)), (fun h => h8 ((set_other (by decide)).symm.trans h)), (fun h => h9 ((set_other (by decide)).symm.trans h)), (fun h => h10 ((set_other (by decide)).symm.trans h)), (fun h => h11 ((set_other (by decide)).symm.trans h)), (fun h => h12 ((set_other (by decide)).symm.trans h)), fun _ => rfl, (fun h => h14 ((set_other (by decide)).symm.trans h)), (fun h => h15 ((set_other (by decide)).symm.trans h)), (fun h => h16 ((set_other (by decide)).symm.trans h))⟩
      · obtain rfl := h12 (ready_dep hi 12 (by kernel_rfl))
        refine wpOp_skip rfl (by rfl) ?_
        exact ⟨by simpa using hL, _, _, _, _, _, _, _, _, _, _, _, _, _, _, _, _, _, rfl, hbw', (fun h => h0 ((set_other (by decide)).symm.trans h)), (fun h => h1 ((set_other (by decide)).symm.trans h)), (fun h => h2 ((set_other (by decide)).symm.trans h)), (fun h => h3 ((set_other (by decide)).symm.trans h)), (fun h => h4 ((set_other (by decide)).symm.trans h)), (fun h => h5 ((set_other (by decide)).symm.trans h)), (fun h => h6 ((set_other (by decide)).symm.trans h)), (fun h => h7 ((set_other (by decide)).symm.trans h)), (fun h => h8 ((set_other (by decide)).symm.trans h)), (fun h => h9 ((set_other (by decide)).symm.trans h)), (fun h => h10 ((set_other (by decide)).symm.trans h)), (fun h => h11 ((set_other (by decide)).symm.trans h)), (fun h => h12 ((set_other (by decide)).symm.trans h)), (fun h => h13 ((set_other (by decide)).symm.trans h)), fun _ => rfl, (fun h => h15 ((set_other (by decide)).symm.trans h)), (fun h => h16 ((set_other (by decide)).symm.trans h))⟩
      · obtain rfl := h12 (ready_dep hi 12 (by kernel_rfl))
        refine wpOp_skip rfl (by rfl) ?_
        exact ⟨by simpa using hL, _, _, _, _, _, _, _, _, _, _, _, _, _, _, _, _, _, rfl, hbw', (fun h => h0 ((set_other (by decide)).symm.trans h)), (fun h => h1 ((set_other (by decide)).symm.trans h)), (fun h => h2 ((set_other (by decide)).symm.trans h)), (fun h => h3 ((set_other (by decide)).symm.trans h)), (fun h => h4 ((set_other (by decide)).symm.trans h)), (fun h => h5 ((set_other (by decide)).symm.trans h)), (fun h => h6 ((set_other (by decide)).symm.trans h)), (fun h => h7 ((set_other (by decide)).symm.trans h)), (fun h => h8 ((set_other (by decide)).symm.trans h)), (fun h => h9 ((set_other (by decide)).symm.trans h)), (fun h => h10 ((set_other (by decide)).symm.trans h)), (fun h => h11 ((set_other (by decide)).symm.trans h)), (fun h => h12 ((set_other (by decide)).symm.trans h)), (fun h => h13 ((set_other (by decide)).symm.trans h)), (fun h => h14 ((set_other (by decide)).symm.trans h)), fun _ => rfl, (fun h => h16 ((set_other (by decide)).symm.trans h))⟩
      · obtain rfl := h12 (ready_dep hi 12 (by kernel_rfl))
        obtain rfl := h15 (ready_dep hi 15 (by kernel_rfl))
        refine wpOp_val (.bool false) rfl (by rfl) (by go_simp) ?_
        exact ⟨by simpa using hL, _, _, _, _, _, _, _, _, _, _, _, _, _, _, _, _, _, rfl, hbw', (fun h => h0 ((set_other (by decide)).symm.trans h)), (fun h => h1 ((set_other (by decide)).symm.trans h)), (fun h => h2 ((set_other (by decide)).symm.trans h)), (fun h => h3 ((set_other (by decide)).symm.trans h)), (fun h => h4 ((set_other (by decide)).symm.trans h)), (fun h => h5 ((set_other (by decide)).symm.trans h)), (fun h => h6 ((set_other (by decide)).symm.trans h)), (fun h => h7 ((set_other (by decide)).symm.trans h)), (fun h => h8 ((set_other (by decide)).symm.trans h)), (fun h => h9 ((set_other (by decide)).symm.trans h)), (fun h => h10 ((set_other (by decide)).symm.trans h)), (fun h => h11 ((set_other (by decide)).symm.trans h)), (fun h => h12 ((set_other (by decide)).symm.trans h)), (fun h => h13 ((set_other (by decide)).symm.trans h)), (fun h => h14 ((set_other (by decide)).symm.trans h)), (fun h => h15 ((set_other (by decide)).symm.trans h)), fun _ => rfl⟩
    · rintro L a w' ⟨hL, u5, u6, u7, u8, u9, u10, u11, u12, u13, u14, u15, u16, u17, u18, u19, u20, u21, rfl, hbw', h0, h1, h2, h3, h4, h5, h6, h7, h8, h9, h10, h11, h12, h13, h14, h15, h16⟩ hr
      have hall := all_listed hL (by kernel_rfl) hr
      obtain rfl := h0 (hall 0 (by decide))
      obtain rfl := h1 (hall 1 (by decide))
      obtain rfl := h2 (hall 2 (by decide))
      obtain rfl := h3 (hall 3 (by decide))
      obtain rfl := h4 (hall 4 (by decide))
      obtain rfl := h5 (hall 5 (by decide))
      obtain rfl := h6 (hall 6 (by decide))
      obtain rfl := h7 (hall 7 (by decide))
      obtain rfl := h8 (hall 8 (by decide))
      obtain rfl := h9 (hall 9 (by decide))
      obtain rfl := h10 (hall 10 (by decide))
      obtain rfl := h11 (hall 11 (by decide))
      obtain rfl := h12 (hall 12 (by decide))
      obtain rfl := h13 (hall 13 (by decide))
      obtain rfl := h14 (hall 14 (by decide))
      obtain rfl := h15 (hall 15 (by decide))
      obtain rfl := h16 (hall 16 (by decide))
      clear hall hr hL
      try dsimp only
      go_wp2_with fail
      go_meet
      exact ⟨rfl, keptS_of hbw'⟩
  case rest =>
    obtain ⟨rfl, hkk⟩ := hcut
    have HKK := Lib.hid hkk.1
    clear hkk
    go_wp2
    go_ret
    exact ⟨rfl, hbw.trans (HKK.out.mono hbw.size)⟩

set_option maxRecDepth 100000 in
set_option maxHeartbeats 4000000 in
theorem checkClue_B (W S : Int) (c : Cl) (A : Option Addr) (cap : Nat) (w : World) (hT : Tab w) (hgl : c.guess.length ≤ maxLen) (q : Nat) (hq : q < 7) (HK : Hid (c.kind = (q : Int) + 1)) (k0 : 1 ≤ c.kind) (k1 : c.kind ≤ 7) (hsb : spB (numsAt q) (gsAt q) c = false) (hwi : wi c.kind 1 7 = true) :
    Calls Tryd.prog 64 #[lockV W S, clV c A cap] w fun e w' => e = .returned (.int .i64 (errIf (false))) ∧ Below w.heap.size w w' := by
  have hbw := two_boxes w (.cells #[.int .i64 W, .int .i64 S] 78) (.cells (clArr c A cap) 26)
  go_enter Tryd.func64, Tryd.ntmps64
  go_upto_region 1 with fail
  obtain ⟨w1, hw1⟩ : ∃ w1, w1 = (w.alloc (.cells #[I W, I S] 78)).alloc (.cells (clArr c A cap) 26) := ⟨_, rfl⟩
  have hw1' := hw1
  simp only [clArr] at hw1'
  rw [← hw1']
  rw [← hw1] at hbw
  have s0 : w.heap.size < w1.heap.size := by rw [hw1]; simp; omega
  have s1 : w.heap.size + 1 < w1.heap.size := by rw [hw1]; simp
  have sg : 0 < w1.heap.size := by omega
  have hT1 := hT.below hbw
  have l0 : w1.cell? ⟨w.heap.size, 0, none⟩ = some (I W) := by rw [hw1, World.cell?_alloc_lt _ _ _ (by simp)]; exact alloc_cell _ _ _ 0
  have l1 : w1.cell? ⟨w.heap.size, 1, none⟩ = some (I S) := by rw [hw1, World.cell?_alloc_lt _ _ _ (by simp)]; exact alloc_cell _ _ _ 1
  have cc := fun i => (by rw [hw1]; exact alloc_cell' _ _ _ _ i (by simp) : w1.cell? ⟨w.heap.size + 1, i, none⟩ = (clArr c A cap)[i]?)
  have c0 : w1.cell? ⟨w.heap.size + 1, 0, none⟩ = some (I c.kind) := cc 0
  have c1 : w1.cell? ⟨w.heap.size + 1, 1, none⟩ = some (I c.a) := cc 1
  have c2 : w1.cell? ⟨w.heap.size + 1, 2, none⟩ = some (I c.b) := cc 2
  have c3 : w1.cell? ⟨w.heap.size + 1, 3, none⟩ = some (I c.n) := cc 3
  have c4 : w1.cell? ⟨w.heap.size + 1, 4, none⟩ = some (I c.m) := cc 4
  have c5 : w1.cell? ⟨w.heap.size + 1, 5, none⟩ = some (.slice A c.guess.length cap) := cc 5
  have c6 : w1.cell? ⟨w.heap.size + 1, 6, none⟩ = some (.bool c.neg) := cc 6
  obtain ⟨t0, t1, t2⟩ := hT1.shape q hq
  have HP := Lib.hid hsb
  clear hsb
  have q0 : (0 : Int) ≤ (q : Int) := by omega
  have q1 : (q : Int) < 7 := by omega
  clear hw1 hw1' cc hT hT1
  go_cut [21] (fun s21 wx => s21 = .bool (false) ∧ KeptS w1 wx)
  case first =>
    refine wp_region_inv (by kernel_rfl) (fun L a w' => L.size = 17 ∧ ∃ u5 u6 u7 u8 u9 u10 u11 u12 u13 u14 u15 u16 u17 u18 u19 u20 u21 : Value, a = { tmps := #[lockV W S, clV c A cap, .pointer (some ⟨w.heap.size, 0, none⟩), .pointer (some ⟨w.heap.size + 1, 0, none⟩), .int .i64 0, u5, u6, u7, u8, u9, u10, u11, u12, u13, u14, u15, u16, u17, u18, u19, u20, u21], defers := [] } ∧ Below w1.heap.size w1 w' ∧ (L.getD 0 false = true → u5 = .pointer (some ⟨w.heap.size + 1, 0, none⟩)) ∧ (L.getD 1 false = true → u6 = I c.kind) ∧ (L.getD 2 false = true → u7 = .bool true) ∧ (L.getD 3 false = true → u8 = .bool true) ∧ (L.getD 4 false = true → u9 = .pointer (some ⟨w.heap.size + 1, 0, none⟩)) ∧ (L.getD 5 false = true → u10 = I c.kind) ∧ (L.getD 6 false = true → u11 = I (q : Int)) ∧ (L.getD 7 false = true → u12 = .pointer (some ⟨0, q * 3, none⟩)) ∧ (L.getD 8 false = true → u13 = .agg #[.string (wordAt q), .string (numsAt q), .bool (gsAt q)]) ∧ (L.getD 9 false = true → u14 = clV c A cap) ∧ (L.getD 10 false = true → u15 = .bool false) ∧ (L.getD 11 false = true → u16 = .bool false) ∧ (L.getD 12 false = true → u17 = .bool false) ∧ (L.getD 13 false = true → u18 = undef) ∧ (L.getD 14 false = true → u19 = undef) ∧ (L.getD 15 false = true → u20 = undef) ∧ (L.getD 16 false = true → u21 = .bool false)) ?_ ?_ ?_
    · exact ⟨by simp, _, _, _, _, _, _, _, _, _, _, _, _, _, _, _, _, _, rfl, (Below.refl _ _).drew, by simp, by simp, by simp, by simp, by simp, by simp, by simp, by simp, by simp, by simp, by simp, by simp, by simp, by simp, by simp, by simp, by simp⟩
    · rintro i L a w' ⟨hL, u5, u6, u7, u8, u9, u10, u11, u12, u13, u14, u15, u16, u17, u18, u19, u20, u21, rfl, hbw', h0, h1, h2, h3, h4, h5, h6, h7, h8, h9, h10, h11, h12, h13, h14, h15, h16⟩ hi
      have hcases : i = 0 ∨ i = 1 ∨ i = 2 ∨ i = 3 ∨ i = 4 ∨ i = 5 ∨ i = 6 ∨ i = 7 ∨ i = 8 ∨ i = 9 ∨ i = 10 ∨ i = 11 ∨ i = 12 ∨ i = 13 ∨ i = 14 ∨ i = 15 ∨ i = 16 := by
        have : i < 17 := ready_lt hi
        omega
      have hc' := bcell hbw'
      rcases hcases with rfl | rfl | rfl | rfl | rfl | rfl | rfl | rfl | rfl | rfl | rfl | rfl | rfl | rfl | rfl | rfl | rfl
      · refine wpOp_val (.pointer (some ⟨w.heap.size + 1, 0, none⟩)) rfl (by rfl) (by go_simp) ?_
        exact ⟨by simpa using hL, _, _, _, _, _, _, _, _, _, _, _, _, _, _, _, _, _, rfl, hbw', fun _ => rfl, (fun h => h1 ((set_other (by decide)).symm.trans h)), (fun h => h2 ((set_other (by decide)).symm.trans h)), (fun h => h3 ((set_other (by decide)).symm.trans h)), (fun h => h4 ((set_other (by decide)).symm.trans h)), (fun h => h5 ((set_other (by decide)).symm.trans h)), (fun h => h6 ((set_other (by decide)).symm.trans h)), (fun h => h7 ((set_other (by decide)).symm.trans h)), (fun h => h8 ((set_other (by decide)).symm.trans h)), (fun h => h9 ((set_other (by decide)).symm.trans h)), (fun h => h10 ((set_other (by decide)).symm.trans h)), (fun h => h11 ((set_other (by decide)).symm.trans h)), (fun h => h12 ((set_other (by decide)).symm.trans h)), (fun h => h13 ((set_other (by decide)).symm.trans h)), (fun h => h14 ((set_other (by decide)).symm.trans h)), (fun h => h15 ((set_other (by decide)).symm.trans h)), (fun h => h16 ((set_other (by decide)).symm.trans h))⟩
      · obtain rfl := h0 (ready_dep hi 0 (by kernel_rfl))
        refine wpOp_val (I c.kind) rfl (by rfl) (by go_simp) ?_
        exact ⟨by simpa using hL, _, _, _, _, _, _, _, _, _, _, _, _, _, _, _, _, _, rfl, hbw', (fun h => h0 ((set_other (by decide)).symm.trans h)), fun _ => rfl, (fun h => h2 ((set_other (by decide)).symm.trans h)), (fun h => h3 ((set_other (by decide)).symm.trans h)), (fun h => h4 ((set_other (by decide)).symm.trans h)), (fun h => h5 ((set_other (by decide)).symm.trans h)), (fun h => h6 ((set_other (by decide)).symm.trans h)), (fun h => h7 ((set_other (by decide)).symm.trans h)), (fun h => h8 ((set_other (by decide)).symm.trans h)), (fun h => h9 ((set_other (by decide)).symm.trans h)), (fun h => h10 ((set_other (by decide)).symm.trans h)), (fun h => h11 ((set_other (by decide)).symm.trans h)), (fun h => h12 ((set_other (by decide)).symm.trans h)), (fun h => h13 ((set_other (by decide)).symm.trans h)), (fun h => h14 ((set_other (by decide)).symm.trans h)), (fun h => h15 ((set_other (by decide)).symm.trans h)), (fun h => h16 ((set_other (by decide)).symm.trans h))⟩
      · obtain rfl := h1 (ready_dep hi 1 (by kernel_rfl))
        refine wpOp_wp rfl (by rfl) (wp_call_fns (vs := #[I c.kind, I 1, I 7]) rfl (by simp [Act.eval]) (enters_of Tryd.func78 (by kernel_rfl) rfl) (((within_any _ _ _ _)).mono ?_))
        rintro e w2 ⟨rfl, rfl⟩
        rw [hwi]
        exact ⟨by simpa using hL, _, _, _, _, _, _, _, _, _, _, _, _, _, _, _, _, _, rfl, hbw', (fun h => h0 ((set_other (by decide)).symm.trans h)), (fun h => h1 ((set_other (by decide)).symm.trans h)), fun _ => rfl, (fun h => h3 ((set_other (by decide)).symm.trans h)), (fun h => h4 ((set_other (by decide)).symm.trans h)), (fun h => h5 ((set_other (by decide)).symm.trans h)), (fun h => h6 ((set_other (by decide)).symm.trans h)), (fun h => h7 ((set_other (by decide)).symm.trans h)), (fun h => h8 ((set_other (by decide)).symm.trans h)), (fun h => h9 ((set_other (by decide)).symm.trans h)), (fun h => h10 ((set_other (by decide)).symm.trans h)), (fun h => h11 ((set_other (by decide)).symm.trans h)), (fun h => h12 ((set_other (by decide)).symm.trans h)), (fun h => h13 ((set_other (by decide)).symm.trans h)), (fun h => h14 ((set_other (by decide)).symm.trans h)), (fun h => h15 ((set_other (by decide)).symm.trans h)), (fun h => h16 ((set_other (by decide)).symm.trans h))⟩
      · obtain rfl := h2 (ready_dep hi 2 (by kernel_rfl))
        refine wpOp_val (.bool true) rfl (by rfl) (by go_simp) ?_
        exact ⟨by simpa using hL, _, _, _, _, _, _, _, _, _, _, _, _, _, _, _, _, _, rfl, hbw', (fun h => h0 ((set_other (by decide)).symm.trans h)), (fun h => h1 ((set_other (by decide)).symm.trans h)), (fun h => h2 ((set_other (by decide)).symm.trans h)), fun _ => rfl, (fun h => h4 ((set_other (by decide)).symm.trans h)), (fun h => h5 ((set_other (by decide)).symm.trans h)), (fun h => h6 ((set_other (by decide)).symm.trans h)), (fun h => h7 ((set_other (by decide)).symm.trans h)), (fun h => h8 ((set_other (by decide)).symm.trans h)), (fun h => h9 ((set_other (by decide)).symm.trans h)), (fun h => h10 ((set_other (by decide)).symm.trans h)), (fun h => h11 ((set_other (by decide)).symm.trans h)), (fun h => h12 ((set_other (by decide)).symm.trans h)), (fun h => h13 ((set_other (by decide)).symm.trans h)), (fun h => h14 ((set_other (by decide)).symm.trans h)), (fun h => h15 ((set_other (by decide)).symm.trans h)), (fun h => h16 ((set_other (by decide)).symm.trans h))⟩
      · obtain rfl := h3 (ready_dep hi 3 (by kernel_rfl))
        refine wpOp_val (.pointer (some ⟨w.heap.size + 1, 0, none⟩)) rfl (by rfl) (by go_simp) ?_
        exact ⟨by simpa using hL, _, _, _, _, _, _, _, _, _, _, _, _, _, _, _, _, _, rfl, hbw', (fun h => h0 ((set_other (by decide)).symm.trans h)), (fun h => h1 ((set_other (by decide)).symm.trans h)), (fun h => h2 ((set_other (by decide)).symm.trans h)), (fun h => h3 ((set_other (by decide)).symm.trans h)), fun _ => rfl, (fun h => h5 ((set_other (by decide)).symm.trans h)), (fun h => h6 ((set_other (by decide)).symm.trans h)), (fun h => h7 ((set_other (by decide)).symm.trans h)), (fun h => h8 ((set_other (by decide)).symm.trans h)), (fun h => h9 ((set_other (by decide)).symm.trans h)), (fun h => h10 ((set_other (by decide)).symm.trans h)), (fun h => h11 ((set_other (by decide)).symm.trans h)), (fun h => h12 ((set_other (by decide)).symm.trans h)), (fun h => h13 ((set_other (by decide)).symm.trans h)), (fun h => h14 ((set_other (by decide)).symm.trans h)), (fun h => h15 ((set_other (by decide)).symm.trans h)), (fun h => h16 ((set_other (by decide)).symm.trans h))⟩
      · obtain rfl := h3 (ready_dep hi 3 (by kernel_rfl))
        obtain rfl := h4 (ready_dep hi 4 (by kernel_rfl))
        refine wpOp_val (I c.kind) rfl (by rfl) (by go_simp) ?_
        exact ⟨by simpa using hL, _, _, _, _, _, _, _, _, _, _, _, _, _, _, _, _, _, rfl, hbw', (fun h => h0 ((set_other (by decide)).symm.trans h)), (fun h => h1 ((set_other (by decide)).symm.trans h)), (fun h => h2 ((set_other (by decide)).symm.trans h)), (fun h => h3 ((set_other (by decide)).symm.trans h)), (fun h => h4 ((set_other (by decide)).symm.trans h)), fun _ => rfl, (fun h => h6 ((set_other (by decide)).symm.trans h)), (fun h => h7 ((set_other (by decide)).symm.trans h)), (fun h => h8 ((set_other (by decide)).symm.trans h)), (fun h => h9 ((set_other (by decide)).symm.trans h)), (fun h => h10 ((set_other (by decide)).symm.trans h)), (fun h => h11 ((set_other (by decide)).symm.trans h)), (fun h => h12 ((set_other (by decide)).symm.trans h)), (fun h => h13 ((set_other (by decide)).symm.trans h)), (fun h => h14 ((set_other (by decide)).symm.trans h)), (fun h => h15 ((set_other (by decide)).symm.trans h)), (fun h => h16 ((set_other (by decide)).symm.trans h))⟩
      · obtain rfl := h3 (ready_dep hi 3 (by kernel_rfl))
        obtain rfl := h5 (ready_dep hi 5 (by kernel_rfl))
        refine wpOp_val (I (q : Int)) rfl (by rfl) (by (go_simp; rw [IntWalk.i64_in _ (by omega)]; have := HK.out; omega)) ?_
        exact ⟨by simpa using hL, _, _, _, _, _, _, _, _, _, _, _, _, _, _, _, _, _, rfl, hbw', (fun h => h0 ((set_other (by decide)).symm.trans h)), (fun h => h1 ((set_other (by decide)).symm.trans h)), (fun h => h2 ((set_other (by decide)).symm.trans h)), (fun h => h3 ((set_other (by decide)).symm.trans h)), (fun h => h4 ((set_other (by decide)).symm.trans h)), (fun h => h5 ((set_other (by decide)).symm.trans h)), fun _ => rfl, (fun h => h7 ((set_other (by decide)).symm.trans h)), (fun h => h8 ((set_other (by decide)).symm.trans h)), (fun h => h9 ((set_other (by decide)).symm.trans h)), (fun h => h10 ((set_other (by decide)).symm.trans h)), (fun h => h11 ((set_other (by decide)).symm.trans h)), (fun h => h12 ((set_other (by decide)).symm.trans h)), (fun h => h13 ((set_other (by decide)).symm.trans h)), (fun h => h14 ((set_other (by decide)).symm.trans h)), (fun h => h15 ((set_other (by decide)).symm.trans h)), (fun h => h16 ((set_other (by decide)).symm.trans h))⟩
      · obtain rfl := h3 (ready_dep hi 3 (by kernel_rfl))
        obtain rfl := h6 (ready_dep hi 6 (by kernel_rfl))
        refine wpOp_val (.pointer (some ⟨0, q * 3, none⟩)) rfl (by rfl) (by go_simp) ?_
        exact ⟨by simpa using hL, _, _, _, _, _, _, _, _, _, _, _, _, _, _, _, _, _, rfl, hbw', (fun h => h0 ((set_other (by decide)).symm.trans h)), (fun h => h1 ((set_other (by decide)).symm.trans h)), (fun h => h2 ((set_other (by decide)).symm.trans h)), (fun h => h3 ((set_other (by decide)).symm.trans h)), (fun h => h4 ((set_other (by decide)).symm.trans h)), (fun h => h5 ((set_other (by decide)).symm.trans h)), (fun h => h6 ((set_other (by decide)).symm.trans h)), fun _ => rfl, (fun h => h8 ((set_other (by decide)).symm.trans h)), (fun h => h9 ((set_other (by decide)).symm.trans h)), (fun h => h10 ((set_other (by decide)).symm.trans h)), (fun h => h11 ((set_other (by decide)).symm.trans h)), (fun h => h12 ((set_other (by decide)).symm.trans h)), (fun h => h13 ((set_other (by decide)).symm.trans h)), (fun h => h14 ((set_other (by decide)).symm.trans h)), (fun h => h15 ((set_other (by decide)).symm.trans h)), (fun h => h16 ((set_other (by decide)).symm.trans h))⟩
      · obtain rfl := h3 (ready_dep hi 3 (by kernel_rfl))
        obtain rfl := h7 (ready_dep hi 7 (by kernel_rfl))
        refine wpOp_val (.agg #[.string (wordAt q), .string (numsAt q), .bool (gsAt q)]) rfl (by rfl) (by go_simp) ?_
        exact ⟨by simpa using hL, _, _, _, _, _, _, _, _, _, _, _, _, _, _, _, _, _, rfl, hbw', (fun h => h0 ((set_other (by decide)).symm.trans h)), (fun h => h1 ((set_other (by decide)).symm.trans h)), (fun h => h2 ((set_other (by decide)).symm.trans h)), (fun h => h3 ((set_other (by decide)).symm.trans h)), (fun h => h4 ((set_other (by decide)).symm.trans h)), (fun h => h5 ((set_other (by decide)).symm.trans h)), (fun h => h6 ((set_other (by decide)).symm.trans h)), (fun h => h7 ((set_other (by decide)).symm.trans h)), fun _ => rfl, (fun h => h9 ((set_other (by decide)).symm.trans h)), (fun h => h10 ((set_other (by decide)).symm.trans h)), (fun h => h11 ((set_other (by decide)).symm.trans h)), (fun h => h12 ((set_other (by decide)).symm.trans h)), (fun h => h13 ((set_other (by decide)).symm.trans h)), (fun h => h14 ((set_other (by decide)).symm.trans h)), (fun h => h15 ((set_other (by decide)).symm.trans h)), (fun h => h16 ((set_other (by decide)).symm.trans h))⟩
      · obtain rfl := h3 (ready_dep hi 3 (by kernel_rfl))
        refine wpOp_val (clV c A cap) rfl (by rfl) (by go_simp) ?_
        exact ⟨by simpa using hL, _, _, _, _, _, _, _, _, _, _, _, _, _, _, _, _, _, rfl, hbw', (fun h => h0 ((set_other (by decide)).symm.trans h)), (fun h => h1 ((set_other (by decide)).symm.trans h)), (fun h => h2 ((set_other (by decide)).symm.trans h)), (fun h => h3 ((set_other (by decide)).symm.trans h)), (fun h => h4 ((set_other (by decide)).symm.trans h)), (fun h => h5 ((set_other (by decide)).symm.trans h)), (fun h => h6 ((set_other (by decide)).symm.trans h)), (fun h => h7 ((set_other (by decide)).symm.trans h)), (fun h => h8 ((set_other (by decide)).symm.trans h)), fun _ => rfl, (fun h => h10 ((set_other (by decide)).symm.trans h)), (fun h => h11 ((set_other (by decide)).symm.trans h)), (fun h => h12 ((set_other (by decide)).symm.trans h)), (fun h => h13 ((set_other (by decide)).symm.trans h)), (fun h => h14 ((set_other (by decide)).symm.trans h)), (fun h => h15 ((set_other (by decide)).symm.trans h)), (fun h => h16 ((set_other (by decide)).symm.trans h))⟩
      · obtain rfl := h3 (ready_dep hi 3 (by kernel_rfl))
        obtain rfl := h8 (ready_dep hi 8 (by kernel_rfl))
        obtain rfl := h9 (ready_dep hi 9 (by kernel_rfl))
        refine wpOp_wp rfl (by rfl) (wp_call_fns (vs := #[.agg #[.string (wordAt q), .string (numsAt q), .bool (gsAt q)], clV c A cap]) rfl (by simp [Act.eval]) (enters_of Tryd.func103 (by kernel_rfl) rfl) (((spares_any _ _ _ c _ _ _ (nums_ascii q hq) (nums_size q hq) hgl)).mono ?_))
        rintro e w2 ⟨rfl, hb⟩
        rw [HP.out]
        exact ⟨by simpa using hL, _, _, _, _, _, _, _, _, _, _, _, _, _, _, _, _, _, rfl, (hbw'.trans (hb.mono hbw'.size)), (fun h => h0 ((set_other (by decide)).symm.trans h)), (fun h => h1 ((set_other (by decide)).symm.trans h)), (fun h => h2 ((set_other (by decide)).symm.trans h)), (fun h => h3 ((set_other (by decide)).symm.trans h)), (fun h => h4 ((set_other (by decide)).symm.trans h)), (fun h => h5 ((set_other (by decide)).symm.trans h)), (fun h => h6 ((set_other (by decide)).symm.trans h)), (fun h => h7 ((set_other (by decide)).symm.trans h)), (fun h => h8 ((set_other (by decide)).symm.trans h)), (fun h => h9 ((set_other (by decide)).symm.trans h)), fun _ => rfl, (fun h => h11 ((set_other (by decide)).symm.trans h)), (fun h => h12 ((set_other (by decide)).symm.trans h)), (fun h => h13 ((set_other (by decide)).symm.trans h)), (fun h => h14 ((set_other (by decide)).symm.trans h)), (fun h => h15 ((set_other (by decide)).symm.trans h)), (fun h => h16 ((set_other (by decide)).symm.trans h))⟩
      · obtain rfl := h3 (ready_dep hi 3 (by kernel_rfl))
        obtain rfl := h10 (ready_dep hi 10 (by kernel_rfl))
        refine wpOp_val (.bool false) rfl (by rfl) (by go_simp) ?_
        exact ⟨by simpa using hL, _, _, _, _, _, _, _, _, _, _, _, _, _, _, _, _, _, rfl, hbw', (fun h => h0 ((set_other (by decide)).symm.trans h)), (fun h => h1 ((set_other (by decide)).symm.trans h)), (fun h => h2 ((set_other (by decide)).symm.trans h)), (fun h => h3 ((set_other (by decide)).symm.trans h)), (fun h => h4 ((set_other (by decide)).symm.trans h)), (fun h => h5 ((set_other (by decide)).symm.trans h)), (fun h => h6 ((set_other (by decide)).symm.trans h)), (fun h => h7 ((set_other (by decide)).symm.trans h)), (fun h => h8 ((set_other (by decide)).symm.trans h)), (fun h => h9 ((set_other (by decide)).symm.trans h)), (fun h => h10 ((set_other (by decide)).symm.trans h)), fun _ => rfl, (fun h => h12 ((set_other (by decide)).symm.trans h)), (fun h => h13 ((set_other (by decide)).symm.trans h)), (fun h => h14 ((set_other (by decide)).symm.trans h)), (fun h => h15 ((set_other (by decide)).symm.trans h)), (fun h => h16 ((set_other (by decide)).symm.trans h))⟩
      · obtain rfl := h11 (ready_dep hi 11 (by kernel_rfl))
        refine wpOp_val (.bool false) rfl (by rfl) (by go_simp) ?_
        exact ⟨by simpa using hL, _, _, _, _, _, _, _, _, _, _, _, _, _, _, _, _, _, rfl, hbw', (fun h => h0 ((set_other (by decide)).symm.trans h)), (fun h => h1 ((set_other (by decide)).symm.trans h)), (fun h => h2 ((set_other (by decide)).symm.trans h)), (fun h => h3 ((set_other (by decide)).symm.trans h)), (fun h => h4 ((set_other (by decide)).symm.trans h)), (fun h => h5 ((set_other (by decide)).symm.trans h)), (fun h => h6 ((set_other (by decide)).symm.trans h)), (fun h => h7 ((set_other (by decide)).symm.trans h)), (fun h => h8 ((set_other (by decide)).symm.trans h)), (fun h => h9 ((set_other (by decide)).symm.trans h)), (fun h => h10 ((set_other (by decide)).symm.trans h)), (fun h => h11 ((set_other (by decide)).symm.trans h)), fun _ => rfl, (fun h => h13 ((set_other (by decide)).symm.trans h)), (fun h => h14 ((set_other (by decide)).symm.trans h)), (fun h => h15 ((set_other (by decide)).symm.trans h)), (fun h => h16 ((set_other (by decide)).symm.trans h))⟩
      · obtain rfl := h12 (ready_dep hi 12 (by kernel_rfl))
        refine wpOp_skip rfl (by rfl) ?_
        exact ⟨by simpa using hL, _, _, _, _, _, _, _, _, _, _, _, _, _, _, _, _, _, rfl, hbw', (fun h => h0 ((set_other (by decide)).symm.trans h)), (fun h => h1 ((set_other (by decide)).symm.trans h)), (fun h => h2 ((set_other (by decide)).symm.trans h)), (fun h => h3 ((set_other (by decide)).symm.trans h)), (fun h => h4 ((set_other (by decide)).symm.trans h)), (fun h => h5 ((set_other (by decide)).symm.trans h)), (fun h => h6 ((set_other (by decide)).symm.trans h)), (fun h => h7 ((set_other (by decide)).symm.trans h)), (fun h => h8 ((set_other (by decide)).symm.trans h)), (fun h => h9 ((set_other (by decide)).symm.trans h)), (fun h => h10 ((set_other (by decide)).symm.trans h)), (fun h => h11 ((set_other (by decide)).symm.trans h)), (fun h => h12 ((set_other (by decide)).symm.trans h)), fun _ => rfl, (fun h => h14 ((set_other (by decide)).symm.trans h)), (fun h => h15 ((set_other (by decide)).symm.trans h)), (fun h => h16 ((set_other (by decide)).symm.trans h))⟩
      · obtain rfl := h12 (ready_dep hi 12 (by kernel_rfl))
        refine wpOp_skip rfl (by rfl) ?_
        exact ⟨by simpa using hL, _, _, _, _, _, _, _, _, _, _, _, _, _, _, _, _, _, rfl, hbw', (fun h => h0 ((set_other (by decide)).symm.trans h)), (fun h => h1 ((set_other (by decide)).symm.trans h)), (fun h => h2 ((set_other (by decide)).symm.trans h)), (fun h => h3 ((set_other (by decide)).symm.trans h)), (fun h => h4 ((set_other (by decide)).symm.trans h)), (fun h => h5 ((set_other (by decide)).symm.trans h)), (fun h => h6 ((set_other (by decide)).symm.trans h)), (fun h => h7 ((set_other (by decide)).symm.trans h)), (fun h => h8 ((set_other (by decide)).symm.trans h)), (fun h => h9 ((set_other (by decide)).symm.trans h)), (fun h => h10 ((set_other (by decide)).symm.trans h)), (fun h => h11 ((set_other (by decide)).symm.trans h)), (fun h => h12 ((set_other (by decide)).symm.trans h)), (fun h => h13 ((set_other (by decide)).symm.trans h)), fun _ => rfl, (fun h => h15 ((set_other (by decide)).symm.trans h)), (fun h => h16 ((set_other (by decide)).symm.trans h))⟩
      · obtain rfl := h12 (ready_dep hi 12 (by kernel_rfl))
        refine wpOp_skip rfl (by rfl) ?_
        exact ⟨by simpa using hL, _, _, _, _, _, _, _, _, _, _, _, _, _, _, _, _, _, rfl, hbw', (fun h => h0 ((set_other (by decide)).symm.trans h)), (fun h => h1 ((set_other (by decide)).symm.trans h)), (fun h => h2 ((set_other (by decide)).symm.trans h)), (fun h => h3 ((set_other (by decide)).symm.trans h)), (fun h => h4 ((set_other (by decide)).symm.trans h)), (fun h => h5 ((set_other (by decide)).symm.trans h)), (fun h => h6 ((set_other (by decide)).symm.trans h)), (fun h => h7 ((set_other (by decide)).symm.trans h)), (fun h => h8 ((set_other (by decide)).symm.trans h)), (fun h => h9 ((set_other (by decide)).symm.trans h)), (fun h => h10 ((set_other (by decide)).symm.trans h)), (fun h => h11 ((set_other (by decide)).symm.trans h)), (fun h => h12 ((set_other (by decide)).symm.trans h)), (fun h => h13 ((set_other (by decide)).symm.trans h)), (fun h => h14 ((set_other (by decide)).symm.trans h)), fun _ => rfl, (fun h => h16 ((set_other (by decide)).symm.trans h))⟩
      · obtain rfl := h12 (ready_dep hi 12 (by kernel_rfl))
        obtain rfl := h15 (ready_dep hi 15 (by kernel_rfl))
        refine wpOp_val (.bool false) rfl (by rfl) (by go_simp) ?_
        exact ⟨by simpa using hL, _, _, _, _, _, _, _, _, _, _, _, _, _, _, _, _, _, rfl, hbw', (fun h => h0 ((set_other (by decide)).symm.trans h)), (fun h => h1 ((set_other (by decide)).symm.trans h)), (fun h => h2 ((set_other (by decide)).symm.trans h)), (fun h => h3 ((set_other (by decide)).symm.trans h)), (fun h => h4 ((set_other (by decide)).symm.trans h)), (fun h => h5 ((set_other (by decide)).symm.trans h)), (fun h => h6 ((set_other (by decide)).symm.trans h)), (fun h => h7 ((set_other (by decide)).symm.trans h)), (fun h => h8 ((set_other (by decide)).symm.trans h)), (fun h => h9 ((set_other (by decide)).symm.trans h)), (fun h => h10 ((set_other (by decide)).symm.trans h)), (fun h => h11 ((set_other (by decide)).symm.trans h)), (fun h => h12 ((set_other (by decide)).symm.trans h)), (fun h => h13 ((set_other (by decide)).symm.trans h)), (fun h => h14 ((set_other (by decide)).symm.trans h)), (fun h => h15 ((set_other (by decide)).symm.trans h)), fun _ => rfl⟩
    · rintro L a w' ⟨hL, u5, u6, u7, u8, u9, u10, u11, u12, u13, u14, u15, u16, u17, u18, u19, u20, u21, rfl, hbw', h0, h1, h2, h3, h4, h5, h6, h7, h8, h9, h10, h11, h12, h13, h14, h15, h16⟩ hr
      have hall := all_listed hL (by kernel_rfl) hr
      obtain rfl := h0 (hall 0 (by decide))
      obtain rfl := h1 (hall 1 (by decide))
      obtain rfl := h2 (hall 2 (by decide))
      obtain rfl := h3 (hall 3 (by decide))
      obtain rfl := h4 (hall 4 (by decide))
      obtain rfl := h5 (hall 5 (by decide))
      obtain rfl := h6 (hall 6 (by decide))
      obtain rfl := h7 (hall 7 (by decide))
      obtain rfl := h8 (hall 8 (by decide))
      obtain rfl := h9 (hall 9 (by decide))
      obtain rfl := h10 (hall 10 (by decide))
      obtain rfl := h11 (hall 11 (by decide))
      obtain rfl := h12 (hall 12 (by decide))
      obtain rfl := h13 (hall 13 (by decide))
      obtain rfl := h14 (hall 14 (by decide))
      obtain rfl := h15 (hall 15 (by decide))
      obtain rfl := h16 (hall 16 (by decide))
      clear hall hr hL
      try dsimp only
      go_wp2_with fail
      go_meet
      exact ⟨rfl, keptS_of hbw'⟩
  case rest =>
    obtain ⟨rfl, hkk⟩ := hcut
    have HKK := Lib.hid hkk.1
    clear hkk
    go_wp2
    go_ret
    exact ⟨rfl, hbw.trans (HKK.out.mono hbw.size)⟩

set_option maxRecDepth 100000 in
set_option maxHeartbeats 4000000 in
theorem checkClue_C (W S : Int) (c : Cl) (A : Option Addr) (cap : Nat) (w : World) (hT : Tab w) (hgl : c.guess.length ≤ maxLen) (q : Nat) (hq : q < 7) (HK : Hid (c.kind = (q : Int) + 1)) (k0 : 1 ≤ c.kind) (k1 : c.kind ≤ 7) (hsb : spB (numsAt q) (gsAt q) c = true) (hR : ∀ w', Below w.heap.size w w' → Calls Tryd.prog 104 #[lockV W S, clV c A cap] w' fun e w2 => e = .returned (.bool (rangeB W S c)) ∧ Below w'.heap.size w' w2) (hwi : wi c.kind 1 7 = true) :
    Calls Tryd.prog 64 #[lockV W S, clV c A cap] w fun e w' => e = .returned (.int .i64 (errIf (rangeB W S c))) ∧ Below w.heap.size w w' := by
  have hbw := two_boxes w (.cells #[.int .i64 W, .int .i64 S] 78) (.cells (clArr c A cap) 26)
  go_enter Tryd.func64, Tryd.ntmps64
  go_upto_region 1 with fail
  obtain ⟨w1, hw1⟩ : ∃ w1, w1 = (w.alloc (.cells #[I W, I S] 78)).alloc (.cells (clArr c A cap) 26) := ⟨_, rfl⟩
  have hw1' := hw1
  simp only [clArr] at hw1'
  rw [← hw1']
  rw [← hw1] at hbw
  have s0 : w.heap.size < w1.heap.size := by rw [hw1]; simp; omega
  have s1 : w.heap.size + 1 < w1.heap.size := by rw [hw1]; simp
  have sg : 0 < w1.heap.size := by omega
  have hT1 := hT.below hbw
  have l0 : w1.cell? ⟨w.heap.size, 0, none⟩ = some (I W) := by rw [hw1, World.cell?_alloc_lt _ _ _ (by simp)]; exact alloc_cell _ _ _ 0
  have l1 : w1.cell? ⟨w.heap.size, 1, none⟩ = some (I S) := by rw [hw1, World.cell?_alloc_lt _ _ _ (by simp)]; exact alloc_cell _ _ _ 1
  have cc := fun i => (by rw [hw1]; exact alloc_cell' _ _ _ _ i (by simp) : w1.cell? ⟨w.heap.size + 1, i, none⟩ = (clArr c A cap)[i]?)
  have c0 : w1.cell? ⟨w.heap.size + 1, 0, none⟩ = some (I c.kind) := cc 0
  have c1 : w1.cell? ⟨w.heap.size + 1, 1, none⟩ = some (I c.a) := cc 1
  have c2 : w1.cell? ⟨w.heap.size + 1, 2, none⟩ = some (I c.b) := cc 2
  have c3 : w1.cell? ⟨w.heap.size + 1, 3, none⟩ = some (I c.n) := cc 3
  have c4 : w1.cell? ⟨w.heap.size + 1, 4, none⟩ = some (I c.m) := cc 4
  have c5 : w1.cell? ⟨w.heap.size + 1, 5, none⟩ = some (.slice A c.guess.length cap) := cc 5
  have c6 : w1.cell? ⟨w.heap.size + 1, 6, none⟩ = some (.bool c.neg) := cc 6
  obtain ⟨t0, t1, t2⟩ := hT1.shape q hq
  have HP := Lib.hid hsb
  clear hsb
  have q0 : (0 : Int) ≤ (q : Int) := by omega
  have q1 : (q : Int) < 7 := by omega
  have hR : ∀ w', Below w1.heap.size w1 w' → _ := fun w' h => hR w' (hbw.trans (h.mono hbw.size))
  clear hw1 hw1' cc hT hT1
  go_cut [21] (fun s21 wx => s21 = .bool (rangeB W S c) ∧ KeptS w1 wx)
  case first =>
    refine wp_region_inv (by kernel_rfl) (fun L a w' => L.size = 17 ∧ ∃ u5 u6 u7 u8 u9 u10 u11 u12 u13 u14 u15 u16 u17 u18 u19 u20 u21 : Value, a = { tmps := #[lockV W S, clV c A cap, .pointer (some ⟨w.heap.size, 0, none⟩), .pointer (some ⟨w.heap.size + 1, 0, none⟩), .int .i64 0, u5, u6, u7, u8, u9, u10, u11, u12, u13, u14, u15, u16, u17, u18, u19, u20, u21], defers := [] } ∧ Below w1.heap.size w1 w' ∧ (L.getD 0 false = true → u5 = .pointer (some ⟨w.heap.size + 1, 0, none⟩)) ∧ (L.getD 1 false = true → u6 = I c.kind) ∧ (L.getD 2 false = true → u7 = .bool true) ∧ (L.getD 3 false = true → u8 = .bool true) ∧ (L.getD 4 false = true → u9 = .pointer (some ⟨w.heap.size + 1, 0, none⟩)) ∧ (L.getD 5 false = true → u10 = I c.kind) ∧ (L.getD 6 false = true → u11 = I (q : Int)) ∧ (L.getD 7 false = true → u12 = .pointer (some ⟨0, q * 3, none⟩)) ∧ (L.getD 8 false = true → u13 = .agg #[.string (wordAt q), .string (numsAt q), .bool (gsAt q)]) ∧ (L.getD 9 false = true → u14 = clV c A cap) ∧ (L.getD 10 false = true → u15 = .bool true) ∧ (L.getD 11 false = true → u16 = .bool true) ∧ (L.getD 12 false = true → u17 = .bool true) ∧ (L.getD 13 false = true → u18 = lockV W S) ∧ (L.getD 14 false = true → u19 = clV c A cap) ∧ (L.getD 15 false = true → u20 = .bool (rangeB W S c)) ∧ (L.getD 16 false = true → u21 = .bool (rangeB W S c))) ?_ ?_ ?_
    · exact ⟨by simp, _, _, _, _, _, _, _, _, _, _, _, _, _, _, _, _, _, rfl, (Below.refl _ _).drew, by simp, by simp, by simp, by simp, by simp, by simp, by simp, by simp, by simp, by simp, by simp, by simp, by simp, by simp, by simp, by simp, by simp⟩
    · rintro i L a w' ⟨hL, u5, u6, u7, u8, u9, u10, u11, u12, u13, u14, u15, u16, u17, u18, u19, u20, u21, rfl, hbw', h0, h1, h2, h3, h4, h5, h6, h7, h8, h9, h10, h11, h12, h13, h14, h15, h16⟩ hi
      have hcases : i = 0 ∨ i = 1 ∨ i = 2 ∨ i = 3 ∨ i = 4 ∨ i = 5 ∨ i = 6 ∨ i = 7 ∨ i = 8 ∨ i = 9 ∨ i = 10 ∨ i = 11 ∨ i = 12 ∨ i = 13 ∨ i = 14 ∨ i = 15 ∨ i = 16 := by
        have : i < 17 := ready_lt hi
        omega
      have hc' := bcell hbw'
      rcases hcases with rfl | rfl | rfl | rfl | rfl | rfl | rfl | rfl | rfl | rfl | rfl | rfl | rfl | rfl | rfl | rfl | rfl
      · refine wpOp_val (.pointer (some ⟨w.heap.size + 1, 0, none⟩)) rfl (by rfl) (by go_simp) ?_
        exact ⟨by simpa using hL, _, _, _, _, _, _, _, _, _, _, _, _, _, _, _, _, _, rfl, hbw', fun _ => rfl, (fun h => h1 ((set_other (by decide)).symm.trans h)), (fun h => h2 ((set_other (by decide)).symm.trans h)), (fun h => h3 ((set_other (by decide)).symm.trans h)), (fun h => h4 ((set_other (by decide)).symm.trans h)), (fun h => h5 ((set_other (by decide)).symm.trans h)), (fun h => h6 ((set_other (by decide)).symm.trans h)), (fun h => h7 ((set_other (by decide)).symm.trans h)), (fun h => h8 ((set_other (by decide)).symm.trans h)), (fun h => h9 ((set_other (by decide)).symm.trans h)), (fun h => h10 ((set_other (by decide)).symm.trans h)), (fun h => h11 ((set_other (by decide)).symm.trans h)), (fun h => h12 ((set_other (by decide)).symm.trans h)), (fun h => h13 ((set_other (by decide)).symm.trans h)), (fun h => h14 ((set_other (by decide)).symm.trans h)), (fun h => h15 ((set_other (by decide)).symm.trans h)), (fun h => h16 ((set_other (by decide)).symm.trans h))⟩
      · obtain rfl := h0 (ready_dep hi 0 (by kernel_rfl))
        refine wpOp_val (I c.kind) rfl (by rfl) (by go_simp) ?_
        exact ⟨by simpa using hL, _, _, _, _, _, _, _, _, _, _, _, _, _, _, _, _, _, rfl, hbw', (fun h => h0 ((set_other (by decide)).symm.trans h)), fun _ => rfl, (fun h => h2 ((set_other (by decide)).symm.trans h)), (fun h => h3 ((set_other (by decide)).symm.trans h)), (fun h => h4 ((set_other (by decide)).symm.trans h)), (fun h => h5 ((set_other (by decide)).symm.trans h)), (fun h => h6 ((set_other (by decide)).symm.trans h)), (fun h => h7 ((set_other (by decide)).symm.trans h)), (fun h => h8 ((set_other (by decide)).symm.trans h)), (fun h => h9 ((set_other (by decide)).symm.trans h)), (fun h => h10 ((set_other (by decide)).symm.trans h)), (fun h => h11 ((set_other (by decide)).symm.trans h)), (fun h => h12 ((set_other (by decide)).symm.trans h)), (fun h => h13 ((set_other (by decide)).symm.trans h)), (fun h => h14 ((set_other (by decide)).symm.trans h)), (fun h => h15 ((set_other (by decide)).symm.trans h)), (fun h => h16 ((set_other (by decide)).symm.trans h))⟩
      · obtain rfl := h1 (ready_dep hi 1 (by kernel_rfl))
        refine wpOp_wp rfl (by rfl) (wp_call_fns (vs := #[I c.kind, I 1, I 7]) rfl (by simp [Act.eval]) (enters_of Tryd.func78 (by kernel_rfl) rfl) (((within_any _ _ _ _)).mono ?_))
        rintro e w2 ⟨rfl, rfl⟩
        rw [hwi]
        exact ⟨by simpa using hL, _, _, _, _, _, _, _, _, _, _, _, _, _, _, _, _, _, rfl, hbw', (fun h => h0 ((set_other (by decide)).symm.trans h)), (fun h => h1 ((set_other (by decide)).symm.trans h)), fun _ => rfl, (fun h => h3 ((set_other (by decide)).symm.trans h)), (fun h => h4 ((set_other (by decide)).symm.trans h)), (fun h => h5 ((set_other (by decide)).symm.trans h)), (fun h => h6 ((set_other (by decide)).symm.trans h)), (fun h => h7 ((set_other (by decide)).symm.trans h)), (fun h => h8 ((set_other (by decide)).symm.trans h)), (fun h => h9 ((set_other (by decide)).symm.trans h)), (fun h => h10 ((set_other (by decide)).symm.trans h)), (fun h => h11 ((set_other (by decide)).symm.trans h)), (fun h => h12 ((set_other (by decide)).symm.trans h)), (fun h => h13 ((set_other (by decide)).symm.trans h)), (fun h => h14 ((set_other (by decide)).symm.trans h)), (fun h => h15 ((set_other (by decide)).symm.trans h)), (fun h => h16 ((set_other (by decide)).symm.trans h))⟩
      · obtain rfl := h2 (ready_dep hi 2 (by kernel_rfl))
        refine wpOp_val (.bool true) rfl (by rfl) (by go_simp) ?_
        exact ⟨by simpa using hL, _, _, _, _, _, _, _, _, _, _, _, _, _, _, _, _, _, rfl, hbw', (fun h => h0 ((set_other (by decide)).symm.trans h)), (fun h => h1 ((set_other (by decide)).symm.trans h)), (fun h => h2 ((set_other (by decide)).symm.trans h)), fun _ => rfl, (fun h => h4 ((set_other (by decide)).symm.trans h)), (fun h => h5 ((set_other (by decide)).symm.trans h)), (fun h => h6 ((set_other (by decide)).symm.trans h)), (fun h => h7 ((set_other (by decide)).symm.trans h)), (fun h => h8 ((set_other (by decide)).symm.trans h)), (fun h => h9 ((set_other (by decide)).symm.trans h)), (fun h => h10 ((set_other (by decide)).symm.trans h)), (fun h => h11 ((set_other (by decide)).symm.trans h)), (fun h => h12 ((set_other (by decide)).symm.trans h)), (fun h => h13 ((set_other (by decide)).symm.trans h)), (fun h => h14 ((set_other (by decide)).symm.trans h)), (fun h => h15 ((set_other (by decide)).symm.trans h)), (fun h => h16 ((set_other (by decide)).symm.trans h))⟩
      · obtain rfl := h3 (ready_dep hi 3 (by kernel_rfl))
        refine wpOp_val (.pointer (some ⟨w.heap.size + 1, 0, none⟩)) rfl (by rfl) (by go_simp) ?_
        exact ⟨by simpa using hL, _, _, _, _, _, _, _, _, _, _, _, _, _, _, _, _, _, rfl, hbw', (fun h => h0 ((set_other (by decide)).symm.trans h)), (fun h => h1 ((set_other (by decide)).symm.trans h)), (fun h => h2 ((set_other (by decide)).symm.trans h)), (fun h => h3 ((set_other (by decide)).symm.trans h)), fun _ => rfl, (fun h => h5 ((set_other (by decide)).symm.trans h)), (fun h => h6 ((set_other (by decide)).symm.trans h)), (fun h => h7 ((set_other (by decide)).symm.trans h)), (fun h => h8 ((set_other (by decide)).symm.trans h)), (fun h => h9 ((set_other (by decide)).symm.trans h)), (fun h => h10 ((set_other (by decide)).symm.trans h)), (fun h => h11 ((set_other (by decide)).symm.trans h)), (fun h => h12 ((set_other (by decide)).symm.trans h)), (fun h => h13 ((set_other (by decide)).symm.trans h)), (fun h => h14 ((set_other (by decide)).symm.trans h)), (fun h => h15 ((set_other (by decide)).symm.trans h)), (fun h => h16 ((set_other (by decide)).symm.trans h))⟩
      · obtain rfl := h3 (ready_dep hi 3 (by kernel_rfl))
        obtain rfl := h4 (ready_dep hi 4 (by kernel_rfl))
        refine wpOp_val (I c.kind) rfl (by rfl) (by go_simp) ?_
        exact ⟨by simpa using hL, _, _, _, _, _, _, _, _, _, _, _, _, _, _, _, _, _, rfl, hbw', (fun h => h0 ((set_other (by decide)).symm.trans h)), (fun h => h1 ((set_other (by decide)).symm.trans h)), (fun h => h2 ((set_other (by decide)).symm.trans h)), (fun h => h3 ((set_other (by decide)).symm.trans h)), (fun h => h4 ((set_other (by decide)).symm.trans h)), fun _ => rfl, (fun h => h6 ((set_other (by decide)).symm.trans h)), (fun h => h7 ((set_other (by decide)).symm.trans h)), (fun h => h8 ((set_other (by decide)).symm.trans h)), (fun h => h9 ((set_other (by decide)).symm.trans h)), (fun h => h10 ((set_other (by decide)).symm.trans h)), (fun h => h11 ((set_other (by decide)).symm.trans h)), (fun h => h12 ((set_other (by decide)).symm.trans h)), (fun h => h13 ((set_other (by decide)).symm.trans h)), (fun h => h14 ((set_other (by decide)).symm.trans h)), (fun h => h15 ((set_other (by decide)).symm.trans h)), (fun h => h16 ((set_other (by decide)).symm.trans h))⟩
      · obtain rfl := h3 (ready_dep hi 3 (by kernel_rfl))
        obtain rfl := h5 (ready_dep hi 5 (by kernel_rfl))
        refine wpOp_val (I (q : Int)) rfl (by rfl) (by (go_simp; rw [IntWalk.i64_in _ (by omega)]; have := HK.out; omega)) ?_
        exact ⟨by simpa using hL, _, _, _, _, _, _, _, _, _, _, _, _, _, _, _, _, _, rfl, hbw', (fun h => h0 ((set_other (by decide)).symm.trans h)), (fun h => h1 ((set_other (by decide)).symm.trans h)), (fun h => h2 ((set_other (by decide)).symm.trans h)), (fun h => h3 ((set_other (by decide)).symm.trans h)), (fun h => h4 ((set_other (by decide)).symm.trans h)), (fun h => h5 ((set_other (by decide)).symm.trans h)), fun _ => rfl, (fun h => h7 ((set_other (by decide)).symm.trans h)), (fun h => h8 ((set_other (by decide)).symm.trans h)), (fun h => h9 ((set_other (by decide)).symm.trans h)), (fun h => h10 ((set_other (by decide)).symm.trans h)), (fun h => h11 ((set_other (by decide)).symm.trans h)), (fun h => h12 ((set_other (by decide)).symm.trans h)), (fun h => h13 ((set_other (by decide)).symm.trans h)), (fun h => h14 ((set_other (by decide)).symm.trans h)), (fun h => h15 ((set_other (by decide)).symm.trans h)), (fun h => h16 ((set_other (by decide)).symm.trans h))⟩
      · obtain rfl := h3 (ready_dep hi 3 (by kernel_rfl))
        obtain rfl := h6 (ready_dep hi 6 (by kernel_rfl))
        refine wpOp_val (.pointer (some ⟨0, q * 3, none⟩)) rfl (by rfl) (by go_simp) ?_
        exact ⟨by simpa using hL, _, _, _, _, _, _, _, _, _, _, _, _, _, _, _, _, _, rfl, hbw', (fun h => h0 ((set_other (by decide)).symm.trans h)), (fun h => h1 ((set_other (by decide)).symm.trans h)), (fun h => h2 ((set_other (by decide)).symm.trans h)), (fun h => h3 ((set_other (by decide)).symm.trans h)), (fun h => h4 ((set_other (by decide)).symm.trans h)), (fun h => h5 ((set_other (by decide)).symm.trans h)), (fun h => h6 ((set_other (by decide)).symm.trans h)), fun _ => rfl, (fun h => h8 ((set_other (by decide)).symm.trans h)), (fun h => h9 ((set_other (by decide)).symm.trans h)), (fun h => h10 ((set_other (by decide)).symm.trans h)), (fun h => h11 ((set_other (by decide)).symm.trans h)), (fun h => h12 ((set_other (by decide)).symm.trans h)), (fun h => h13 ((set_other (by decide)).symm.trans h)), (fun h => h14 ((set_other (by decide)).symm.trans h)), (fun h => h15 ((set_other (by decide)).symm.trans h)), (fun h => h16 ((set_other (by decide)).symm.trans h))⟩
      · obtain rfl := h3 (ready_dep hi 3 (by kernel_rfl))
        obtain rfl := h7 (ready_dep hi 7 (by kernel_rfl))
        refine wpOp_val (.agg #[.string (wordAt q), .string (numsAt q), .bool (gsAt q)]) rfl (by rfl) (by go_simp) ?_
        exact ⟨by simpa using hL, _, _, _, _, _, _, _, _, _, _, _, _, _, _, _, _, _, rfl, hbw', (fun h => h0 ((set_other (by decide)).symm.trans h)), (fun h => h1 ((set_other (by decide)).symm.trans h)), (fun h => h2 ((set_other (by decide)).symm.trans h)), (fun h => h3 ((set_other (by decide)).symm.trans h)), (fun h => h4 ((set_other (by decide)).symm.trans h)), (fun h => h5 ((set_other (by decide)).symm.trans h)), (fun h => h6 ((set_other (by decide)).symm.trans h)), (fun h => h7 ((set_other (by decide)).symm.trans h)), fun _ => rfl, (fun h => h9 ((set_other (by decide)).symm.trans h)), (fun h => h10 ((set_other (by decide)).symm.trans h)), (fun h => h11 ((set_other (by decide)).symm.trans h)), (fun h => h12 ((set_other (by decide)).symm.trans h)), (fun h => h13 ((set_other (by decide)).symm.trans h)), (fun h => h14 ((set_other (by decide)).symm.trans h)), (fun h => h15 ((set_other (by decide)).symm.trans h)), (fun h => h16 ((set_other (by decide)).symm.trans h))⟩
      · obtain rfl := h3 (ready_dep hi 3 (by kernel_rfl))
        refine wpOp_val (clV c A cap) rfl (by rfl) (by go_simp) ?_
        exact ⟨by simpa using hL, _, _, _, _, _, _, _, _, _, _, _, _, _, _, _, _, _, rfl, hbw', (fun h => h0 ((set_other (by decide)).symm.trans h)), (fun h => h1 ((set_other (by decide)).symm.trans h)), (fun h => h2 ((set_other (by decide)).symm.trans h)), (fun h => h3 ((set_other (by decide)).symm.trans h)), (fun h => h4 ((set_other (by decide)).symm.trans h)), (fun h => h5 ((set_other (by decide)).symm.trans h)), (fun h => h6 ((set_other (by decide)).symm.trans h)), (fun h => h7 ((set_other (by decide)).symm.trans h)), (fun h => h8 ((set_other (by decide)).symm.trans h)), fun _ => rfl, (fun h => h10 ((set_other (by decide)).symm.trans h)), (fun h => h11 ((set_other (by decide)).symm.trans h)), (fun h => h12 ((set_other (by decide)).symm.trans h)), (fun h => h13 ((set_other (by decide)).symm.trans h)), (fun h => h14 ((set_other (by decide)).symm.trans h)), (fun h => h15 ((set_other (by decide)).symm.trans h)), (fun h => h16 ((set_other (by decide)).symm.trans h))⟩
      · obtain rfl := h3 (ready_dep hi 3 (by kernel_rfl))
        obtain rfl := h8 (ready_dep hi 8 (by kernel_rfl))
        obtain rfl := h9 (ready_dep hi 9 (by kernel_rfl))
        refine wpOp_wp rfl (by rfl) (wp_call_fns (vs := #[.agg #[.string (wordAt q), .string (numsAt q), .bool (gsAt q)], clV c A cap]) rfl (by simp [Act.eval]) (enters_of Tryd.func103 (by kernel_rfl) rfl) (((spares_any _ _ _ c _ _ _ (nums_ascii q hq) (nums_size q hq) hgl)).mono ?_))
        rintro e w2 ⟨rfl, hb⟩
        rw [HP.out]
        exact ⟨by simpa using hL, _, _, _, _, _, _, _, _, _, _, _, _, _, _, _, _, _, rfl, (hbw'.trans (hb.mono hbw'.size)), (fun h => h0 ((set_other (by decide)).symm.trans h)), (fun h => h1 ((set_other (by decide)).symm.trans h)), (fun h => h2 ((set_other (by decide)).symm.trans h)), (fun h => h3 ((set_other (by decide)).symm.trans h)), (fun h => h4 ((set_other (by decide)).symm.trans h)), (fun h => h5 ((set_other (by decide)).symm.trans h)), (fun h => h6 ((set_other (by decide)).symm.trans h)), (fun h => h7 ((set_other (by decide)).symm.trans h)), (fun h => h8 ((set_other (by decide)).symm.trans h)), (fun h => h9 ((set_other (by decide)).symm.trans h)), fun _ => rfl, (fun h => h11 ((set_other (by decide)).symm.trans h)), (fun h => h12 ((set_other (by decide)).symm.trans h)), (fun h => h13 ((set_other (by decide)).symm.trans h)), (fun h => h14 ((set_other (by decide)).symm.trans h)), (fun h => h15 ((set_other (by decide)).symm.trans h)), (fun h => h16 ((set_other (by decide)).symm.trans h))⟩
      · obtain rfl := h3 (ready_dep hi 3 (by kernel_rfl))
        obtain rfl := h10 (ready_dep hi 10 (by kernel_rfl))
        refine wpOp_val (.bool true) rfl (by rfl) (by go_simp) ?_
        exact ⟨by simpa using hL, _, _, _, _, _, _, _, _, _, _, _, _, _, _, _, _, _, rfl, hbw', (fun h => h0 ((set_other (by decide)).symm.trans h)), (fun h => h1 ((set_other (by decide)).symm.trans h)), (fun h => h2 ((set_other (by decide)).symm.trans h)), (fun h => h3 ((set_other (by decide)).symm.trans h)), (fun h => h4 ((set_other (by decide)).symm.trans h)), (fun h => h5 ((set_other (by decide)).symm.trans h)), (fun h => h6 ((set_other (by decide)).symm.trans h)), (fun h => h7 ((set_other (by decide)).symm.trans h)), (fun h => h8 ((set_other (by decide)).symm.trans h)), (fun h => h9 ((set_other (by decide)).symm.trans h)), (fun h => h10 ((set_other (by decide)).symm.trans h)), fun _ => rfl, (fun h => h12 ((set_other (by decide)).symm.trans h)), (fun h => h13 ((set_other (by decide)).symm.trans h)), (fun h => h14 ((set_other (by decide)).symm.trans h)), (fun h => h15 ((set_other (by decide)).symm.trans h)), (fun h => h16 ((set_other (by decide)).symm.trans h))⟩
      · obtain rfl := h11 (ready_dep hi 11 (by kernel_rfl))
        refine wpOp_val (.bool true) rfl (by rfl) (by go_simp) ?_
        exact ⟨by simpa using hL, _, _, _, _, _, _, _, _, _, _, _, _, _, _, _, _, _, rfl, hbw', (fun h => h0 ((set_other (by decide)).symm.trans h)), (fun h => h1 ((set_other (by decide)).symm.trans h)), (fun h => h2 ((set_other (by decide)).symm.trans h)), (fun h => h3 ((set_other (by decide)).symm.trans h)), (fun h => h4 ((set_other (by decide)).symm.trans h)), (fun h => h5 ((set_other (by decide)).symm.trans h)), (fun h => h6 ((set_other (by decide)).symm.trans h)), (fun h => h7 ((set_other (by decide)).symm.trans h)), (fun h => h8 ((set_other (by decide)).symm.trans h)), (fun h => h9 ((set_other (by decide)).symm.trans h)), (fun h => h10 ((set_other (by decide)).symm.trans h)), (fun h => h11 ((set_other (by decide)).symm.trans h)), fun _ => rfl, (fun h => h13 ((set_other (by decide)).symm.trans h)), (fun h => h14 ((set_other (by decide)).symm.trans h)), (fun h => h15 ((set_other (by decide)).symm.trans h)), (fun h => h16 ((set_other (by decide)).symm.trans h))⟩
      · obtain rfl := h12 (ready_dep hi 12 (by kernel_rfl))
        refine wpOp_val (lockV W S) rfl (by rfl) (by go_simp) ?_
        exact ⟨by simpa using hL, _, _, _, _, _, _, _, _, _, _, _, _, _, _, _, _, _, rfl, hbw', (fun h => h0 ((set_other (by decide)).symm.trans h)), (fun h => h1 ((set_other (by decide)).symm.trans h)), (fun h => h2 ((set_other (by decide)).symm.trans h)), (fun h => h3 ((set_other (by decide)).symm.trans h)), (fun h => h4 ((set_other (by decide)).symm.trans h)), (fun h => h5 ((set_other (by decide)).symm.trans h)), (fun h => h6 ((set_other (by decide)).symm.trans h)), (fun h => h7 ((set_other (by decide)).symm.trans h)), (fun h => h8 ((set_other (by decide)).symm.trans h)), (fun h => h9 ((set_other (by decide)).symm.trans h)), (fun h => h10 ((set_other (by decide)).symm.trans h)), (fun h => h11 ((set_other (by decide)).symm.trans h)), (fun h => h12 ((set_other (by decide)).symm.trans h)), fun _ => rfl, (fun h => h14 ((set_other (by decide)).symm.trans h)), (fun h => h15 ((set_other (by decide)).symm.trans h)), (fun h => h16 ((set_other (by decide)).symm.trans h))⟩
      · obtain rfl := h12 (ready_dep hi 12 (by kernel_rfl))
        refine wpOp_val (clV c A cap) rfl (by rfl) (by go_simp) ?_
        exact ⟨by simpa using hL, _, _, _, _, _, _, _, _, _, _, _, _, _, _, _, _, _, rfl, hbw', (fun h => h0 ((set_other (by decide)).symm.trans h)), (fun h => h1 ((set_other (by decide)).symm.trans h)), (fun h => h2 ((set_other (by decide)).symm.trans h)), (fun h => h3 ((set_other (by decide)).symm.trans h)), (fun h => h4 ((set_other (by decide)).symm.trans h)), (fun h => h5 ((set_other (by decide)).symm.trans h)), (fun h => h6 ((set_other (by decide)).symm.trans h)), (fun h => h7 ((set_other (by decide)).symm.trans h)), (fun h => h8 ((set_other (by decide)).symm.trans h)), (fun h => h9 ((set_other (by decide)).symm.trans h)), (fun h => h10 ((set_other (by decide)).symm.trans h)), (fun h => h11 ((set_other (by decide)).symm.trans h)), (fun h => h12 ((set_other (by decide)).symm.trans h)), (fun h => h13 ((set_other (by decide)).symm.trans h)), fun _ => rfl, (fun h => h15 ((set_other (by decide)).symm.trans h)), (fun h => h16 ((set_other (by decide)).symm.trans h))⟩
      · obtain rfl := h12 (ready_dep hi 12 (by kernel_rfl))
        obtain rfl := h13 (ready_dep hi 13 (by kernel_rfl))
        obtain rfl := h14 (ready_dep hi 14 (by kernel_rfl))
        refine wpOp_wp rfl (by rfl) (wp_call_fns (vs := #[lockV W S, clV c A cap]) rfl (by simp [Act.eval]) (enters_of Tryd.func104 (by kernel_rfl) rfl) ((hR _ hbw').mono ?_))
        rintro e w2 ⟨rfl, hb⟩
        exact ⟨by simpa using hL, _, _, _, _, _, _, _, _, _, _, _, _, _, _, _, _, _, rfl, (hbw'.trans (hb.mono hbw'.size)), (fun h => h0 ((set_other (by decide)).symm.trans h)), (fun h => h1 ((set_other (by decide)).symm.trans h)), (fun h => h2 ((set_other (by decide)).symm.trans h)), (fun h => h3 ((set_other (by decide)).symm.trans h)), (fun h => h4 ((set_other (by decide)).symm.trans h)), (fun h => h5 ((set_other (by decide)).symm.trans h)), (fun h => h6 ((set_other (by decide)).symm.trans h)), (fun h => h7 ((set_other (by decide)).symm.trans h)), (fun h => h8 ((set_other (by decide)).symm.trans h)), (fun h => h9 ((set_other (by decide)).symm.trans h)), (fun h => h10 ((set_other (by decide)).symm.trans h)), (fun h => h11 ((set_other (by decide)).symm.trans h)), (fun h => h12 ((set_other (by decide)).symm.trans h)), (fun h => h13 ((set_other (by decide)).symm.trans h)), (fun h => h14 ((set_other (by decide)).symm.trans h)), fun _ => rfl, (fun h => h16 ((set_other (by decide)).symm.trans h))⟩
      · obtain rfl := h12 (ready_dep hi 12 (by kernel_rfl))
        obtain rfl := h15 (ready_dep hi 15 (by kernel_rfl))
        refine wpOp_val (.bool (rangeB W S c)) rfl (by rfl) (by go_simp) ?_
        exact ⟨by simpa using hL, _, _, _, _, _, _, _, _, _, _, _, _, _, _, _, _, _, rfl, hbw', (fun h => h0 ((set_other (by decide)).symm.trans h)), (fun h => h1 ((set_other (by decide)).symm.trans h)), (fun h => h2 ((set_other (by decide)).symm.trans h)), (fun h => h3 ((set_other (by decide)).symm.trans h)), (fun h => h4 ((set_other (by decide)).symm.trans h)), (fun h => h5 ((set_other (by decide)).symm.trans h)), (fun h => h6 ((set_other (by decide)).symm.trans h)), (fun h => h7 ((set_other (by decide)).symm.trans h)), (fun h => h8 ((set_other (by decide)).symm.trans h)), (fun h => h9 ((set_other (by decide)).symm.trans h)), (fun h => h10 ((set_other (by decide)).symm.trans h)), (fun h => h11 ((set_other (by decide)).symm.trans h)), (fun h => h12 ((set_other (by decide)).symm.trans h)), (fun h => h13 ((set_other (by decide)).symm.trans h)), (fun h => h14 ((set_other (by decide)).symm.trans h)), (fun h => h15 ((set_other (by decide)).symm.trans h)), fun _ => rfl⟩
    · rintro L a w' ⟨hL, u5, u6, u7, u8, u9, u10, u11, u12, u13, u14, u15, u16, u17, u18, u19, u20, u21, rfl, hbw', h0, h1, h2, h3, h4, h5, h6, h7, h8, h9, h10, h11, h12, h13, h14, h15, h16⟩ hr
      have hall := all_listed hL (by kernel_rfl) hr
      obtain rfl := h0 (hall 0 (by decide))
      obtain rfl := h1 (hall 1 (by decide))
      obtain rfl := h2 (hall 2 (by decide))
      obtain rfl := h3 (hall 3 (by decide))
      obtain rfl := h4 (hall 4 (by decide))
      obtain rfl := h5 (hall 5 (by decide))
      obtain rfl := h6 (hall 6 (by decide))
      obtain rfl := h7 (hall 7 (by decide))
      obtain rfl := h8 (hall 8 (by decide))
      obtain rfl := h9 (hall 9 (by decide))
      obtain rfl := h10 (hall 10 (by decide))
      obtain rfl := h11 (hall 11 (by decide))
      obtain rfl := h12 (hall 12 (by decide))
      obtain rfl := h13 (hall 13 (by decide))
      obtain rfl := h14 (hall 14 (by decide))
      obtain rfl := h15 (hall 15 (by decide))
      obtain rfl := h16 (hall 16 (by decide))
      clear hall hr hL
      try dsimp only
      go_wp2_with fail
      go_meet
      exact ⟨rfl, keptS_of hbw'⟩
  case rest =>
    obtain ⟨rfl, hkk⟩ := hcut
    have HKK := Lib.hid hkk.1
    clear hkk
    cases hb3 : rangeB W S c
    · go_wp2
      go_ret
      exact ⟨ret_int (by rw [hb3]; rfl), hbw.trans (HKK.out.mono hbw.size)⟩
    · go_wp2
      go_ret
      exact ⟨ret_int (by rw [hb3]; rfl), hbw.trans (HKK.out.mono hbw.size)⟩

theorem checkClue_any (W S : Int) (c : Cl) (A : Option Addr) (cap : Nat) (w : World) (hT : Tab w) (hg : IntsR w w.heap.size A c.guess) (hgl : c.guess.length ≤ maxLen) :
    Calls Tryd.prog 64 #[lockV W S, clV c A cap] w fun e w' => e = .returned (.int .i64 (clueErr W S c)) ∧ Below w.heap.size w w' := by
  cases hwi : wi c.kind 1 7
  · have h := checkClue_A W S c A cap w hT hgl hwi
    refine h.mono fun e w' ⟨he, hb⟩ => ⟨?_, hb⟩
    rw [he, clueErr, clueB, hwi]; rfl
  · have hk : 1 ≤ c.kind ∧ c.kind ≤ 7 := by simpa [wi] using hwi
    obtain ⟨kind, a, b, n, m, g, ng⟩ := c
    obtain ⟨k, hk'⟩ : ∃ k : Nat, kind = (k : Int) + 1 := ⟨(kind - 1).toNat, by simp only at hk; omega⟩
    subst hk'
    have hq : k < 7 := by simp only at hk; omega
    cases hsb : spB (numsAt k) (gsAt k) ⟨(k : Int) + 1, a, b, n, m, g, ng⟩
    · have h := checkClue_B W S ⟨(k : Int) + 1, a, b, n, m, g, ng⟩ A cap w hT hgl k hq (Lib.hid rfl) hk.1 hk.2 hsb hwi
      rw [spB_at k hq] at hsb
      refine h.mono fun e w' ⟨he, hb⟩ => ⟨?_, hb⟩
      rw [he, clueErr, clueB, hwi, hsb]; rfl
    · have h := checkClue_C W S ⟨(k : Int) + 1, a, b, n, m, g, ng⟩ A cap w hT hgl k hq (Lib.hid rfl) hk.1 hk.2 hsb (fun w' h => inRange_at k hq W S a b n m g ng A cap w' (ints_call h hg) hgl) hwi
      rw [spB_at k hq] at hsb
      refine h.mono fun e w' ⟨he, hb⟩ => ⟨?_, hb⟩
      rw [he, clueErr, clueB, hwi, hsb]; rfl
end Go.Proofs.YthegmomjfbcabaaDoor
