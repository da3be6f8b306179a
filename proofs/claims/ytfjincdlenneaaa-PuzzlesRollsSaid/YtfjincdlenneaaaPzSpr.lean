/-
  CONTRACT: spread.
-/
import Derived.Test.YtfjincdlenneaaaPzWatPure
namespace Go.Proofs.Ytfjincdlenneaaa
open Go.RowKit Go.Shelf
theorem nxO_lt {W H c s y : Nat} (hc : c < W * H) (h : nxO W H c s = some y) : y < W * H := by
  have hq : c / W < H := Nat.div_lt_of_lt_mul hc
  have hm := Nat.div_add_mod c W
  have h1 : W * (c / W + 1) ≤ W * H := Nat.mul_le_mul_left W hq
  rw [Nat.mul_succ] at h1
  simp only [nxO] at h
  split at h
  · split at h
    · injection h with h; omega
    · cases h
  · split at h
    · split at h
      · injection h with h; omega
      · cases h
    · split at h
      · split at h
        · rename_i h5
          have h2 : W * (c / W + 1 + 1) ≤ W * H := Nat.mul_le_mul_left W h5
          rw [Nat.mul_succ, Nat.mul_succ] at h2
          have h6 : c % W < W := Nat.mod_lt _ (by rcases Nat.eq_zero_or_pos W with e | e; · rw [e, Nat.zero_mul] at hc; omega
                                                  · exact e)
          injection h with h; omega
        · cases h
      · split at h
        · injection h with h; omega
        · cases h
/-- all blocks but one stay -/
structure KB (b : Nat) (A B : World) : Prop where
  os : B.os = A.os
  tape : B.tape = A.tape
  output : B.output = A.output
  size : A.heap.size ≤ B.heap.size
  block : ∀ k, k < A.heap.size → k ≠ b → B.heap[k]? = A.heap[k]?
theorem KB.refl (b : Nat) (A : World) : KB b A A := ⟨rfl, rfl, rfl, Nat.le_refl _, fun _ _ _ => rfl⟩
theorem KB.trans {b : Nat} {X Y Z : World} (h : KB b X Y) (k : KB b Y Z) : KB b X Z :=
  ⟨k.os.trans h.os, k.tape.trans h.tape, k.output.trans h.output, Nat.le_trans h.size k.size, fun i h1 h2 => (k.block i (Nat.lt_of_lt_of_le h1 h.size) h2).trans (h.block i h1 h2)⟩
theorem KB.of_below {b : Nat} {X Y : World} (h : Below X.heap.size X Y) : KB b X Y := ⟨h.os, h.tape, h.output, h.size, fun i h1 _ => h.block i h1⟩
theorem KB.setCell {b i : Nat} (X : World) (u : Value) : KB b X (X.setCell ⟨b, i, none⟩ u) :=
  ⟨rfl, rfl, rfl, by simp [World.setCell], fun k _ h2 => by simp [World.setCell, Array.getElem?_modify, Ne.symm h2]⟩
theorem KB.below {b B : Nat} {X Y : World} (h : KB b X Y) (hb : B ≤ b) (hX : B ≤ X.heap.size) : Below B X Y := ⟨h.os, h.tape, h.output, h.size, fun i h1 => h.block i (by omega) (by omega)⟩
def fcells (S : Nat → Bool) (k : Nat) : Array Value := #[.bool (S 0), .bool (S 1), .bool (S 2), .bool (S 3), .bool (S 4), .bool (S 5), .bool (S 6), .bool (S 7), .bool (S 8), I k]
def ocells (op : Nat → Nat) : Array Value := #[I (op 0), I (op 1), I (op 2), I (op 3), I (op 4), I (op 5), I (op 6), I (op 7), I (op 8)]
theorem fcells_at (S : Nat → Bool) (k c : Nat) (hc : c < 9) : (fcells S k)[c]? = some (.bool (S c)) := by
  match c, hc with
  | 0, _ => rfl
  | 1, _ => rfl
  | 2, _ => rfl
  | 3, _ => rfl
  | 4, _ => rfl
  | 5, _ => rfl
  | 6, _ => rfl
  | 7, _ => rfl
  | 8, _ => rfl
theorem ocells_at (op : Nat → Nat) (c : Nat) (hc : c < 9) : (ocells op)[c]? = some (I (op c)) := by
  match c, hc with
  | 0, _ => rfl
  | 1, _ => rfl
  | 2, _ => rfl
  | 3, _ => rfl
  | 4, _ => rfl
  | 5, _ => rfl
  | 6, _ => rfl
  | 7, _ => rfl
  | 8, _ => rfl
theorem fcells_wet (S : Nat → Bool) (k c : Nat) (hc : c < 9) : (fcells S k).setIfInBounds c (.bool true) = fcells (upd S c) k := by
  match c, hc with
  | 0, _ => rfl
  | 1, _ => rfl
  | 2, _ => rfl
  | 3, _ => rfl
  | 4, _ => rfl
  | 5, _ => rfl
  | 6, _ => rfl
  | 7, _ => rfl
  | 8, _ => rfl
theorem fcells_leak (S : Nat → Bool) (k m : Nat) : (fcells S k).setIfInBounds 9 (I m) = fcells S m := rfl
def FlowAt (w : World) (g : Nat) (S : Nat → Bool) (k : Nat) : Prop := w.heap[g]? = some (.cells (fcells S k) 108 (0, 0))
def OpenAt (w : World) (o : Nat) (op : Nat → Nat) : Prop := w.heap[o]? = some (.cells (ocells op) 138 (0, 0))
abbrev pipesV (W H : Nat) (fr tt : Int) (A : Option Addr) (n cap : Nat) : Value := .agg #[I W, I H, I fr, I tt, .slice A n cap]
theorem FlowAt.wet {w : World} {g : Nat} {S : Nat → Bool} {k : Nat} (h : FlowAt w g S k) {c : Nat} (hc : c < 9) : w.cell? ⟨g, c, none⟩ = some (.bool (S c)) ∧ w.frozen? ⟨g, c, none⟩ = false :=
  ⟨(cell_of_row w g c _ _ _ h).trans (fcells_at S k c hc), frozen_of_row h c⟩
theorem FlowAt.leaks {w : World} {g : Nat} {S : Nat → Bool} {k : Nat} (h : FlowAt w g S k) : w.cell? ⟨g, 9, none⟩ = some (I k) ∧ w.frozen? ⟨g, 9, none⟩ = false :=
  ⟨(cell_of_row w g 9 _ _ _ h).trans rfl, frozen_of_row h 9⟩
theorem OpenAt.at_ {w : World} {o : Nat} {op : Nat → Nat} (h : OpenAt w o op) {c : Nat} (hc : c < 9) : w.cell? ⟨o, c, none⟩ = some (I (op c)) :=
  (cell_of_row w o c _ _ _ h).trans (ocells_at op c hc)

theorem spread_stay (W H : Nat) (op : Nat → Nat) (fr tt : Int) (A : Option Addr) (n cap : Nat) (S : Nat → Bool) (k c : Nat) (w : World) (g o : Nat) (hc : c < 9) (hg : g < w.heap.size) (hF : FlowAt w g S k) (hS : S c = true) :
    Calls Try.prog 136 #[pipesV W H fr tt A n cap, .pointer (some ⟨g, 0, none⟩), .pointer (some ⟨o, 0, none⟩), I c] w fun e w' => e = .returned (.tuple #[]) ∧ ∃ T m, FlowAt w' g T m ∧ Spr W H op S k c T m ∧ KB g w w' := by
  obtain ⟨w1, hw1, hs1, y0, hb1⟩ := one_box w (.cells #[I W, I H, I fr, I tt, .slice A n cap] 103)
  have hF1 : FlowAt w1 g S k := (hb1.block _ hg).trans hF
  have c1 := (hF1.wet hc).1
  rw [hS] at c1
  go_enter Try.func136, Try.ntmps136
  go_upto_region 1 with fail
  rw [← hw1]
  clear hw1 y0 hs1
  go_wp2
  refine bodyPost_ret (results_none rfl _ _ _) rfl ?_
  exact ⟨rfl, S, k, hF1, Spr.stay hS, KB.of_below hb1⟩

set_option maxRecDepth 100000 in
set_option maxHeartbeats 4000000 in
theorem spread_any (W H : Nat) (op : Nat → Nat) (fr tt : Int) (A : Option Addr) (n cap : Nat) (hW : 1 ≤ W) (hW9 : W ≤ 9) (hH : H ≤ 9) (hN : W * H ≤ 9) (hop : ∀ i, op i ≤ 15) :
    ∀ (d : Nat) (S : Nat → Bool) (k c : Nat) (w : World) (g o : Nat), dryN S ≤ d → c < W * H → k + 4 * dryN S ≤ 1000 → g < w.heap.size → o < w.heap.size → o ≠ g → FlowAt w g S k → OpenAt w o op →
    Calls Try.prog 136 #[pipesV W H fr tt A n cap, .pointer (some ⟨g, 0, none⟩), .pointer (some ⟨o, 0, none⟩), I c] w fun e w' => e = .returned (.tuple #[]) ∧ ∃ T m, FlowAt w' g T m ∧ Spr W H op S k c T m ∧ KB g w w' := by
  intro d
  induction d with
  | zero =>
    intro S k c w g o hd hc hk hg ho hne hF hO
    have hc9 : c < 9 := by omega
    cases hS : S c
    · have := dry_upd hc9 hS
      omega
    · exact spread_stay W H op fr tt A n cap S k c w g o hc9 hg hF hS
  | succ d ih =>
    intro S k c w g o hd hc hk hg ho hne hF hO
    have hc9 : c < 9 := by omega
    cases hS : S c
    · obtain ⟨w1, hw1, hs1, y0, hb1⟩ := one_box w (.cells #[I W, I H, I fr, I tt, .slice A n cap] 103)
      have hF1 : FlowAt w1 g S k := (hb1.block _ hg).trans hF
      have hO1 : OpenAt w1 o op := (hb1.block _ ho).trans hO
      have c1 := (hF1.wet hc9).1
      have c2 := (hF1.wet hc9).2
      rw [hS] at c1
      have HS := Lib.hid hS
      go_enter Try.func136, Try.ntmps136
      go_upto_region 1 with fail
      rw [← hw1]
      clear hw1 hS
      go_upto_region 3 with fail
      have hF2 : FlowAt (w1.setCell ⟨g, c, none⟩ (.bool true)) g (upd S c) k := by
        have h := row_set hF1 c (.bool true)
        rw [fcells_wet S k c hc9] at h
        exact h
      have hk2 : KB g w (w1.setCell ⟨g, c, none⟩ (.bool true)) := (KB.of_below hb1).trans (KB.setCell _ _)
      have hk3 : KB g w1 (w1.setCell ⟨g, c, none⟩ (.bool true)) := KB.setCell _ _
      have HP := Lib.hid (SprS.start (W := W) (H := H) (op := op) (k := k) hc9 HS.out)
      obtain ⟨w2, hw2⟩ : ∃ w2, w2 = w1.setCell ⟨g, c, none⟩ (.bool true) := ⟨_, rfl⟩
      rw [← hw2] at hF2 hk2 hk3
      rw [← hw2]
      have hO2 : OpenAt w2 o op := (hk3.block o (by omega) hne).trans hO1
      have hy2 : w2.heap[w.heap.size]? = _ := (hk3.block w.heap.size (by omega) (by omega)).trans y0
      have hs2 : w.heap.size < w2.heap.size := by have := hk3.size; omega
      clear hw2 hF1 hO1 c1 c2 y0 hb1 hk3 hs1
      go_wp2_with fail
      go_loopw [8, 22] (fun _ i wr => ∃ t : Nat, ∃ (T : Nat → Bool) (m : Nat), t ≤ 4 ∧ i = .int .i64 t ∧ FlowAt wr g T m ∧ Hid (SprS W H op S k c t T m) ∧ KB g w wr ∧ KB g w2 wr) (fun _ i _ => 4 - (intOf i).toNat)
      case atStart => exact ⟨0, _, _, Nat.zero_le _, rfl, hF2, HP, hk2, KB.refl _ _⟩
      case round =>
        obtain ⟨t, T, m, ht, rfl, hF3, HR, hK3, hK4⟩ := hrel
        have hO3 : OpenAt wr o op := (hK3.block o ho hne).trans hO
        have hy3 := (hK4.block w.heap.size hs2 (by omega)).trans hy2
        have b0 : wr.cell? ⟨w.heap.size, 0, none⟩ = some (I W) := cell_of_row wr _ 0 _ _ _ hy3
        have b1 : wr.cell? ⟨w.heap.size, 1, none⟩ = some (I H) := cell_of_row wr _ 1 _ _ _ hy3
        have b2 : wr.cell? ⟨w.heap.size, 2, none⟩ = some (I fr) := cell_of_row wr _ 2 _ _ _ hy3
        have b3 : wr.cell? ⟨w.heap.size, 3, none⟩ = some (I tt) := cell_of_row wr _ 3 _ _ _ hy3
        by_cases hlt : t < 4
        · have hoc := hO3.at_ hc9
          have hp15 := hop c
          have HB := Lib.hid (HR.out.room)
          cases hbit : (op c).testBit t
          · have HN := Lib.hid (HR.out.skip (by omega) hbit)
            go_wp2_with (go_at_call 157; refine (isOpen_any (op c) t _ hp15 (by omega)).mono ?_; rintro e w' ⟨rfl, hww⟩; rw [hww, hbit]; clear hww)
            go_roundw
            case rel => exact ⟨t + 1, T, m, by omega, by go_num, hF3, HN, hK3, hK4⟩
            case measure => simp [intOf]; omega
          · have hcb := hbit
            clear hbit
            go_wp2_with (go_at_call 157; refine (isOpen_any (op c) t _ hp15 (by omega)).mono ?_; rintro e w' ⟨rfl, hww⟩; rw [hww, hcb]; clear hww)
            have hng := next_any W H c t fr tt
            obtain ⟨X, hX⟩ : ∃ X, X = nxO W H c t := ⟨_, rfl⟩
            rw [← hX] at hng
            refine (hng wr hW hW9 hH (by omega) (by omega)).mono ?_
            rintro e w4 ⟨v, rfl, hv, hb4⟩
            have hF4 : FlowAt w4 g T m := (hb4.block _ (by have := hK3.size; omega)).trans hF3
            have hO4 : OpenAt w4 o op := (hb4.block _ (by have := hK3.size; omega)).trans hO3
            have hy4 := (hb4.block w.heap.size (by have := hK3.size; have := hK4.size; omega)).trans hy3
            have hK5 : KB g w w4 := hK3.trans (KB.of_below hb4)
            have hK6 : KB g w2 w4 := hK4.trans (KB.of_below hb4)
            have hsz4 : w.heap.size < w4.heap.size := by have := hK6.size; omega
            have l1 := hF4.leaks.1
            have l2 := hF4.leaks.2
            clear hb4 hng hy3 hO3 hF3 hK3 hK4 b0 b1 b2 b3
            cases X with
            | none =>
              have HN := Lib.hid (HR.out.leak (by omega) hcb (by rw [adjO, hcb, ← hX]; rfl))
              have hm1 : (m : Int) ≤ 1000 := by have := HB.out; omega
              clear hcb hX hv
              go_wp2_with fail
              go_quiet (fail)
              have hF5 : FlowAt (w4.drewN nq) g T m := hF4
              have l3 : (w4.drewN nq).cell? ⟨g, 9, none⟩ = some (I m) := l1
              have l4 : (w4.drewN nq).frozen? ⟨g, 9, none⟩ = false := l2
              have HF5 := Lib.hid hF5
              clear hF5 l1 l2
              go_wp2
              go_roundw
              case rel =>
                refine ⟨t + 1, T, m + 1, by omega, by go_num, ?_, HN, (hK5.trans (KB.of_below (below_drewN (Below.refl _ _) nq))).trans (KB.setCell _ _), (hK6.trans (KB.of_below (below_drewN (Below.refl _ _) nq))).trans (KB.setCell _ _)⟩
                exact row_set HF5.out 9 (I (m + 1 : Nat))
              case measure => simp [intOf]; omega
            | some y =>
              have hy9 : y < W * H := nxO_lt hc hX.symm
              have hvy : v = (y : Nat) := hv y rfl
              subst hvy
              have hoy := hO4.at_ (c := y) (by omega)
              have hpy := hop y
              clear hv
              cases hb2 : (op y).testBit ((t + 2) % 4)
              · have HN := Lib.hid (HR.out.leak (by omega) hcb (by rw [adjO, hcb, ← hX]; simp only [hb2]; rfl))
                have hm1 : (m : Int) ≤ 1000 := by have := HB.out; omega
                clear hcb hX
                go_wp2_with fail
                go_quiet ((first
                  | (go_at_call 158; exact Calls.quiet_of_same (opposite_any t _ (by omega)))
                  | (go_at_call 157; exact Calls.quiet_of_same (isOpen_any (op y) ((t + 2) % 4) _ hpy (by omega)))))
                have hF5 : FlowAt (w4.drewN nq) g T m := hF4
                have l3 : (w4.drewN nq).cell? ⟨g, 9, none⟩ = some (I m) := l1
                have l4 : (w4.drewN nq).frozen? ⟨g, 9, none⟩ = false := l2
                have HF5 := Lib.hid hF5
                clear hF5 l1 l2
                go_wp2
                go_roundw
                case rel =>
                  refine ⟨t + 1, T, m + 1, by omega, by go_num, ?_, HN, (hK5.trans (KB.of_below (below_drewN (Below.refl _ _) nq))).trans (KB.setCell _ _), (hK6.trans (KB.of_below (below_drewN (Below.refl _ _) nq))).trans (KB.setCell _ _)⟩
                  exact row_set HF5.out 9 (I (m + 1 : Nat))
                case measure => simp [intOf]; omega
              · have hadj : adjO W H op c t = some y := by rw [adjO, hcb, ← hX]; simp only [hb2]; rfl
                have HADJ := Lib.hid hadj
                have hdl : dryN T ≤ d := by
                  have h1 := dry_upd hc9 HS.out
                  have h2 := dry_mono (S := upd S c) (T := T) (fun x hx => by
                    by_cases e : x = c
                    · rw [e]; exact HR.out.here
                    · rw [upd_other e] at hx; exact HR.out.mono x hx)
                  omega
                have hroom : m + 4 * dryN T ≤ 1000 := by have := HB.out; omega
                have hcall := fun nq => ih T m y (w4.drewN nq) g o hdl hy9 hroom (by have := hK5.size; show g < w4.heap.size; omega) (by have := hK5.size; show o < w4.heap.size; omega) hne hF4 hO4
                clear hcb hX hadj l1 l2
                go_wp2_with fail
                go_quiet ((first
                  | (go_at_call 158; exact Calls.quiet_of_same (opposite_any t _ (by omega)))
                  | (go_at_call 157; exact Calls.quiet_of_same (isOpen_any (op y) ((t + 2) % 4) _ hpy (by omega)))))
                have d0 : (w4.drewN nq).cell? ⟨w.heap.size, 0, none⟩ = some (I W) := cell_of_row w4 _ 0 _ _ _ hy4
                have d1 : (w4.drewN nq).cell? ⟨w.heap.size, 1, none⟩ = some (I H) := cell_of_row w4 _ 1 _ _ _ hy4
                have d2 : (w4.drewN nq).cell? ⟨w.heap.size, 2, none⟩ = some (I fr) := cell_of_row w4 _ 2 _ _ _ hy4
                have d3 : (w4.drewN nq).cell? ⟨w.heap.size, 3, none⟩ = some (I tt) := cell_of_row w4 _ 3 _ _ _ hy4
                have d4 : (w4.drewN nq).cell? ⟨w.heap.size, 4, none⟩ = some (.slice A n cap) := cell_of_row w4 _ 4 _ _ _ hy4
                go_wp2_with fail
                refine (hcall nq).mono ?_
                rintro e w6 ⟨rfl, U, q, hF6, hS6, hK7⟩
                have HN := Lib.hid (HR.out.flow (by omega) HADJ.out hS6)
                have hK8 := (hK5.trans (KB.of_below (below_drewN (Below.refl _ _) nq))).trans hK7
                have hK9 := (hK6.trans (KB.of_below (below_drewN (Below.refl _ _) nq))).trans hK7
                clear d0 d1 d2 d3 d4 hcall hS6
                go_wp2
                go_roundw
                case rel => exact ⟨t + 1, U, q, by omega, by go_num, hF6, HN, hK8, hK9⟩
                case measure => simp [intOf]; omega
        · obtain rfl : t = 4 := by omega
          go_wp2
          refine bodyPost_end (results_none rfl _ _ _) rfl ?_
          exact ⟨rfl, T, m, hF3, HR.out.done, hK3⟩
    · exact spread_stay W H op fr tt A n cap S k c w g o hc9 hg hF hS
end Go.Proofs.Ytfjincdlenneaaa
