/-
  WORDS FOR MEMORY: a slice of integers that is read; boxes of the call's own.
-/
import Derived.Test.YtadbkoioipjgmaaDoorLeaf
import Derived.Test.YtadbkoioipjgmaaDoorPlain
namespace Go.Proofs.YtadbkoioipjgmaaDoor
open Go.RowKit
theorem block_of_add (a : Addr) (n : Nat) : (a.add n).block = a.block := by unfold Addr.add; split <;> rfl
theorem add_of_add (a : Addr) (i j : Nat) : (a.add i).add j = a.add (i + j) := by
  unfold Addr.add
  by_cases hi : i = 0 <;> by_cases hj : j = 0 <;> simp [hi, hj, Nat.add_assoc]
/-- the cells of xs lie at A, below block B -/
def IntsR (w : World) (B : Nat) (A : Option Addr) (xs : List Int) : Prop :=
  0 < xs.length → ∃ ad, A = some ad ∧ ad.block < B ∧ ∀ j, j < xs.length → w.cell? (ad.add j) = some (.int .i64 (nth xs j))
theorem IntsR.at_ {w : World} {B : Nat} {A : Option Addr} {xs : List Int} (h : IntsR w B A xs) {k : Nat} (hk : k < xs.length) : ∃ ad, A = some ad ∧ ad.block < B ∧ w.cell? (ad.add k) = some (.int .i64 (nth xs k)) := by
  obtain ⟨ad, e, hb, hc⟩ := h (by omega)
  exact ⟨ad, e, hb, hc k hk⟩
theorem IntsR.below {w w' : World} {B B' : Nat} {A : Option Addr} {xs : List Int} (h : IntsR w B A xs) (hb : Below B' w w') (hB : B ≤ B') : IntsR w' B A xs := fun h0 => by
  obtain ⟨ad, e, hl, hc⟩ := h h0
  exact ⟨ad, e, hl, fun j hj => (hb.cell (by rw [block_of_add]; omega)).trans (hc j hj)⟩
theorem IntsR.more {w : World} {B B' : Nat} {A : Option Addr} {xs : List Int} (h : IntsR w B A xs) (hB : B ≤ B') : IntsR w B' A xs := fun h0 => by
  obtain ⟨ad, e, hl, hc⟩ := h h0
  exact ⟨ad, e, by omega, hc⟩
theorem IntsR.nil {w : World} {B : Nat} {A : Option Addr} : IntsR w B A [] := fun h => absurd h (by simp)
theorem alloc_cell (w : World) (cs : Array Value) (t : TypeId) (i : Nat) : (w.alloc (.cells cs t)).cell? ⟨w.heap.size, i, none⟩ = cs[i]? := by
  exact cell_of_row _ w.heap.size i cs t (0, 0) (heap_alloc_new w _)
/-- a cell of a box of the call's own, later -/
theorem box_later {w wr : World} {cs : Array Value} {t : TypeId} {B : Nat} (h : Below B (w.alloc (.cells cs t)) wr) (hB : w.heap.size < B) (i : Nat) : wr.cell? ⟨w.heap.size, i, none⟩ = cs[i]? :=
  (h.cell (p := ⟨w.heap.size, i, none⟩) hB).trans (alloc_cell w cs t i)
/-- whatever stood in w1 stands in w' as it was: what is held of the world in a region that draws its order -/
def KeptS (w1 w' : World) : Prop := Below w1.heap.size w1 w' ∧ (∀ b o, b < w1.heap.size → w'.cell? ⟨b, o, none⟩ = w1.cell? ⟨b, o, none⟩)
theorem keptS_of {w1 w' : World} (h : Below w1.heap.size w1 w') : KeptS w1 w' := ⟨h, fun b o hb => h.cell (p := ⟨b, o, none⟩) hb⟩
theorem keptS_drew (w1 : World) : KeptS w1 w1.drew := keptS_of (Below.refl _ _).drew
theorem keptS_call {w1 w' w2 : World} (h : KeptS w1 w') (hb : Below w'.heap.size w' w2) : KeptS w1 w2 := keptS_of (h.1.trans (hb.mono h.1.size))
theorem keptS_alloc {w1 w' : World} (h : KeptS w1 w') (o : Obj) : KeptS w1 (w'.alloc o) := keptS_of (h.1.alloc h.1.size o)
theorem keptS_set {w1 w' : World} (h : KeptS w1 w') {p : Addr} (hp : w1.heap.size ≤ p.block) (v : Value) : KeptS w1 (w'.setCell p v) := keptS_of (h.1.setCell hp v)
theorem beq_dec (a b : Int) : (a == b) = decide (a = b) := by by_cases h : a = b <;> simp [h]
def symsB (S : Int) (xs : List Int) : Bool := xs.all fun s => wi s 0 (wrap64 (S - 1))
def codeB (W S : Int) (xs : List Int) : Bool := symsB S xs && decide ((xs.length : Int) = W)
theorem all_take_snoc (p : Int → Bool) (xs : List Int) (k : Nat) (hk : k < xs.length) (h : (xs.take k).all p = true) (hp : p (nth xs k) = true) : (xs.take (k + 1)).all p = true := by
  rw [List.take_succ_eq_append_getElem hk, List.all_append, h]
  rw [nth_lt hk] at hp
  simpa using hp
theorem not_all (p : Int → Bool) (xs : List Int) (k : Nat) (hk : k < xs.length) (hp : p (nth xs k) = false) : xs.all p = false := by
  rw [nth_lt hk] at hp
  rw [List.all_eq_false]
  exact ⟨_, List.getElem_mem hk, by simpa using hp⟩

set_option maxHeartbeats 400000 in
theorem hasCode_any (W S : Int) (A : Option Addr) (c : Nat) (xs : List Int) (w : World) (hx : IntsR w w.heap.size A xs) (hl : xs.length ≤ maxLen) :
    Calls Tryd.prog 105 #[lockV W S, .slice A xs.length c] w fun e w' => e = .returned (.bool (codeB W S xs)) ∧ Below w.heap.size w w' := by
  unfold maxLen at hl
  go_enter Tryd.func105, Tryd.ntmps105
  go_wp2
  go_loopw [9] (fun i wr => ∃ k : Nat, k ≤ xs.length ∧ i = .int .i64 k ∧ (xs.take k).all (fun s => wi s 0 (wrap64 (S - 1))) = true ∧ Below (w.heap.size + 1) (w.alloc (.cells #[.int .i64 W, .int .i64 S] 78)) wr) (fun i _ => xs.length - (intOf i).toNat)
  case atStart => exact ⟨0, Nat.zero_le _, rfl, rfl, Below.refl _ _⟩
  case round =>
    obtain ⟨k, hk, rfl, hall, hB⟩ := hrel
    have c0 := box_later hB (by omega) 0
    have c1 := box_later hB (by omega) 1
    have hbw : Below w.heap.size w wr := ((Below.refl _ w).alloc (Nat.le_refl _) _).trans (hB.mono (by omega))
    have hx' := hx.below hbw (Nat.le_refl _)
    clear hx
    by_cases hlt : k < xs.length
    · obtain ⟨ad, rfl, hb, hc⟩ := hx'.at_ hlt
      have HA := Lib.hid hall
      clear hall
      cases hp : wi (nth xs k) 0 (wrap64 (S - 1))
      · have h2 : codeB W S xs = false := by rw [codeB, symsB, not_all (fun s => wi s 0 (wrap64 (S - 1))) xs k hlt hp]; rfl
        have H2 := Lib.hid h2
        clear h2
        go_wp2_with (go_at_call 125; refine (hasSymbol_any _ _ _ _).mono ?_; rintro e w' ⟨rfl, hb2⟩)
        go_ret
        exact ⟨ret_bool H2.out.symm, hbw.trans (hb2.mono (by have := hbw.size; omega))⟩
      · go_wp2_with (go_at_call 125; refine (hasSymbol_any _ _ _ _).mono ?_; rintro e w' ⟨rfl, hb2⟩)
        go_roundw
        case rel => exact ⟨k + 1, by omega, by go_num, all_take_snoc _ xs k hlt HA.out hp, hB.trans (hb2.mono (by have := hB.size; simp at this; omega))⟩
        case measure => simp [intOf]; omega
    · obtain rfl : k = xs.length := by omega
      rw [List.take_length] at hall
      have HA := Lib.hid hall
      clear hall
      go_wp2
      go_ret
      exact ⟨ret_bool (by rw [codeB, symsB, HA.out]; rw [Bool.true_and]; exact beq_dec _ _), hbw⟩
end Go.Proofs.YtadbkoioipjgmaaDoor
