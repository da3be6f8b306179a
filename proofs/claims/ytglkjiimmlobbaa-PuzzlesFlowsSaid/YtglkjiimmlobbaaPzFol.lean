/-
  CONTRACT: following: what comes behind a sequence, by differences.
-/
import Derived.Test.YtglkjiimmlobbaaPzConst
namespace Go.Proofs.Ytglkjiimmlobbaa
open Go.RowKit Go.Shelf
def folV (o : Option (Int × Nat)) : Value := match o with | some r => .tuple #[I r.1, I r.2, .bool true] | none => .tuple #[I 0, I 0, .bool false]
theorem lastD_nth {l : List Int} {n : Nat} (h : l.length = n + 1) : l.getLastD 0 = nth l n := by
  have hne : l ≠ [] := by intro e; subst e; simp at h
  rw [List.getLastD_eq_getLast?, List.getLast?_eq_getElem?, h, nth]
  rfl
theorem nxt_short {f : Nat} {l : List Int} (h : l.length < 2) : nxt f l = none := by
  cases f with
  | zero => rfl
  | succ f => rw [nxt, if_pos h]
theorem Bnd.diffs {b : Nat} {l : List Int} (h : Bnd b l) : Bnd (2 * b) (diffs l) := by
  intro i hi
  have hi' := hi
  rw [diffs_length] at hi'
  have a := h i (by omega)
  have c := h (i + 1) (by omega)
  rw [nth_lt hi, diffs_at l i (by omega)]
  rw [nth_lt (by omega)] at a c
  omega
theorem pow_step {b n M : Nat} (h : b * 2 ^ (n + 1) ≤ M) : 2 * b * 2 ^ n ≤ M := by
  rw [Nat.pow_succ] at h
  rw [Nat.mul_comm 2 b, Nat.mul_assoc]
  rwa [Nat.mul_comm (2 ^ n) 2] at h
theorem pow_most {b n M : Nat} (h : b * 2 ^ n ≤ M) : b ≤ M := Nat.le_trans (Nat.le_mul_of_pos_right b (Nat.pow_pos (by omega))) h
/-- where the sequence stands: what follows it is what has been added and what follows the list at hand -/
def Fol (l l' : List Int) (acc : Int) (j : Nat) : Prop := nxt l.length l = (nxt l'.length l').map (fun r => (acc + r.1, r.2 + j))
theorem Fol.step {l l' : List Int} {acc : Int} {j n : Nat} (h : Fol l l' acc j) (hn : l'.length = n + 2) (hq : allEq l' = false) : Fol l (diffs l') (acc + nth l' (n + 1)) (j + 1) := by
  have hd : (diffs l').length = n + 1 := by rw [diffs_length, hn]; rfl
  rw [Fol] at h ⊢
  rw [h, hd]
  have e : nxt l'.length l' = (nxt (n + 1) (diffs l')).map (fun r => (nth l' (n + 1) + r.1, r.2 + 1)) := by
    rw [hn, nxt, if_neg (by omega), hq, lastD_nth hn]
    rfl
  rw [e, Option.map_map]
  congr 1
  funext r
  simp only [Function.comp]
  rw [Int.add_assoc, Nat.add_assoc, Nat.add_comm 1 j]
theorem Fol.stop {l l' : List Int} {acc : Int} {j n : Nat} (h : Fol l l' acc j) (hn : l'.length = n + 2) (hq : allEq l' = true) : nxt l.length l = some (acc + nth l' (n + 1), j) := by
  rw [Fol] at h
  have e : nxt l'.length l' = some (nth l' (n + 1), 0) := by rw [hn, nxt, if_neg (by omega), hq, lastD_nth hn]; rfl
  rw [h, e]
  simp
theorem Fol.none {l l' : List Int} {acc : Int} {j : Nat} (h : Fol l l' acc j) (hn : l'.length < 2) : nxt l.length l = none := by
  rw [Fol, nxt_short hn] at h
  exact h

theorem isConstant_at {l : List Int} {n : Nat} (hn : l.length = n) (A : Option Addr) (c : Nat) (w : World) (hx : IntsR w w.heap.size A l) (h1 : 1 ≤ l.length) (hl : l.length ≤ 64) :
    Calls Try.prog 132 #[.slice A n c] w fun e w' => e = .returned (.bool (allEq l)) ∧ Below w.heap.size w w' := by
  subst hn; exact isConstant_any A c l w hx h1 hl
theorem differences_at {l : List Int} {n : Nat} (hn : l.length = n) (A : Option Addr) (c b : Nat) (w : World) (hx : IntsR w w.heap.size A l) (h1 : 1 ≤ l.length) (hl : l.length ≤ 64) (hb : b ≤ 1000000000000000) (hB : Bnd b l) :
    Calls Try.prog 131 #[.slice A n c] w fun e w' => ∃ A' c', e = .returned (.slice A' (diffs l).length c') ∧ IntsR w' w'.heap.size A' (diffs l) ∧ Below w.heap.size w w' := by
  subst hn; exact differences_any A c l b w hx h1 hl hb hB

set_option maxRecDepth 100000 in
set_option maxHeartbeats 1000000 in
theorem following_any (A : Option Addr) (c : Nat) (l : List Int) (w : World) (hx : IntsR w w.heap.size A l) (hl : l.length ≤ 20) (hB : Bnd 10000 l) :
    Calls Try.prog 79 #[.slice A l.length c] w fun e w' => e = .returned (folV (nxt l.length l)) ∧ Below w.heap.size w w' := by
  have hP : 10000 * 2 ^ l.length ≤ 10000000000000 := by
    have : 2 ^ l.length ≤ 2 ^ 20 := Nat.pow_le_pow_right (by omega) hl
    omega
  have HB := Lib.hid hB
  have HX := Lib.hid hx
  have HP := Lib.hid hP
  clear hB hx hP
  go_enter Try.func79, Try.ntmps79
  go_wp2_with fail
  go_loopw [0, 2, 3] (fun s n d wr => ∃ (l' : List Int) (A' : Option Addr) (c' j b : Nat) (acc : Int), s = .slice A' l'.length c' ∧ n = .int .i64 acc ∧ d = .int .i64 j ∧ j + l'.length = l.length ∧ Hid (Fol l l' acc j) ∧ Hid (IntsR wr wr.heap.size A' l') ∧ Hid (Bnd b l') ∧ -(b : Int) ≤ acc ∧ acc ≤ b ∧ Hid (b * 2 ^ l'.length ≤ 10000000000000) ∧ Below w.heap.size w wr) (fun _ _ d _ => 64 - (intOf d).toNat)
  case atStart => exact ⟨l, A, c, 0, 10000, 0, rfl, rfl, rfl, by omega, Lib.hid (by rw [Fol]; simp), HX, HB, by omega, by omega, HP, Below.refl _ _⟩
  case round =>
    obtain ⟨l', A', c', j, b, acc, rfl, rfl, rfl, hj, HF, HX', HB', ha1, ha2, HQ, hBl⟩ := hrel
    have hbM := pow_most HQ.out
    clear HX HB HP
    rcases Nat.lt_or_ge l'.length 2 with h2 | h2
    · have H0 := Lib.hid (HF.out.none h2)
      go_wp2_with fail
      go_ret3
      exact ⟨by rw [H0.out]; rfl, hBl⟩
    · obtain ⟨n, hn⟩ : ∃ n, l'.length = n + 2 := ⟨l'.length - 2, by omega⟩
      obtain ⟨ad, rfl, hbl, hc⟩ := HX'.out.at_ (k := n + 1) (by omega)
      have hbd := HB'.out (n + 1) (by omega)
      have hb1 := hbd.1
      have hb2 := hbd.2
      have HN := Lib.hid hn
      clear hbd
      generalize hxv : nth l' (n + 1) = x at *
      have HV := Lib.hid hxv
      have ead : ad.add (n + 1) = ⟨ad.block, ad.off + (n + 1), none⟩ := by simp [Addr.add]
      rw [ead] at hc
      clear ead hxv
      rw [hn] at hj ⊢
      have ex : IntKind.i64.wrap (acc + x) = acc + x := (IntWalk.i64_left _).trans (IntWalk.wrap64_in _ ⟨by omega, by omega⟩)
      have en : IntKind.i64.wrap ((n : Int) + 2 - 1) = (n : Int) + 1 := by rw [show (n : Int) + 2 - 1 = (n : Int) + 1 by omega]; exact (IntWalk.i64_left _).trans (IntWalk.wrap64_in _ ⟨by omega, by omega⟩)
      go_wp2_with fail
      refine (isConstant_at hn (some ad) c' _ HX'.out (by omega) (by omega)).mono ?_
      rintro e w2 ⟨rfl, hb3⟩
      have hx2 := ints_call hb3 HX'.out
      have HX2 := Lib.hid hx2
      have hB2 : Below w.heap.size w w2 := hBl.trans (hb3.mono hBl.size)
      clear hc hbl hBl hb3 hx2 HX'
      cases hq : allEq l'
      · have HF2 := Lib.hid (HF.out.step hn hq)
        go_wp2_with fail
        refine (differences_at hn (some ad) c' b _ HX2.out (by omega) (by omega) (by omega) HB'.out).mono ?_
        rintro e w3 ⟨A3, c3, rfl, hx3, hb4⟩
        have hdl : (diffs l').length = n + 1 := by rw [diffs_length, hn]; rfl
        have hB3 : Below w.heap.size w w3 := hB2.trans (hb4.mono hB2.size)
        go_wp2_with fail
        go_roundw
        case rel => exact ⟨diffs l', A3, c3, j + 1, 2 * b, acc + x, by rw [hdl], rfl, by go_num, by omega, Lib.hid (by rw [← HV.out]; exact HF2.out), Lib.hid hx3, Lib.hid HB'.out.diffs, by omega, by omega, Lib.hid (by rw [hdl]; exact pow_step (by rw [← hn]; exact HQ.out)), hB3⟩
        case measure => simp [intOf]; omega
      · have H0 := Lib.hid (HF.out.stop hn hq)
        go_wp2_with fail
        go_ret3
        exact ⟨by rw [H0.out, HV.out]; rfl, hB2⟩
end Go.Proofs.Ytglkjiimmlobbaa
