/-
  CONTRACTS of the document's own answers: padlockref03.follow.
-/
import Derived.Test.YteeppkhlnejfkaaPzRDif
namespace Go.Proofs.Yteeppkhlnejfkaa
open Go.RowKit Go.Shelf
/-- what follows a list whose differences stand still at a degree -/
def fol : Nat → List Int → Int
  | 0, l => l.getLastD 0
  | d + 1, l => l.getLastD 0 + fol d (diffs l)
theorem fol_bound : ∀ (d : Nat) (l : List Int) (b : Nat), d + 1 ≤ l.length → Bnd b l → -((b * 2 ^ (d + 1) : Nat) : Int) + b ≤ fol d l ∧ fol d l + b ≤ ((b * 2 ^ (d + 1) : Nat) : Int) := by
  intro d
  induction d with
  | zero =>
    intro l b h hB
    have a := hB (l.length - 1) (by omega)
    rw [fol, lastD_nth (n := l.length - 1) (by omega)]
    rw [show b * 2 ^ (0 + 1) = 2 * b by rw [Nat.pow_succ, Nat.pow_zero]; omega]
    omega
  | succ d ih =>
    intro l b h hB
    have a := hB (l.length - 1) (by omega)
    have e := ih (diffs l) (2 * b) (by rw [diffs_length]; omega) hB.diffs
    rw [fol, lastD_nth (n := l.length - 1) (by omega)]
    rw [show b * 2 ^ (d + 1 + 1) = 2 * b * 2 ^ (d + 1) by rw [Nat.pow_succ 2 (d + 1), Nat.mul_comm 2 b, Nat.mul_assoc, Nat.mul_comm 2]]
    omega

theorem rdifferences_at {l : List Int} {n : Nat} (hn : l.length = n) (A : Option Addr) (c b : Nat) (w : World) (hx : IntsR w w.heap.size A l) (h1 : 1 ≤ l.length) (hl : l.length ≤ 64) (hb : b ≤ 1000000000000000) (hB : Bnd b l) :
    Calls Try.prog 82 #[.slice A n c] w fun e w' => ∃ A' c', e = .returned (.slice A' (diffs l).length c') ∧ IntsR w' w'.heap.size A' (diffs l) ∧ Below w.heap.size w w' := by
  subst hn; exact rdifferences_any A c l b w hx h1 hl hb hB

set_option maxRecDepth 100000 in
set_option maxHeartbeats 1000000 in
theorem rfollow_any : ∀ (d : Nat) (A : Option Addr) (c : Nat) (l : List Int) (b : Nat) (w : World), IntsR w w.heap.size A l → d + 1 ≤ l.length → l.length ≤ 64 → b * 2 ^ (d + 1) ≤ 10000000000000 → Bnd b l →
    Calls Try.prog 81 #[.slice A l.length c, I (d : Nat)] w fun e w' => e = .returned (I (fol d l)) ∧ Below w.heap.size w w' := by
  intro d
  induction d with
  | zero =>
    intro A c l b w hx h1 hl hb hB
    obtain ⟨n, hn⟩ : ∃ n, l.length = n + 1 := ⟨l.length - 1, by omega⟩
    obtain ⟨ad, rfl, hbl, hc⟩ := hx.at_ (k := n) (by omega)
    have HV := Lib.hid (show fol 0 l = nth l n from lastD_nth hn)
    rw [hn]
    have en : IntKind.i64.wrap ((n : Int) + 1 - 1) = (n : Int) := by rw [show (n : Int) + 1 - 1 = (n : Int) by omega]; exact (IntWalk.i64_left _).trans (IntWalk.wrap64_in _ ⟨by omega, by omega⟩)
    go_enter Try.func81, Try.ntmps81
    go_wp2_with fail
    go_ret
    exact ⟨ret_int HV.out.symm, Below.refl _ _⟩
  | succ d ih =>
    intro A c l b w hx h1 hl hb hB
    obtain ⟨n, hn⟩ : ∃ n, l.length = n + 1 := ⟨l.length - 1, by omega⟩
    have hbM := pow_most hb
    have hb2 : 2 * b * 2 ^ (d + 1) ≤ 10000000000000 := pow_step hb
    have hf := fol_bound d (diffs l) (2 * b) (by rw [diffs_length]; omega) hB.diffs
    have a := hB n (by omega)
    obtain ⟨ad, rfl, hbl, hc⟩ := hx.at_ (k := n) (by omega)
    have HV := Lib.hid (show fol (d + 1) l = nth l n + fol d (diffs l) by rw [fol, lastD_nth hn])
    have HN := Lib.hid hn
    have hd : d + 1 ≤ (diffs l).length := by rw [diffs_length]; omega
    have hd2 : (diffs l).length ≤ 64 := by rw [diffs_length]; omega
    have en : IntKind.i64.wrap ((n : Int) + 1 - 1) = (n : Int) := by rw [show (n : Int) + 1 - 1 = (n : Int) by omega]; exact (IntWalk.i64_left _).trans (IntWalk.wrap64_in _ ⟨by omega, by omega⟩)
    have ed : IntKind.i64.wrap ((d : Int) + 1 - 1) = (d : Int) := by rw [show (d : Int) + 1 - 1 = (d : Int) by omega]; exact (IntWalk.i64_left _).trans (IntWalk.wrap64_in _ ⟨by omega, by omega⟩)
    have ef : IntKind.i64.wrap (nth l n + fol d (diffs l)) = nth l n + fol d (diffs l) := (IntWalk.i64_left _).trans (IntWalk.wrap64_in _ ⟨by omega, by omega⟩)
    have HD := rdifferences_at hn (some ad) c b w hx (by omega) hl (by omega) hB
    clear hf a
    rw [hn]
    go_enter Try.func81, Try.ntmps81
    go_wp2_with (first
      | (go_at_call 82; refine HD.mono ?_; rintro e w2 ⟨A2, c2, rfl, hx2, hb3⟩)
      | (go_at_call 81; refine (ih A2 c2 (diffs l) (2 * b) _ hx2 hd hd2 hb2 hB.diffs).mono ?_; rintro e w3 ⟨rfl, hb4⟩))
    go_ret
    exact ⟨ret_int HV.out.symm, hb3.trans (hb4.mono hb3.size)⟩
end Go.Proofs.Yteeppkhlnejfkaa
