/-
  PORTRAITS: sentences, what they say, how they lie in memory; contracts of Index, Contains, place, says, True.
-/
import Derived.Test.YtglkjiimmlobbaaPzWorks
import Derived.Test.YtglkjiimmlobbaaPzE
import Derived.Test.YtglkjiimmlobbaaPzRWgh
namespace Go.Proofs.Ytglkjiimmlobbaa
open Go.RowKit Go.Shelf
/-- a sentence -/
structure Por where
  kind : Int
  a : Int
  b : Int
  n : Int
  neg : Bool
instance : Inhabited Por := ⟨⟨0, 0, 0, 0, false⟩⟩
abbrev porV (p : Por) : Value := .agg #[I p.kind, I p.a, I p.b, I p.n, .bool p.neg]
def porC (p : Por) : Array Value := #[I p.kind, I p.a, I p.b, I p.n, .bool p.neg]
/-- where a portrait hangs, or -1 -/
def idxI : List Int → Int → Int
  | [], _ => -1
  | y :: r, x => if y = x then 0 else if idxI r x < 0 then -1 else idxI r x + 1
theorem idxI_lo (h : List Int) (x : Int) : -1 ≤ idxI h x ∧ idxI h x < h.length := by
  induction h with
  | nil => simp [idxI]
  | cons y r ih =>
    simp only [idxI, List.length_cons]
    split
    · constructor <;> omega
    · split <;> constructor <;> omega
theorem idxI_hit {h : List Int} {x : Int} {k : Nat} (hk : k < h.length) (he : nth h k = x) (hn : ∀ j, j < k → nth h j ≠ x) : idxI h x = k := by
  induction h generalizing k with
  | nil => simp at hk
  | cons y r ih =>
    cases k with
    | zero =>
      have : y = x := he
      simp [idxI, this]
    | succ k =>
      have h0 : y ≠ x := hn 0 (by omega)
      have h1 := ih (k := k) (by simpa using hk) he (fun j hj => hn (j + 1) (by omega))
      simp only [idxI]
      rw [if_neg h0, h1, if_neg (by omega)]
      omega
theorem idxI_miss {h : List Int} {x : Int} (hn : ∀ j, j < h.length → nth h j ≠ x) : idxI h x = -1 := by
  induction h with
  | nil => rfl
  | cons y r ih =>
    have h0 : y ≠ x := hn 0 (by simp)
    have h1 := ih (fun j hj => hn (j + 1) (by simpa using hj))
    simp only [idxI]
    rw [if_neg h0, h1, if_pos (by decide)]
theorem idxI_mem (h : List Int) (x : Int) : 0 ≤ idxI h x ↔ x ∈ h := by
  induction h with
  | nil => simp [idxI]
  | cons y r ih =>
    simp only [idxI, List.mem_cons]
    by_cases h0 : y = x
    · rw [if_pos h0]; simp [h0]
    · rw [if_neg h0]
      have h0' : ¬ x = y := fun e => h0 e.symm
      by_cases h1 : idxI r x < 0
      · rw [if_pos h1]
        constructor
        · intro h; omega
        · rintro (h | h)
          · exact absurd h h0'
          · have := ih.2 h; omega
      · rw [if_neg h1]
        constructor
        · intro _; exact .inr (ih.1 (by omega))
        · intro _; omega
theorem idxI_has (h : List Int) (x : Int) : decide (0 ≤ idxI h x) = h.contains x := by
  rw [Bool.eq_iff_iff, decide_eq_true_eq, idxI_mem, List.contains_iff_mem]
/-- what a sentence says, without regard to its Not -/
def sayB (p : Por) (h : List Int) : Bool :=
  if p.kind = 1 then decide (idxI h p.a = p.n) else if p.kind = 2 then decide (idxI h p.a < idxI h p.b)
  else if p.kind = 3 then decide (max (idxI h p.a) (idxI h p.b) - min (idxI h p.a) (idxI h p.b) - 1 = 0)
  else decide (p.n ≤ max (idxI h p.a) (idxI h p.b) - min (idxI h p.a) (idxI h p.b) - 1)
def twoB (n : Int) (p : Por) : Bool := wi p.a 0 (n - 1) && (wi p.b 0 (n - 1) && (p.a != p.b))
/-- a valid sentence -/
def porB (n : Int) (p : Por) : Bool :=
  if p.kind = 1 then wi p.a 0 (n - 1) && ((p.b == 0) && wi p.n 0 (n - 1))
  else if p.kind = 2 ∨ p.kind = 3 then twoB n p && (p.n == 0)
  else if p.kind = 4 then twoB n p && wi p.n 0 n
  else false
/-- sentences in memory -/
def PorR (w : World) (B : Nat) (A : Option Addr) (ps : List Por) : Prop :=
  0 < ps.length → ∃ g o : Nat, A = some ⟨g, o, none⟩ ∧ g < B ∧ ∀ j (h : j < ps.length), ∀ i v, (porC ps[j])[i]? = some v → w.cell? ⟨g, o + j * 5 + i, none⟩ = some v
theorem PorR.below {w w' : World} {B B' : Nat} {A : Option Addr} {cs : List Por} (h : PorR w B A cs) (hb : Below B' w w') (hB : B ≤ B') : PorR w' B A cs := fun h0 => by
  obtain ⟨g, o, e, hl, hc⟩ := h h0
  exact ⟨g, o, e, hl, fun j hj i v hv => (hb.cell (p := ⟨g, o + j * 5 + i, none⟩) (by show g < _; omega)).trans (hc j hj i v hv)⟩
theorem PorR.more {w : World} {B B' : Nat} {A : Option Addr} {cs : List Por} (h : PorR w B A cs) (hB : B ≤ B') : PorR w B' A cs := fun h0 => by
  obtain ⟨g, o, e, hl, hc⟩ := h h0
  exact ⟨g, o, e, by omega, hc⟩
theorem por_call {w1 W : World} {A : Option Addr} {cs : List Por} (h : Below w1.heap.size w1 W) (hx : PorR w1 w1.heap.size A cs) : PorR W W.heap.size A cs := (hx.below h (Nat.le_refl _)).more h.size
theorem PorR.at_ {w : World} {B : Nat} {A : Option Addr} {ps : List Por} (h : PorR w B A ps) {k : Nat} (hk : k < ps.length) : ∃ g o : Nat, A = some ⟨g, o, none⟩ ∧ g < B ∧ w.cell? ⟨g, o + k * 5, none⟩ = some (I ps[k].kind) ∧ w.cell? ⟨g, o + k * 5 + 1, none⟩ = some (I ps[k].a) ∧
    w.cell? ⟨g, o + k * 5 + 2, none⟩ = some (I ps[k].b) ∧ w.cell? ⟨g, o + k * 5 + 3, none⟩ = some (I ps[k].n) ∧ w.cell? ⟨g, o + k * 5 + 4, none⟩ = some (.bool ps[k].neg) := by
  obtain ⟨g, o, e, hl, hc⟩ := h (by omega)
  exact ⟨g, o, e, hl, hc k hk 0 _ rfl, hc k hk 1 _ rfl, hc k hk 2 _ rfl, hc k hk 3 _ rfl, hc k hk 4 _ rfl⟩

set_option maxHeartbeats 400000 in
theorem index_any (A : Option Addr) (c : Nat) (h : List Int) (x : Int) (w : World) (hx : IntsR w w.heap.size A h) (hl : h.length ≤ 1000) :
    Calls Try.prog 163 #[.slice A h.length c, I x] w fun e w' => e = .returned (I (idxI h x)) ∧ w' = w := by
  go_enter Try.func163, Try.ntmps163
  go_wp2_with fail
  go_loop [8] (fun i => ∃ k : Nat, k ≤ h.length ∧ i = .int .i64 k ∧ Hid (∀ j, j < k → nth h j ≠ x)) (fun i => h.length - (intOf i).toNat)
  case atStart => exact ⟨0, Nat.zero_le _, rfl, Lib.hid (fun j hj => by omega)⟩
  case round =>
    obtain ⟨k, hk, rfl, HA⟩ := hrel
    by_cases hlt : k < h.length
    · obtain ⟨ad, rfl, hb, hc⟩ := hx.at_ hlt
      by_cases he : nth h k = x
      · have HR := Lib.hid (idxI_hit hlt he HA.out)
        have g1 : (x == nth h k) = true := by simp [he]
        clear he
        go_wp2
        go_ret
        exact ⟨ret_int HR.out.symm, rfl⟩
      · have HN := Lib.hid (show ∀ j, j < k + 1 → nth h j ≠ x from fun j hj => by
          by_cases e : j = k
          · rw [e]; exact he
          · exact HA.out j (by omega))
        have g1 : (x == nth h k) = false := by simp; exact fun e => he e.symm
        clear he
        go_wp2
        go_round
        case rel => exact ⟨k + 1, by omega, by go_num, HN⟩
        case measure => simp [intOf]; omega
    · obtain rfl : k = h.length := by omega
      have HR := Lib.hid (idxI_miss HA.out)
      go_wp2
      go_ret
      exact ⟨ret_int HR.out.symm, rfl⟩
theorem contains_any (A : Option Addr) (c : Nat) (h : List Int) (x : Int) (w : World) (hx : IntsR w w.heap.size A h) (hl : h.length ≤ 1000) :
    Calls Try.prog 147 #[.slice A h.length c, I x] w fun e w' => e = .returned (.bool (h.contains x)) ∧ w' = w := by
  have HI := Lib.hid (idxI_has h x)
  go_enter Try.func147, Try.ntmps147
  go_wp2_with fail
  refine (index_any A c h x w hx hl).mono ?_
  rintro e w' ⟨rfl, hww⟩
  rw [hww]
  generalize idxI h x = i at *
  go_wp2
  go_ret
  exact ⟨ret_bool HI.out, rfl⟩
set_option maxHeartbeats 400000 in
theorem place_any (A : Option Addr) (c : Nat) (h : List Int) (x : Int) (w : World) (hx : IntsR w w.heap.size A h) (hl : h.length ≤ 1000) :
    Calls Try.prog 124 #[.slice A h.length c, I x] w fun e w' => e = .returned (I (idxI h x)) ∧ w' = w := by
  go_enter Try.func124, Try.ntmps124
  go_wp2_with fail
  go_loop [5] (fun i => ∃ k : Nat, k ≤ h.length ∧ i = .int .i64 k ∧ Hid (∀ j, j < k → nth h j ≠ x)) (fun i => h.length - (intOf i).toNat)
  case atStart => exact ⟨0, Nat.zero_le _, rfl, Lib.hid (fun j hj => by omega)⟩
  case round =>
    obtain ⟨k, hk, rfl, HA⟩ := hrel
    by_cases hlt : k < h.length
    · obtain ⟨ad, rfl, hb, hc⟩ := hx.at_ hlt
      by_cases he : nth h k = x
      · have HR := Lib.hid (idxI_hit hlt he HA.out)
        have g1 : (nth h k == x) = true := by simp [he]
        clear he
        go_wp2
        go_ret
        exact ⟨ret_int HR.out.symm, rfl⟩
      · have HN := Lib.hid (show ∀ j, j < k + 1 → nth h j ≠ x from fun j hj => by
          by_cases e : j = k
          · rw [e]; exact he
          · exact HA.out j (by omega))
        have g1 : (nth h k == x) = false := by simp; exact he
        clear he
        go_wp2
        go_round
        case rel => exact ⟨k + 1, by omega, by go_num, HN⟩
        case measure => simp [intOf]; omega
    · obtain rfl : k = h.length := by omega
      have HR := Lib.hid (idxI_miss HA.out)
      go_wp2
      go_ret
      exact ⟨ret_int HR.out.symm, rfl⟩
end Go.Proofs.Ytglkjiimmlobbaa
