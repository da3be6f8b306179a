/-
  LAYER 6: maps by links; the player in memory; CONTRACT: untried.
-/
import Derived.Maps.Keyed
import Derived.DeepKeys4
import Derived.Test.YtehoaenkkmmobaaSrD
namespace Go.Proofs.Ytehoaenkkmmobaa
open Go.RowKit Go.Shelf
open Go.ChangeShapes Go.WideShapes Go.ChangeAt Go.WideMaps Go.WideElems
theorem lk_row : (71 : TypeId) < Try.prog.types.size := of_decide_eq_true (by kernel_rfl)
theorem lk_wide : (match Try.prog.underlying 71 with | some (.array _ _) | some (.struct _) => true | _ => false) = true := by rw [Try.underlying71]
theorem lk_cells : Try.prog.cellsOf 71 = 2 := by kernel_rfl
theorem int_cells : Try.prog.cellsOf 3 = 1 := by kernel_rfl
theorem lk_laid : laidOutB Try.prog = true := by kernel_rfl
theorem lk_rec : Try.prog.keyTypeAt 2 71 = true := by kernel_rfl
set_option maxRecDepth 100000 in
theorem lk_keyed : Go.Maps.Keyed Try.prog 71 := Go.Maps.Keyed.of_law (deep_law_laid lk_laid (m := 2) (by omega) lk_row lk_rec lk_wide)
theorem lk_isKey : Try.prog.keyType 71 = true := by kernel_rfl
set_option maxRecDepth 100000 in
theorem keyAtL (p e : Nat) (hp : p ≤ 1000) (he : e ≤ 1000) : keyOf Try.prog 71 (lkV (p, e)) = some (.string (keyBytes [.int .i64 p, .int .i64 e])) := by
  have h1 : (Lit.int .i64 (p : Int)).wf = true := WalkArith.wf_i64 (by omega)
  have h2 : (Lit.int .i64 (e : Int)).wf = true := WalkArith.wf_i64 (by omega)
  have hf : (lkV (p, e)).formed Try.prog 71 = true := by simp [Value.formed, Try.underlying71, lk_cells]
  obtain ⟨n, hn⟩ : ∃ n, Try.prog.types.size = n + 1 := ⟨Try.prog.types.size - 1, (Nat.succ_pred_eq_of_pos (Nat.lt_of_le_of_lt (Nat.zero_le _) lk_row)).symm⟩
  have hl : Try.prog.keyLits (Try.prog.types.size + 1) 71 (lkV (p, e)).cells.toList = some [.int .i64 p, .int .i64 e] := by
    rw [hn]
    simp [Program.keyLits, Try.underlying71, Try.underlying3, lk_cells, int_cells, Value.cells, h1, h2]
  simp only [keyOf, Try.underlying71, lk_isKey, hf, hl]
  rfl
theorem zeroB (w : World) : (zeroValue 4).run Try.prog w = .ok (.bool false) w := by kernel_rfl
/-- the links that are remembered, as a map -/
def LnkR (w : World) (B n : Nat) (mem : List Lk) : Prop := ∃ f, MapG w 71 (.bool false) B n f ∧ ∀ p e : Nat, f (lkV (p, e)) = if mem.contains (p, e) then some (.bool true) else none
theorem LnkR.kept {w w' : World} {B n : Nat} {mem : List Lk} {row : Option Nat} (h : LnkR w B n mem) (hg : w.grownBy w' row) (hne : some B ≠ row) : LnkR w' B n mem := by
  obtain ⟨f, h1, h2⟩ := h
  exact ⟨f, h1.kept hg hne, h2⟩
theorem LnkR.lt {w : World} {B n : Nat} {mem : List Lk} (h : LnkR w B n mem) : B < w.heap.size := by
  obtain ⟨f, h1, h2⟩ := h
  exact h1.lt
theorem LnkR.below {w w' : World} {B n M : Nat} {mem : List Lk} (h : LnkR w B n mem) (hb : Below M w w') (hM : B < M) : LnkR w' B n mem := by
  obtain ⟨f, h1, h2⟩ := h
  exact ⟨f, h1.below hb hM, h2⟩
theorem untr_some {E : Nat → List Nat} {t p i : Nat} {mem : List Lk} (hi : i < (E p).length) (h : ∀ j, j < i → mem.contains (p, (t + j) % (E p).length) = true) (hn : mem.contains (p, (t + i) % (E p).length) = false) : untr E t mem p = some ((t + i) % (E p).length) := by
  have : (List.range (E p).length).find? (fun i => !(mem.contains (p, (t + i) % (E p).length))) = some i := by
    rw [List.find?_range_eq_some]
    refine ⟨by simp only [hn]; rfl, List.mem_range.2 hi, fun j hj => by simp only [h j hj]; rfl⟩
  rw [untr, ord, List.find?_map]
  show ((List.range (E p).length).find? (fun i => !(mem.contains (p, (t + i) % (E p).length)))).map _ = _
  rw [this]
  rfl
theorem untr_none {E : Nat → List Nat} {t p : Nat} {mem : List Lk} (h : ∀ j, j < (E p).length → mem.contains (p, (t + j) % (E p).length) = true) : untr E t mem p = none := by
  have : (List.range (E p).length).find? (fun i => !(mem.contains (p, (t + i) % (E p).length))) = none := by
    rw [List.find?_range_eq_none]
    exact fun j hj => by simp only [h j hj]; rfl
  rw [untr, ord, List.find?_map]
  show ((List.range (E p).length).find? (fun i => !(mem.contains (p, (t + i) % (E p).length)))).map _ = _
  rw [this]
  rfl
/-- a player, as it lies in memory -/
def plC (vP : Value) (AE AD : Option Addr) (nE cE nD cD : Nat) (mo tu : Int) (at_ : Nat) (vL : Value) (B : Nat) (vB : Value) (lost : Bool) (vT : Value) : Array Value := #[vP, .slice AE nE cE, .slice AD nD cD, I mo, I tu, I at_, vL, .map (some B), vB, .bool lost, vT]
set_option maxRecDepth 100000 in
set_option maxHeartbeats 2000000 in
theorem untried_any (P : Nat) (vP : Value) (AE AD : Option Addr) (cE cD : Nat) (mo : Int) (tu at_ : Nat) (vL vB vT : Value) (lost : Bool) (B n : Nat) (G : List (List Ed)) (D : List Int) (mem : List Lk) (p : Nat) (w : World)
    (hP : w.heap[P]? = some (.cells (plC vP AE AD G.length cE D.length cD mo tu at_ vL B vB lost vT) 105 (0, 0))) (hm : MdR w AE AD G D) (hv : Vld G D) (hl : LnkR w B n mem) (hp : p < G.length) (ht : tu ≤ 99) :
    Calls Try.prog 102 #[.pointer (some ⟨P, 0, none⟩), I p] w fun e w' => e = .returned (.tuple #[I ((untr (eOf G) tu mem p).getD 0), .bool (untr (eOf G) tu mem p).isSome]) ∧ w' = w := by
  have b1 : w.cell? ⟨P, 1, none⟩ = some (.slice AE G.length cE) := cell_of_row w _ 1 _ _ _ hP
  have b4 : w.cell? ⟨P, 4, none⟩ = some (I tu) := cell_of_row w _ 4 _ _ _ hP
  have b7 : w.cell? ⟨P, 7, none⟩ = some (.map (some B)) := cell_of_row w _ 7 _ _ _ hP
  obtain ⟨g, o, rfl, hgl, Ap, cp, hcA, -⟩ := hm.g.at_ hp
  have hel := eOf_len hp
  have hfew := hv.few p hp
  have hmx := hv.many
  have HEL := Lib.hid hel
  obtain ⟨N, hN⟩ : ∃ N, N = G[p].length := ⟨_, rfl⟩
  rw [← hN] at hcA hfew HEL
  obtain ⟨f, hf1, hf2⟩ := hl
  have HF := Lib.hid hf2
  clear hel hN hP hm hv hf2
  go_enter Try.func102, Try.ntmps102
  go_wp2_with fail
  go_loopw [20] (fun i wr => ∃ k : Nat, k ≤ N ∧ i = .int .i64 k ∧ wr = w ∧ ∀ j, j < k → mem.contains (p, (tu + j) % N) = true) (fun i _ => N - (intOf i).toNat)
  case atStart => exact ⟨0, Nat.zero_le _, rfl, rfl, fun j hj => absurd hj (Nat.not_lt_zero _)⟩
  case round =>
    obtain ⟨k, hk, rfl, rfl, hS⟩ := hrel
    have HS := Lib.hid hS
    clear hS
    by_cases hlt : k < N
    · have hrem : ((tu : Int) + k).tmod N = (((tu + k) % N : Nat) : Int) := by
        rw [← Int.natCast_add]
        exact Int.ofNat_tmod _ _
      obtain ⟨e, he⟩ : ∃ e, e = (tu + k) % N := ⟨_, rfl⟩
      have heN : e < N := by rw [he]; exact Nat.mod_lt _ (by omega)
      rw [← he] at hrem
      have hky := keyAtL p e (by omega) (by omega)
      have hfy := HF.out p e
      have HE := Lib.hid he
      clear he
      cases hc : mem.contains (p, e) with
      | true =>
        rw [hc] at hfy
        have hr : (f (lkV (p, e))).getD (.bool false) = .bool true := by rw [hfy]; rfl
        have HC := Lib.hid hc
        clear hfy hc
        go_wp2_with (at_lookup; refine wpList_g_at rfl _ _ 100 rfl 71 4 lk_keyed Try.underlying100 (zeroB _) rfl hf1 (lkV (p, e)) rfl hky (.bool true) hr ?_)
        go_roundw
        case rel => exact ⟨k + 1, by omega, by go_num, by simp, fun j hj => by
          rcases Nat.lt_or_ge j k with h | h
          · exact HS.out j h
          · obtain rfl : j = k := by omega
            rw [← HE.out]; exact HC.out⟩
        case measure => simp [intOf]; omega
      | false =>
        rw [hc] at hfy
        have hr : (f (lkV (p, e))).getD (.bool false) = .bool false := by rw [hfy]; rfl
        have HU := Lib.hid (untr_some (E := eOf G) (t := tu) (p := p) (i := k) (mem := mem) (by rw [HEL.out]; exact hlt) (by rw [HEL.out]; exact HS.out) (by rw [HEL.out, ← HE.out]; exact hc))
        clear hfy hc
        go_wp2_with (at_lookup; refine wpList_g_at rfl _ _ 100 rfl 71 4 lk_keyed Try.underlying100 (zeroB _) rfl hf1 (lkV (p, e)) rfl hky (.bool false) hr ?_)
        go_ret2
        rw [HU.out, HEL.out, ← HE.out]
        exact ⟨rfl, rfl⟩
    · obtain rfl : k = N := by omega
      have HU := Lib.hid (untr_none (E := eOf G) (t := tu) (p := p) (mem := mem) (by rw [HEL.out]; exact HS.out))
      go_wp2_with fail
      go_ret2
      rw [HU.out]
      exact ⟨rfl, rfl⟩
end Go.Proofs.Ytehoaenkkmmobaa
