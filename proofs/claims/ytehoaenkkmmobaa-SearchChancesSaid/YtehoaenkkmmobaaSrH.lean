/-
  LAYER 6: the list of links that is remembered; append to it.
-/
import Derived.Test.YtehoaenkkmmobaaSrG
namespace Go.Proofs.Ytehoaenkkmmobaa
open Go.RowKit Go.Shelf
def lc (d : Array Lk) (x : Nat) : Value := if x % 2 = 0 then I d[x / 2]!.1 else I d[x / 2]!.2
theorem LC.at_ {F : Nat → Value} {off : Nat} {d : Array Lk} (h : LC F off d) {x : Nat} (hx : x < d.size * 2) : F (off + x) = lc d x := by
  obtain ⟨h0, h1⟩ := h (x / 2) (by omega)
  unfold lc
  by_cases e : x % 2 = 0
  · rw [if_pos e, ← h0]; congr 1; omega
  · rw [if_neg e, ← h1]; congr 1; omega
theorem LC.of {F : Nat → Value} {off : Nat} {d : Array Lk} (h : ∀ x, x < d.size * 2 → F (off + x) = lc d x) : LC F off d := fun j hj => by
  have h0 := h (j * 2) (by omega)
  have h1 := h (j * 2 + 1) (by omega)
  refine ⟨h0.trans ?_, h1.trans ?_⟩
  · rw [lc, if_pos (by omega), show j * 2 / 2 = j by omega]
  · rw [lc, if_neg (by omega), show (j * 2 + 1) / 2 = j by omega]
/-- a list of links of the call's own, at any offset of its row -/
def LRow (w : World) (base : Nat) (v : Value) (zs : List Lk) : Prop :=
  (v = .slice none 0 0 ∧ zs = []) ∨ ∃ g off c n F, v = .slice (some ⟨g, off, none⟩) zs.length c ∧ c ≤ maxLen ∧ base ≤ g ∧ RowAt w g 71 F n ∧ off + c * 2 ≤ n ∧ zs.length ≤ c ∧ LC F off zs.toArray
theorem LRow.kept {w w' : World} {base : Nat} {v : Value} {zs : List Lk} {row : Option Nat} (h : LRow w base v zs) (hg : w.grownBy w' row) (hne : v.ownBlock = none ∨ v.ownBlock ≠ row) : LRow w' base v zs := by
  rcases h with h | ⟨g, off, c, n, F, rfl, h1, h2, h3, h4⟩
  · exact .inl h
  · refine .inr ⟨g, off, c, n, F, rfl, h1, h2, h3.kept hg ?_, h4⟩
    rcases hne with e | e
    · simp [Value.ownBlock] at e
    · simpa [Value.ownBlock] using e
theorem LRow.call {w w' : World} {base : Nat} {v : Value} {zs : List Lk} (h : LRow w base v zs) (hb : Below w.heap.size w w') : LRow w' base v zs := by
  rcases h with h | ⟨g, off, c, n, F, rfl, h1, h2, h3, h4⟩
  · exact .inl h
  · exact .inr ⟨g, off, c, n, F, rfl, h1, h2, h3.below hb h3.lt, h4⟩
theorem LRow.lt {w : World} {base : Nat} {v : Value} {zs : List Lk} (h : LRow w base v zs) : ∀ k, v.ownBlock = some k → base ≤ k ∧ k < w.heap.size := by
  rcases h with ⟨rfl, -⟩ | ⟨g, off, c, n, F, rfl, h1, h2, h3, h4⟩
  · intro k hk; simp [Value.ownBlock] at hk
  · intro k hk
    simp [Value.ownBlock] at hk
    subst hk
    exact ⟨h2, h3.lt⟩
theorem info_lk3 : (Try.prog.info? 71).map (fun i => (i.zero, i.size, i.bytes)) = some (some zeroL, 2, 16) := by kernel_rfl
theorem lk_append {w : World} {base : Nat} {zs : List Lk} {l : Lk} {g : Nat} {cap : Nat} {cells : Array Value} (hb : base ≤ g) (hcap : cap ≤ maxLen) (hge : zs.length + 1 ≤ cap) (hh : w.heap[g]? = some (.cells cells 71 (0, 0))) (hs : cap * 2 ≤ cells.size)
    (hc : ∀ x, x < (zs.length + 1) * 2 → cells[x]? = some (lc (zs ++ [l]).toArray x)) : LRow w base (.slice (some ⟨g, 0, none⟩) (zs.length + 1) cap) (zs ++ [l]) := by
  refine .inr ⟨g, 0, cap, cells.size, fun x => cells.getD x undef, by simp, hcap, hb, ?_, by omega, by simpa using hge, LC.of fun x hx => ?_⟩
  · rw [RowAt, hh]
    congr 2
    apply Array.ext_getElem?
    intro i
    rw [rowF_get]
    by_cases h : i < cells.size
    · rw [if_pos h]; simp [Array.getD, h]
    · rw [if_neg h, Array.getElem?_eq_none (by omega)]
  · have hx' : x < (zs.length + 1) * 2 := by simpa using hx
    have := hc x hx'
    rw [Nat.zero_add]
    simp [Array.getD_eq_getD_getElem?, this]
theorem lc_old {zs : List Lk} {l : Lk} {x : Nat} (h : x < zs.length * 2) : lc (zs ++ [l]).toArray x = lc zs.toArray x := by
  have e : (zs ++ [l]).toArray[x / 2]! = zs.toArray[x / 2]! := by
    have h2 : x / 2 < zs.length := by omega
    rw [getElem!_pos _ _ (by simp; omega), getElem!_pos _ _ (by simpa using h2)]
    simp [List.getElem_append_left h2]
  rw [lc, lc, e]
theorem lc_new0 {zs : List Lk} {l : Lk} : lc (zs ++ [l]).toArray (zs.length * 2) = I l.1 := by
  have e : (zs ++ [l]).toArray[zs.length * 2 / 2]! = l := by
    rw [show zs.length * 2 / 2 = zs.length by omega, getElem!_pos _ _ (by simp)]
    simp
  rw [lc, e, if_pos (by omega)]
theorem lc_new1 {zs : List Lk} {l : Lk} : lc (zs ++ [l]).toArray (zs.length * 2 + 1) = I l.2 := by
  have e : (zs ++ [l]).toArray[(zs.length * 2 + 1) / 2]! = l := by
    rw [show (zs.length * 2 + 1) / 2 = zs.length by omega, getElem!_pos _ _ (by simp)]
    simp
  rw [lc, e, if_neg (by omega)]
set_option maxRecDepth 100000 in
/-- one more link behind it -/
theorem run_append_lk {w : World} {base : Nat} {v : Value} {zs : List Lk} (h : LRow w base v zs) (ty : TypeId) (blk : Nat) (c' : Nat) (l : Lk) (hx0 : w.cell? ⟨blk, 0, none⟩ = some (I l.1)) (hx1 : w.cell? ⟨blk, 1, none⟩ = some (I l.2)) (hl : zs.length ≤ 1000000) (hbase : base ≤ w.heap.size) :
    ∃ v' w', (Builtin.append_ #[101, 101] ty #[v, .slice (some ⟨blk, 0, none⟩) 1 c']).run Try.prog w = .ok v' w' ∧ LRow w' base v' (zs ++ [l]) ∧ w.grownBy w' v.ownBlock ∧ (v'.ownBlock = v.ownBlock ∨ v'.ownBlock = some w.heap.size) := by
  obtain ⟨i0, hi, hz0, hz1, hz2⟩ := info_parts info_lk3
  have hnews : ∀ (j : Nat) (u : Value), ([I l.1, I l.2] : List Value)[j]? = some u → w.cell? ((⟨blk, 0, none⟩ : Addr).add j) = some u := by
    intro j u hj
    rw [Addr.add_mid, Nat.zero_add]
    match j with
    | 0 => rw [hx0]; simpa using hj
    | 1 => rw [hx1]; simpa using hj
    | j + 2 => simp at hj
  rcases h with ⟨rfl, rfl⟩ | ⟨g, off, c, n, F, rfl, h1, h2, h3, h4, h5, h6⟩
  · have hr := run_append_nil (P := Try.prog) w 101 ty 71 i0 zeroL Try.underlying101 hi hz0 ⟨blk, 0, none⟩ 1 c' [I l.1, I l.2] (by rw [hz1]; rfl) hnews (by omega) (by omega) (by rw [hz2]; omega)
    have hge := grownCap_ge w 1 0 71
    have hcm : grownCap w 1 0 71 ≤ maxLen := grownCap_le_maxLen w 1 0 71 (by unfold maxLen; omega)
    refine ⟨_, _, hr, lk_append (zs := []) hbase hcm hge (heap_alloc_new w.drew _) (by simp [size_zeroCells, Value.cells]; omega) (fun x hx => ?_), ⟨rfl, rfl, rfl, by simp, fun k hk _ => heap_alloc_old w.drew _ hk⟩, .inr rfl⟩
    have hx' : x = 0 ∨ x = 1 := by simp at hx; omega
    rcases hx' with rfl | rfl
    · rw [show lc (([] : List Lk) ++ [l]).toArray 0 = I l.1 from lc_new0 (zs := []), Array.getElem?_append_left (by simp)]
      rfl
    · rw [show lc (([] : List Lk) ++ [l]).toArray 1 = I l.2 from lc_new1 (zs := []), Array.getElem?_append_left (by simp)]
      rfl
  · by_cases hroom : zs.length + 1 ≤ c
    · have hf := run_firstCells_some (P := Try.prog) w i0.size 1 ⟨blk, 0, none⟩ 1 c' [I l.1, I l.2] (by rw [hz1]; rfl) hnews
      have hst := run_storeCells_at Try.prog g (off + zs.length * 2) 71 [I l.1, I l.2] 0 (rowF F n) w h3 (by rw [rowF_size]; simp; omega) (by simp [Value.oneCell'])
      simp only [Nat.add_zero] at hst
      have hset : ((rowF F n).toList.take (off + zs.length * 2) ++ [I l.1, I l.2] ++ (rowF F n).toList.drop (off + zs.length * 2 + [I l.1, I l.2].length)).toArray = rowF (set2 F (off + zs.length * 2) l) n := by
        have hcl : (rowF F n).toList.length = n := by simp [rowF]
        apply Array.ext_getElem?
        intro i
        rw [rowF_get, List.getElem?_toArray, List.append_assoc]
        by_cases a1 : i < off + zs.length * 2
        · have hs2 : set2 F (off + zs.length * 2) l i = F i := by rw [set2, if_neg (by omega), if_neg (by omega)]
          rw [List.getElem?_append_left (by rw [List.length_take, hcl]; omega), List.getElem?_take_of_lt a1, Array.getElem?_toList, rowF_get, hs2]
        · rw [List.getElem?_append_right (by rw [List.length_take, hcl]; omega), List.length_take, hcl, Nat.min_eq_left (by omega)]
          by_cases a2 : i = off + zs.length * 2
          · subst a2
            rw [Nat.sub_self, if_pos (by omega), set2, if_neg (by omega), if_pos rfl]
            rfl
          · by_cases a3 : i = off + zs.length * 2 + 1
            · subst a3
              rw [show off + zs.length * 2 + 1 - (off + zs.length * 2) = 1 by omega, if_pos (by omega), set2, if_pos rfl]
              rfl
            · have hs2 : set2 F (off + zs.length * 2) l i = F i := by rw [set2, if_neg a3, if_neg a2]
              rw [List.getElem?_append_right (by simp; omega), List.getElem?_drop, Array.getElem?_toList, rowF_get, hs2]
              rw [show off + zs.length * 2 + [I ↑l.fst, I ↑l.snd].length + (i - (off + zs.length * 2) - [I ↑l.fst, I ↑l.snd].length) = i by simp; omega]
      rw [hset] at hst
      refine ⟨.slice (some ⟨g, off, none⟩) (zs.length + 1) c, w.setRow g (rowF (set2 F (off + zs.length * 2) l) n), ?_, .inr ⟨g, off, c, n, set2 F (off + zs.length * 2) l, by simp, h1, h2, setRow_heap w g (rowF F n) _ 71 _ h3, h4, by simpa using hroom, LC.of fun x hx => ?_⟩, ⟨rfl, rfl, rfl, by simp [World.setRow], fun k _ hk => setRow_other w g k _ (fun e => hk (by simp [Value.ownBlock, e]))⟩, .inl rfl⟩
      · rw [hz1] at hf
        simp [Builtin.append_, run_underlying Try.underlying101, sizeOf, typeInfo, hi, Builtin.lenOf, hroom, hf, hz1, Addr.add_mid, hst]
      · have hx' : x < (zs.length + 1) * 2 := by simpa using hx
        by_cases a1 : x < zs.length * 2
        · rw [lc_old a1, set2, if_neg (by omega), if_neg (by omega)]
          exact h6.at_ (by simpa using a1)
        · by_cases a2 : x = zs.length * 2
          · subst a2
            rw [lc_new0, set2, if_neg (by omega), if_pos rfl]
          · obtain rfl : x = zs.length * 2 + 1 := by omega
            rw [lc_new1, set2, if_pos (by omega)]
    · have holds : ∀ (j : Nat) (u : Value), ((List.range (zs.length * 2)).map (lc zs.toArray))[j]? = some u → w.cell? ((⟨g, off, none⟩ : Addr).add j) = some u := by
        intro j u hj
        obtain ⟨h7, e⟩ := List.getElem?_eq_some_iff.1 hj
        have h7' : j < zs.length * 2 := by simpa using h7
        rw [Addr.add_mid, h3.at_ (by omega), h6.at_ (by simpa using h7'), ← e]
        simp
      have hr := run_append_grow (P := Try.prog) w 101 ty 71 i0 zeroL Try.underlying101 hi hz0 ⟨g, off, none⟩ zs.length c ((List.range (zs.length * 2)).map (lc zs.toArray)) (by rw [hz1]; simp) holds ⟨blk, 0, none⟩ 1 c' [I l.1, I l.2] (by rw [hz1]; rfl) hnews (by omega) (by omega) (growslice_fits (by omega) (by rw [hz2]; omega))
      have hge := grownCap_ge w (zs.length + 1) c 71
      have hcm : grownCap w (zs.length + 1) c 71 ≤ maxLen := grownCap_le_maxLen w (zs.length + 1) c 71 (by unfold maxLen; omega)
      refine ⟨_, _, hr, lk_append hbase hcm hge (heap_alloc_new w.drew _) (by simp [size_zeroCells, Value.cells]; omega) (fun x hx => ?_), ⟨rfl, rfl, rfl, by simp, fun k hk _ => heap_alloc_old w.drew _ hk⟩, .inr rfl⟩
      rw [Array.getElem?_append_left (by simp; omega)]
      by_cases a1 : x < zs.length * 2
      · rw [lc_old a1, Array.getElem?_append_left (by simpa using a1)]
        simp [a1]
      · by_cases a2 : x = zs.length * 2
        · subst a2
          rw [lc_new0, Array.getElem?_append_right (by simp)]
          simp
        · obtain rfl : x = zs.length * 2 + 1 := by omega
          rw [lc_new1, Array.getElem?_append_right (by simp)]
          simp
end Go.Proofs.Ytehoaenkkmmobaa
