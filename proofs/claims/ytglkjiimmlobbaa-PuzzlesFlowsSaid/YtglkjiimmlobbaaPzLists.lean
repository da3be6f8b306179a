/-
  WHAT IS GENERIC of lists in memory: slices of slices, rows that are owned.
-/
import Derived.Test.YtglkjiimmlobbaaPzLoop
import Derived.WalkKit
import Derived.Deep.OwnRows
namespace Go.Proofs.Ytglkjiimmlobbaa
open Go.RowKit Go.Shelf
def fstErr : List Int → Int
  | [] => 0
  | e :: r => if e = 0 then fstErr r else e
theorem fstErr_drop (es : List Int) (k : Nat) (hk : k < es.length) : fstErr (es.drop k) = if nth es k = 0 then fstErr (es.drop (k + 1)) else nth es k := by
  rw [List.drop_eq_getElem_cons hk, fstErr, nth_lt hk]

set_option maxHeartbeats 400000 in
theorem first_any (A : Option Addr) (c : Nat) (es : List Int) (w : World) (hx : IntsR w w.heap.size A es) (hl : es.length ≤ maxLen) :
    Calls Try.prog 62 #[.slice A es.length c] w fun e w' => e = .returned (.int .i64 (fstErr es)) ∧ w = w' := by
  unfold maxLen at hl
  go_enter Try.func62, Try.ntmps62
  go_wp2
  go_loop [7] (fun i => ∃ k : Nat, k ≤ es.length ∧ i = .int .i64 k ∧ Hid (fstErr es = fstErr (es.drop k))) (fun i => es.length - (intOf i).toNat)
  case atStart => exact ⟨0, Nat.zero_le _, rfl, Lib.hid rfl⟩
  case round =>
    obtain ⟨k, hk, rfl, hall⟩ := hrel
    by_cases hlt : k < es.length
    · obtain ⟨ad, rfl, hb, hc⟩ := hx.at_ hlt
      have hd := Lib.hid (fstErr_drop es k hlt)
      by_cases he : nth es k = 0
      · have hb0 : (nth es k != 0) = false := by simp [he]
        have HE := Lib.hid he
        clear he
        go_wp2
        go_round
        case rel => exact ⟨k + 1, by omega, by go_num, Lib.hid (by rw [hall.out, hd.out, if_pos HE.out])⟩
        case measure => simp [intOf]; omega
      · have hb0 : (nth es k != 0) = true := by simpa using he
        have HE := Lib.hid he
        clear he
        go_wp2
        go_ret
        exact ⟨ret_int (by rw [hall.out, hd.out, if_neg HE.out]), rfl⟩
    · obtain rfl : k = es.length := by omega
      go_wp2
      go_ret
      exact ⟨ret_int (by rw [hall.out, List.drop_length]; rfl), rfl⟩
/-- a slice of slices of integers -/
def SlsR (w : World) (B : Nat) (A : Option Addr) (xss : List (List Int)) : Prop :=
  0 < xss.length → ∃ ad, A = some ad ∧ ad.block < B ∧ ∀ j (h : j < xss.length), ∃ A' c', w.cell? (ad.add j) = some (.slice A' (xss[j]).length c') ∧ IntsR w B A' xss[j] ∧ (xss[j]).length ≤ maxLen
theorem SlsR.below {w w' : World} {B B' : Nat} {A : Option Addr} {xss : List (List Int)} (h : SlsR w B A xss) (hb : Below B' w w') (hB : B ≤ B') : SlsR w' B A xss := fun h0 => by
  obtain ⟨ad, e, hl, hc⟩ := h h0
  refine ⟨ad, e, hl, fun j hj => ?_⟩
  obtain ⟨A', c', h1, h2, h3⟩ := hc j hj
  exact ⟨A', c', (hb.cell (by rw [block_of_add]; omega)).trans h1, h2.below hb hB, h3⟩
theorem SlsR.more {w : World} {B B' : Nat} {A : Option Addr} {xss : List (List Int)} (h : SlsR w B A xss) (hB : B ≤ B') : SlsR w B' A xss := fun h0 => by
  obtain ⟨ad, e, hl, hc⟩ := h h0
  refine ⟨ad, e, by omega, fun j hj => ?_⟩
  obtain ⟨A', c', h1, h2, h3⟩ := hc j hj
  exact ⟨A', c', h1, h2.more hB, h3⟩
theorem kept_ints {w1 W : World} {A : Option Addr} {x : List Int} (h : KeptS w1 W) (hx : IntsR w1 w1.heap.size A x) : IntsR W W.heap.size A x := (hx.below h.1 (Nat.le_refl _)).more h.1.size
theorem ints_call {w1 W : World} {A : Option Addr} {x : List Int} (h : Below w1.heap.size w1 W) (hx : IntsR w1 w1.heap.size A x) : IntsR W W.heap.size A x := (hx.below h (Nat.le_refl _)).more h.size
theorem sls_call {w1 W : World} {A : Option Addr} {x : List (List Int)} (h : Below w1.heap.size w1 W) (hx : SlsR w1 w1.heap.size A x) : SlsR W W.heap.size A x := (hx.below h (Nat.le_refl _)).more h.size
/-- integers in a new block -/
theorem ints_new (w : World) (xs : List Int) (t : TypeId) : IntsR (w.alloc (.cells (xs.map I).toArray t)) (w.alloc (.cells (xs.map I).toArray t)).heap.size (some ⟨w.heap.size, 0, none⟩) xs := fun _ => by
  refine ⟨_, rfl, by simp, fun j hj => ?_⟩
  have : (⟨w.heap.size, 0, none⟩ : Addr).add j = ⟨w.heap.size, j, none⟩ := by unfold Addr.add; split <;> simp_all
  rw [this, alloc_cell, nth_lt hj]
  simp [hj]
theorem all_take_snocL {α : Type} (p : α → Bool) (xs : List α) (k : Nat) (hk : k < xs.length) (h : (xs.take k).all p = true) (hp : p xs[k] = true) : (xs.take (k + 1)).all p = true := by
  rw [List.take_succ_eq_append_getElem hk, List.all_append, h]
  simpa using hp
theorem not_allL {α : Type} (p : α → Bool) (xs : List α) (k : Nat) (hk : k < xs.length) (hp : p xs[k] = false) : xs.all p = false := by
  rw [List.all_eq_false]
  exact ⟨_, List.getElem_mem hk, by simpa using hp⟩
theorem made_zeros (n : Nat) : madeCells #[Value.int .i64 0] n = ((List.replicate n (0 : Int)).map I).toArray := by
  apply Array.ext (by simp [size_madeCells])
  intro i h1 h2
  rw [size_madeCells] at h1
  simp [madeCells, Nat.mod_one]
theorem cells_set (p : Nat) (tail : List Int) (d : Int) : ((((List.replicate (p + 1) (0 : Int)) ++ tail).map I).toArray).setIfInBounds p (I d) = ((List.replicate p (0 : Int) ++ d :: tail).map I).toArray := by
  rw [List.replicate_succ']
  apply Array.toList_inj.1
  simp
theorem two_boxes (w : World) (a b : Obj) : Below w.heap.size w ((w.alloc a).alloc b) := ((Below.refl _ _).alloc (Nat.le_refl _) _).alloc (by simp) _
end Go.Proofs.Ytglkjiimmlobbaa
namespace Go.Proofs.Ytglkjiimmlobbaa
open Go.RowKit
section
variable {w w' : World} {base : Nat} {v u : Value}
/-- a list of lists, its blocks from base on -/
def Lists (w : World) (base : Nat) (v : Value) (xss : List (List Int)) : Prop :=
  ∃ vs : List Value, w.ownsRow base 29 1 v xss.length vs ∧ ∀ j (h : j < xss.length), ∃ u, vs[j]? = some u ∧ w.ownsRow base 3 1 u xss[j].length (xss[j].map I)
theorem Lists.nil (w : World) (base : Nat) : Lists w base (.slice none 0 0) [] := ⟨[], World.ownsRow_nil _ _ _ _, fun j h => absurd h (Nat.not_lt_zero j)⟩
theorem own_grown {e : TypeId} {s n : Nat} {xs : List Value} (h : w.ownsRow base e s v n xs) (hg : w.grownBy w' none) : w'.ownsRow base e s v n xs := h.kept hg (by cases v.ownBlock <;> simp)
theorem grown_of_below {B : Nat} (h : Below B w w') (hB : w.heap.size ≤ B) : w.grownBy w' none := ⟨h.os, h.tape, h.output, h.size, fun k hk _ => h.block k (by omega)⟩
theorem Lists.grown {xss : List (List Int)} (h : Lists w base v xss) (hg : w.grownBy w' none) : Lists w' base v xss := by
  obtain ⟨vs, h1, h2⟩ := h
  refine ⟨vs, own_grown h1 hg, fun j hj => ?_⟩
  obtain ⟨u, e, h3⟩ := h2 j hj
  exact ⟨u, e, own_grown h3 hg⟩
theorem Lists.below {B : Nat} {xss : List (List Int)} (h : Lists w base v xss) (hb : Below B w w') (hB : w.heap.size ≤ B) : Lists w' base v xss := h.grown (grown_of_below hb hB)
theorem own_apart {e1 e2 : TypeId} {s1 s2 n m b1 b2 : Nat} {xs ys : List Value} (h1 : w.ownsRow b1 e1 s1 v n xs) (h2 : w.ownsRow b2 e2 s2 u m ys) (he : e1 ≠ e2) : u.ownBlock = none ∨ u.ownBlock ≠ v.ownBlock := by
  rcases h2.2 with ⟨rfl, _⟩ | ⟨g, cap, cur, rfl, _, hg, _⟩
  · exact .inl rfl
  · rcases h1.2 with ⟨rfl, _⟩ | ⟨g', cap', cur', rfl, _, hg', _⟩
    · exact .inr (by simp [Value.ownBlock])
    · refine .inr ?_
      simp only [Value.ownBlock, ne_eq, Option.some.injEq]
      rintro rfl
      rw [hg] at hg'
      injection hg' with hg'
      injection hg' with _ hg'
      exact he hg'.symm
theorem ne_types : 29 ≠ 3 := by decide
theorem snoc_lists {w2 : World} {v' : Value} {xss : List (List Int)} {x : List Int} {vs : List Value} (hown : w.ownsRow base 29 1 v xss.length vs)
    (hin : ∀ j (h : j < xss.length), ∃ u, vs[j]? = some u ∧ w.ownsRow base 3 1 u xss[j].length (xss[j].map I)) (hu : w.ownsRow base 3 1 u x.length (x.map I))
    (h2 : w.grownBy w2 none) (hown' : w'.ownsRow base 29 1 v' (xss.length + 1) (vs ++ [u])) (hgrow : w2.grownBy w' v.ownBlock) : Lists w' base v' (xss ++ [x]) := by
  have hlen : vs.length = xss.length := by have := hown.1; omega
  have hv2 := own_grown hown h2
  refine ⟨vs ++ [u], by simpa using hown', fun j hj => ?_⟩
  by_cases hlt : j < xss.length
  · obtain ⟨y, e, h3⟩ := hin j hlt
    rw [List.getElem_append_left hlt]
    exact ⟨y, by rw [List.getElem?_append_left (by omega)]; exact e, (own_grown h3 h2).kept hgrow (own_apart hv2 (own_grown h3 h2) ne_types)⟩
  · have hj' : j = xss.length := by simp at hj; omega
    subst hj'
    refine ⟨u, by rw [List.getElem?_append_right (by omega)]; simp [hlen], ?_⟩
    simp only [List.getElem_append_right (Nat.le_refl _), Nat.sub_self, List.getElem_cons_zero]
    exact (own_grown hu h2).kept hgrow (own_apart hv2 (own_grown hu h2) ne_types)
theorem own_ints {x : List Int} (h : w.ownsRow base 3 1 u x.length (x.map I)) : ∃ (A : Option Addr) (c : Nat), u = .slice A x.length c ∧ IntsR w w.heap.size A x ∧ x.length ≤ maxLen := by
  rcases h.2 with ⟨rfl, h0⟩ | ⟨g, cap, cur, rfl, _, hg, h1, h2, h3, h4⟩
  · exact ⟨none, 0, by rw [h0], fun h => absurd h (by omega), by omega⟩
  · refine ⟨some ⟨g, 0, none⟩, cap, rfl, fun h0 => ⟨_, rfl, (Array.getElem?_eq_some_iff.1 hg).1, fun j hj => ?_⟩, by omega⟩
    have hadd : (⟨g, 0, none⟩ : Addr).add j = ⟨g, j, none⟩ := by unfold Addr.add; split <;> simp_all
    rw [hadd, nth_lt hj]
    have hc : w.cell? ⟨g, j, none⟩ = cur[j]? := by
      have hg' : w.heap[g]? = some (.cells cur.toList.toArray 3 (0, 0)) := by simpa using hg
      have := cell_of_row w g j _ _ _ hg'
      simpa using this
    rw [hc, ← Array.getElem?_toList]
    have h5 : (cur.toList.take (x.length * 1))[j]? = some (I x[j]) := by rw [h4]; simp [hj]
    rwa [List.getElem?_take_of_lt (by omega)] at h5
theorem Lists.sls {xss : List (List Int)} (h : Lists w base v xss) : ∃ (A : Option Addr) (c : Nat), v = .slice A xss.length c ∧ SlsR w w.heap.size A xss ∧ xss.length ≤ maxLen ∧ xss.length ≤ c := by
  obtain ⟨vs, hown, hin⟩ := h
  rcases hown.2 with ⟨rfl, h0⟩ | ⟨g, cap, cur, rfl, _, hg, h1, h2, h3, h4⟩
  · exact ⟨none, 0, by rw [h0], fun h => absurd h (by omega), by omega, by omega⟩
  · refine ⟨some ⟨g, 0, none⟩, cap, rfl, fun h0 => ⟨_, rfl, (Array.getElem?_eq_some_iff.1 hg).1, fun j hj => ?_⟩, by omega, h1⟩
    obtain ⟨u, e, h5⟩ := hin j hj
    obtain ⟨A, c, rfl, hi, hm⟩ := own_ints h5
    refine ⟨A, c, ?_, hi, hm⟩
    have hadd : (⟨g, 0, none⟩ : Addr).add j = ⟨g, j, none⟩ := by unfold Addr.add; split <;> simp_all
    rw [hadd]
    have hc : w.cell? ⟨g, j, none⟩ = cur[j]? := by
      have hg' : w.heap[g]? = some (.cells cur.toList.toArray 29 (0, 0)) := by simpa using hg
      have := cell_of_row w g j _ _ _ hg'
      simpa using this
    rw [hc, ← Array.getElem?_toList]
    rw [← h4] at e
    rwa [List.getElem?_take_of_lt (by omega)] at e
theorem own_base {b e s n : Nat} {xs : List Value} (h : w.ownsRow base e s v n xs) (hb : b ≤ base) : w.ownsRow b e s v n xs := by
  refine ⟨h.1, ?_⟩
  rcases h.2 with h0 | ⟨g, cap, cur, h1, h2, h3⟩
  · exact .inl h0
  · exact .inr ⟨g, cap, cur, h1, by omega, h3⟩
theorem Lists.rebase {b : Nat} {xss : List (List Int)} (h : Lists w base v xss) (hb : b ≤ base) : Lists w b v xss := by
  obtain ⟨vs, h1, h2⟩ := h
  refine ⟨vs, own_base h1 hb, fun j hj => ?_⟩
  obtain ⟨u, e, h3⟩ := h2 j hj
  exact ⟨u, e, own_base h3 hb⟩
/-- a full block is owned -/
theorem own_block {g : Nat} {x : List Int} (hg : w.heap[g]? = some (.cells (x.map I).toArray 3 (0, 0))) (hb : base ≤ g) (hl : x.length ≤ maxLen) : w.ownsRow base 3 1 (.slice (some ⟨g, 0, none⟩) x.length x.length) x.length (x.map I) :=
  ⟨by simp, .inr ⟨g, x.length, _, rfl, hb, hg, Nat.le_refl _, hl, by simp, by simp [List.take_of_length_le]⟩⟩
/-- what 'make' made, cell by cell -/
theorem block_own {g n : Nat} {e : TypeId} {xs : List Value} (h : w.ownsRow base e 1 (.slice (some ⟨g, 0, none⟩) n n) n xs) : w.heap[g]? = some (.cells xs.toArray e (0, 0)) := by
  rcases h.2 with ⟨h0, _⟩ | ⟨g', cap, cur, h0, _, hg, h1, h2, h3, h4⟩
  · exact absurd h0 (by simp)
  · injection h0 with h0 _ h5
    injection h0 with h0
    injection h0 with h0
    subst h0 h5
    rw [hg, ← h4, List.take_of_length_le (by simp; omega)]
theorem ints_block {g : Nat} {t : TypeId} {x : List Int} (hg : w.heap[g]? = some (.cells (x.map I).toArray t (0, 0))) : IntsR w w.heap.size (some ⟨g, 0, none⟩) x := fun h0 => by
  refine ⟨_, rfl, (Array.getElem?_eq_some_iff.1 hg).1, fun j hj => ?_⟩
  have hadd : (⟨g, 0, none⟩ : Addr).add j = ⟨g, j, none⟩ := by unfold Addr.add; split <;> simp_all
  rw [hadd, cell_of_row w g j _ _ _ hg, nth_lt hj]
  simp [hj]
end
theorem info_sl : (Try.prog.info? 29).map (fun i => (i.zero, i.size, i.bytes)) = some (some (.slice none 0 0), 1, 24) := by kernel_rfl
theorem info_int : (Try.prog.info? 3).map (fun i => (i.zero, i.size, i.bytes)) = some (some (.int .i64 0), 1, 8) := by kernel_rfl
end Go.Proofs.Ytglkjiimmlobbaa
