/-
  WHAT IS GENERIC, more: slices.Clone, append of numbers, queues, rows of values, what stays in a region. (Written by gen out of layer 3's templates.)
-/
import Derived.Deep.MidRow
import Derived.Laws.AppendOwnNone
import Derived.Deep.RegionHeld3
import Derived.Deep.LoopGhost
import Derived.Lib.BufferMore
import Derived.Test.YtehoaenkkmmobaaGbA
namespace Go.Proofs.Ytehoaenkkmmobaa
open Go.RowKit Go.Shelf
set_option maxRecDepth 100000 in
set_option maxHeartbeats 1000000 in
theorem clone_any (ad : Addr) (c : Nat) (l : List Int) (w : World) (hx : IntsR w w.heap.size (some ad) l) (hl : l.length ≤ 1000) :
    Calls Try.prog 113 #[.slice (some ad) l.length c] w fun e w' => ∃ v, e = .returned v ∧ w'.ownsRow w.heap.size 3 1 v l.length (l.map I) ∧ Below w.heap.size w w' := by
  obtain ⟨i0, hi0, hz0, hz1, hz2⟩ := info_parts info_int
  have hb1 : Below w.heap.size w (w.alloc (.cells #[] 3)) := (Below.refl _ _).alloc (Nat.le_refl _) _
  have hg1 : (w.alloc (.cells #[] 3)).heap[w.heap.size]? = some (.cells (([] : List Int).map I).toArray 3 (0, 0)) := alloc_obj _ _ _ rfl
  have hown : (w.alloc (.cells #[] 3)).ownsRow w.heap.size 3 1 (.slice (some ⟨w.heap.size, 0, none⟩) 0 0) 0 [] := own_block (x := []) hg1 (Nat.le_refl _) (Nat.zero_le _)
  have hsrc : ∀ (j : Nat) (u : Value), (l.map I)[j]? = some u → (w.alloc (.cells #[] 3)).cell? (ad.add j) = some u := by
    intro j u hj
    obtain ⟨h1, e⟩ := List.getElem?_eq_some_iff.1 hj
    rw [List.length_map] at h1
    obtain ⟨ad', hA, hbl, hc⟩ := hx.at_ h1
    injection hA with hA
    have hA' := hA.symm
    subst hA'
    rw [← e, List.getElem_map, ← nth_lt h1]
    exact (hb1.cell (by rw [block_of_add]; exact hbl)).trans hc
  have hone : ∀ u ∈ l.map I, u.oneCell' = true := by intro u hu; obtain ⟨x, _, rfl⟩ := List.mem_map.1 hu; rfl
  have hrow := hown.lt
  have hnil := fun W => Lib.run_eql_slice_some_nil (P := Try.prog) W ad l.length c Try.underlying26
  go_enter Try.func113, Try.ntmps113
  go_wp2_with (at_builtin; go_must (refine wpList_append_own _ rfl _ _ 26 rfl w.heap.size 3 i0 (.int .i64 0) 1 8 Try.underlying26 hi0 hz0 hz1 hz2 rfl (by decide) _ 0 [] rfl hown ad l.length c (l.map I) rfl (by simp) hsrc hone ?c3 ?c4 ?c5 ?_); rotate_right; intro v' w4 hown' hgrow _)
  case c3 => unfold maxLen; omega
  case c4 => omega
  case c5 => simp
  rw [Nat.zero_add, List.nil_append] at hown'
  go_ret
  exact ⟨v', rfl, hown', hb1.grown hgrow (by simp) (fun j hj => (hrow j hj).1)⟩
theorem row_none {w : World} {a : Option Addr} {len cap : Nat} {zs : List Int} (h : IsRow .i64 w a len cap zs) : a = none → len = 0 ∧ cap = 0 := by
  intro e
  rcases h with ⟨_, h1, h2, _⟩ | ⟨x, h1, _⟩
  · exact ⟨h1, h2⟩
  · rw [e] at h1; cases h1
theorem own_cap {w : World} {base : Nat} {u : Value} {x : List Int} (h : w.ownsRow base 3 1 u x.length (x.map I)) : ∃ (A : Option Addr) (c : Nat), u = .slice A x.length c ∧ IntsR w w.heap.size A x ∧ x.length ≤ maxLen ∧ x.length ≤ c := by
  obtain ⟨A, c, e, hi, hm⟩ := own_ints h
  refine ⟨A, c, e, hi, hm, ?_⟩
  rcases h.2 with ⟨h1, h0⟩ | ⟨g, cap, cur, h1, _, _, h2, _⟩
  · omega
  · rw [e] at h1
    injection h1 with _ _ h3
    omega
theorem ints_take {w : World} {B : Nat} {A : Option Addr} {xs : List Int} (h : IntsR w B A xs) (k : Nat) : IntsR w B A (xs.take k) := by
  intro h0
  obtain ⟨ad, e, hb, hc⟩ := h (by rw [List.length_take] at h0; omega)
  refine ⟨ad, e, hb, fun j hj => ?_⟩
  rw [List.length_take] at hj
  rw [hc j (by omega)]
  congr 2
  simp only [nth]
  rw [List.getElem?_take_of_lt (by omega)]
theorem app_src {w : World} {B : Nat} {ad : Addr} {M : List Int} (h : IntsR w B (some ad) M) : (∀ (j : Nat) (u : Value), (M.map I)[j]? = some u → w.cell? (ad.add j) = some u) ∧ ∀ u ∈ M.map I, u.oneCell' = true := by
  constructor
  · intro j u hj
    obtain ⟨h1, e⟩ := List.getElem?_eq_some_iff.1 hj
    rw [List.length_map] at h1
    obtain ⟨ad', hA, hbl, hcc⟩ := h.at_ h1
    injection hA with hA
    have hA' := hA.symm
    subst hA'
    rw [← e, List.getElem_map, ← nth_lt h1]
    exact hcc
  · intro u hu
    obtain ⟨x, _, rfl⟩ := List.mem_map.1 hu
    rfl
theorem wpList_append_ints {ops : Array Oper} {rest : List Oper} {o : Oper} {a : Act} {Q : Exit → Act → World → Prop} {w : World} (hgd : o.guard = none) (s x : Operand)
    (ho : o.op = .call { callee := .builtin .append, args := #[s, x], argTypes := #[26, 26] }) (base : Nat) (v : Value) (L : List Int) (hs : a.eval s = v) (hown : w.ownsRow base 3 1 v L.length (L.map I))
    (A : Option Addr) (c : Nat) (M : List Int) (hx : a.eval x = .slice A M.length c) (hsrc : IntsR w w.heap.size A M) (hA : A = none → M.length = 0 ∧ c = 0) (hlen : (L.length + M.length) * 8 ≤ 140737488355328) (hbase : base ≤ w.heap.size)
    (h : ∀ v' w', w'.ownsRow base 3 1 v' (L ++ M).length ((L ++ M).map I) → Below base w w' → wpList Try.prog ops Q rest (a.put o.dst v') w') : wpList Try.prog ops Q (o :: rest) a w := by
  obtain ⟨i0, hi, hz0, hz1, hz2⟩ := info_parts info_int
  cases A with
  | none =>
    obtain ⟨h1, h2⟩ := hA rfl
    obtain rfl : M = [] := List.eq_nil_of_length_eq_zero h1
    subst h2
    refine wpList_append_own_none hgd s x 26 ho base 3 i0 1 Try.underlying26 hi v L.length (L.map I) hs hown hx (h v w ?_ (Below.refl _ _))
    rw [List.append_nil]
    exact hown
  | some ad =>
    obtain ⟨h1, h2⟩ := app_src hsrc
    have hrow := hown.lt
    refine wpList_append_own w hgd s x 26 ho base 3 i0 (.int .i64 0) 1 8 Try.underlying26 hi hz0 hz1 hz2 rfl (by decide) v L.length (L.map I) hs hown ad M.length c (M.map I) hx (by simp) h1 h2 (by unfold maxLen; omega) hlen hbase fun v' w' g1 g2 _ => h v' w' ?_ ?_
    · rw [List.length_append, List.map_append]
      exact g1
    · exact (Below.refl _ _).grown g2 hbase (fun j hj => (hrow j hj).1)
/-- a slice of numbers at any offset of a row of the call's own -/
def QRow (w : World) (base : Nat) (v : Value) (zs : List Int) : Prop :=
  ∃ g off c cur, v = .slice (some ⟨g, off, none⟩) zs.length c ∧ c ≤ maxLen ∧ base ≤ g ∧ w.heap[g]? = some (.cells cur 3 (0, 0)) ∧ off + c ≤ cur.size ∧ zs.length ≤ c ∧ ∀ j, j < zs.length → cur[off + j]? = some (I (nth zs j))
theorem QRow.kept {w w' : World} {base : Nat} {v : Value} {zs : List Int} {row : Option Nat} (h : QRow w base v zs) (hg : w.grownBy w' row) (hne : v.ownBlock ≠ row) : QRow w' base v zs := by
  obtain ⟨g, off, c, cur, rfl, h1, h2, h3, h4⟩ := h
  exact ⟨g, off, c, cur, rfl, h1, h2, (hg.block g (Array.getElem?_eq_some_iff.1 h3).1 (by simpa [Value.ownBlock] using hne)).trans h3, h4⟩
theorem QRow.ints {w : World} {base : Nat} {v : Value} {zs : List Int} (h : QRow w base v zs) : ∃ g off c, v = .slice (some ⟨g, off, none⟩) zs.length c ∧ base ≤ g ∧ zs.length ≤ c ∧ c ≤ maxLen ∧ g < w.heap.size ∧ IntsR w w.heap.size (some ⟨g, off, none⟩) zs := by
  obtain ⟨g, off, c, cur, rfl, h1, h2, h3, h4, h5, h6⟩ := h
  have hlt := (Array.getElem?_eq_some_iff.1 h3).1
  refine ⟨g, off, c, rfl, h2, h5, h1, hlt, fun _ => ⟨_, rfl, hlt, fun j hj => ?_⟩⟩
  rw [Addr.add_mid, cell_of_row w g (off + j) cur _ _ h3]
  exact h6 j hj
/-- one more number behind it -/
theorem run_append_q {w : World} {base : Nat} {v : Value} {zs : List Int} (h : QRow w base v zs) (ty : TypeId) (ad : Addr) (c' : Nat) (x : Int) (hx : w.cell? ad = some (I x)) (hl : zs.length ≤ 1000000) (hbase : base ≤ w.heap.size) :
    ∃ v' w', (Builtin.append_ #[26, 26] ty #[v, .slice (some ad) 1 c']).run Try.prog w = .ok v' w' ∧ QRow w' base v' (zs ++ [x]) ∧ w.grownBy w' v.ownBlock ∧ (v'.ownBlock = v.ownBlock ∨ v'.ownBlock = some w.heap.size) := by
  obtain ⟨i0, hi, hz0, hz1, hz2⟩ := info_parts info_int
  obtain ⟨g, off, c, cur, rfl, h1, h2, h3, h4, h5, h6⟩ := h
  have hnews : ∀ (j : Nat) (u : Value), ([I x] : List Value)[j]? = some u → w.cell? (ad.add j) = some u := by
    intro j u hj
    match j with
    | 0 =>
      have e : ad.add 0 = ad := by unfold Addr.add; split <;> simp_all
      rw [e, hx]
      simpa using hj
    | j + 1 => simp at hj
  have nth_app : ∀ j, j < zs.length → nth (zs ++ [x]) j = nth zs j := fun j hj => by simp [nth, List.getElem?_append_left hj]
  have nth_new : nth (zs ++ [x]) zs.length = x := by simp [nth]
  by_cases hroom : zs.length + 1 ≤ c
  · have hf := run_firstCells_some (P := Try.prog) w i0.size 1 ad 1 c' [I x] (by rw [hz1]; rfl) hnews
    have hst := run_storeCells_at Try.prog g (off + zs.length) 3 [I x] 0 cur w h3 (by simp; omega) (by simp [Value.oneCell'])
    simp only [Nat.add_zero] at hst
    refine ⟨.slice (some ⟨g, off, none⟩) (zs.length + 1) c, w.setRow g (cur.toList.take (off + zs.length) ++ [I x] ++ cur.toList.drop (off + zs.length + [I x].length)).toArray, ?_, ?_, ⟨rfl, rfl, rfl, by simp [World.setRow], fun k _ hk => setRow_other w g k _ (fun e => hk (by simp [Value.ownBlock, e]))⟩, .inl rfl⟩
    · rw [hz1] at hf
      simp [Builtin.append_, run_underlying Try.underlying26, sizeOf, typeInfo, hi, Builtin.lenOf, hroom, hf, hz1, Addr.add_mid, hst]
    · refine ⟨g, off, c, _, by simp, h1, h2, setRow_heap w g cur _ 3 _ h3, ?_, by simpa using hroom, fun j hj => ?_⟩
      · simp only [List.size_toArray, List.length_append, List.length_take, List.length_drop, Array.length_toList, List.length_singleton]
        omega
      · rw [List.length_append, List.length_singleton] at hj
        have hcl : cur.toList.length = cur.size := by simp
        rw [List.getElem?_toArray, List.append_assoc]
        by_cases hj2 : j < zs.length
        · rw [nth_app j hj2, List.getElem?_append_left (by rw [List.length_take, hcl]; omega), List.getElem?_take_of_lt (by omega), Array.getElem?_toList]
          exact h6 j hj2
        · obtain rfl : j = zs.length := by omega
          rw [nth_new, List.getElem?_append_right (by rw [List.length_take, hcl]; omega), List.length_take, hcl]
          rw [show off + zs.length - min (off + zs.length) cur.size = 0 by omega]
          rfl
  · obtain ⟨L, hL⟩ : ∃ L, L = zs.map I := ⟨_, rfl⟩
    have hLl : L.length = zs.length := by rw [hL]; simp
    have holds : ∀ (j : Nat) (u : Value), (zs.map I)[j]? = some u → w.cell? ((⟨g, off, none⟩ : Addr).add j) = some u := by
      intro j u hj
      obtain ⟨h7, e⟩ := List.getElem?_eq_some_iff.1 hj
      rw [List.length_map] at h7
      rw [Addr.add_mid, cell_of_row w g (off + j) cur _ _ h3, h6 j h7, ← e, List.getElem_map, nth_lt h7]
    have hr := run_append_grow (P := Try.prog) w 26 ty 3 i0 (.int .i64 0) Try.underlying26 hi hz0 ⟨g, off, none⟩ zs.length c (zs.map I) (by rw [hz1]; simp) holds ad 1 c' [I x] (by rw [hz1]; rfl) hnews (by omega) (by omega) (growslice_fits (by omega) (by rw [hz2]; omega))
    refine ⟨_, _, hr, ?_, ⟨rfl, rfl, rfl, by simp, fun k hk _ => heap_alloc_old w.drew _ hk⟩, .inr rfl⟩
    have hge := grownCap_ge w (zs.length + 1) c 3
    have hcm : grownCap w (zs.length + 1) c 3 ≤ maxLen := grownCap_le_maxLen w (zs.length + 1) c 3 (by unfold maxLen; omega)
    refine ⟨w.heap.size, 0, _, _, by simp, hcm, hbase, heap_alloc_new w.drew _, ?_, by simpa using hge, fun j hj => ?_⟩
    · simp [size_zeroCells, Value.cells]
      omega
    · rw [List.length_append, List.length_singleton] at hj
      rw [Nat.zero_add, Array.getElem?_append_left (by simp; omega)]
      by_cases hj2 : j < zs.length
      · rw [nth_app j hj2, Array.getElem?_append_left (by simpa using hj2)]
        simp [nth_lt hj2, hj2]
      · obtain rfl : j = zs.length := by omega
        rw [nth_new, Array.getElem?_append_right (by simp)]
        simp
theorem wpList_append_q {ops : Array Oper} {rest : List Oper} {o : Oper} {a : Act} {Q : Exit → Act → World → Prop} {w : World} (hgd : o.guard = none) (s x : Operand)
    (ho : o.op = .call { callee := .builtin .append, args := #[s, x], argTypes := #[26, 26] }) (base : Nat) (v : Value) (zs : List Int) (hs : a.eval s = v) (hq : QRow w base v zs)
    (ad : Addr) (c' : Nat) (y : Int) (hx : a.eval x = .slice (some ad) 1 c') (hy : w.cell? ad = some (I y)) (hl : zs.length ≤ 1000000) (hbase : base ≤ w.heap.size)
    (h : ∀ v' w', QRow w' base v' (zs ++ [y]) → w.grownBy w' v.ownBlock → (v'.ownBlock = v.ownBlock ∨ v'.ownBlock = some w.heap.size) → wpList Try.prog ops Q rest (a.put o.dst v') w') : wpList Try.prog ops Q (o :: rest) a w := by
  refine wpList_plain hgd fun _ hK => ?_
  obtain ⟨v', w', hr, h2, h3, h4⟩ := run_append_q hq o.type ad c' y hy hl hbase
  unfold Oper.wp execOp
  simp only [ho, resolve, invoke, builtin, Sem.run_bind, Sem.run_pure, Result.andThen_ok, List.map_toArray, List.map_cons, List.map_nil, hs, hx, hr]
  exact hK _ _ (h v' w' h2 h3 h4)
/-- a row of n values -/
def rowF (f : Nat → Value) (n : Nat) : Array Value := ((List.range n).map f).toArray
theorem rowF_at (f : Nat → Value) {n i : Nat} (h : i < n) : (rowF f n)[i]? = some (f i) := by simp [rowF, h]
theorem rowF_get (f : Nat → Value) (n i : Nat) : (rowF f n)[i]? = if i < n then some (f i) else none := by
  by_cases h : i < n
  · rw [if_pos h, rowF_at f h]
  · rw [if_neg h]; simp [rowF]; omega
theorem rowF_size (f : Nat → Value) (n : Nat) : (rowF f n).size = n := by simp [rowF]
theorem rowF_set (f : Nat → Value) (n k : Nat) (v : Value) : (rowF f n).setIfInBounds k v = rowF (fun x => if x = k then v else f x) n := by
  apply Array.ext_getElem?
  intro i
  rw [Array.getElem?_setIfInBounds, rowF_get, rowF_get, rowF_size]
  by_cases h : k = i
  · subst h
    by_cases h2 : k < n
    · simp [h2]
    · simp [h2]
  · rw [if_neg h]
    by_cases h2 : i < n
    · rw [if_pos h2, if_pos h2, if_neg (fun e : i = k => h e.symm)]
    · rw [if_neg h2, if_neg h2]
theorem rowF_congr {f g : Nat → Value} {n : Nat} (h : ∀ i, i < n → f i = g i) : rowF f n = rowF g n := by
  apply Array.ext (by simp [rowF])
  intro i h1 h2
  have hi : i < n := by simpa [rowF] using h1
  simp [rowF, h i hi]
theorem rowF_rep (v : Value) (n : Nat) : Array.replicate n v = rowF (fun _ => v) n := by
  apply Array.ext (by simp [rowF])
  intro i h1 h2
  simp [rowF]
theorem madeF (v : Value) (n : Nat) : madeCells #[v] n = rowF (fun _ => v) n := by
  apply Array.ext (by simp [size_madeCells, rowF])
  intro i h1 h2
  rw [size_madeCells] at h1
  simp [madeCells, Nat.mod_one, rowF]
/-- a row in block g -/
def RowAt (w : World) (g : Nat) (t : TypeId) (f : Nat → Value) (n : Nat) : Prop := w.heap[g]? = some (.cells (rowF f n) t (0, 0))
theorem RowAt.at_ {w : World} {g : Nat} {t : TypeId} {f : Nat → Value} {n i : Nat} (h : RowAt w g t f n) (hi : i < n) : w.cell? ⟨g, i, none⟩ = some (f i) :=
  (cell_of_row w g i _ _ _ h).trans (rowF_at f hi)
theorem RowAt.free {w : World} {g : Nat} {t : TypeId} {f : Nat → Value} {n : Nat} (h : RowAt w g t f n) (i : Nat) : w.frozen? ⟨g, i, none⟩ = false := frozen_of_row h i
theorem RowAt.set {w : World} {g : Nat} {t : TypeId} {f : Nat → Value} {n : Nat} (h : RowAt w g t f n) (k : Nat) (v : Value) : RowAt (w.setCell ⟨g, k, none⟩ v) g t (fun x => if x = k then v else f x) n := by
  have := row_set h k v
  rw [rowF_set] at this
  exact this
theorem RowAt.lt {w : World} {g : Nat} {t : TypeId} {f : Nat → Value} {n : Nat} (h : RowAt w g t f n) : g < w.heap.size := row_lt' h
theorem RowAt.congr {w : World} {g : Nat} {t : TypeId} {f f' : Nat → Value} {n : Nat} (h : RowAt w g t f n) (e : ∀ i, i < n → f i = f' i) : RowAt w g t f' n := by
  rw [RowAt, ← rowF_congr e]; exact h
theorem info_bool : (Try.prog.info? 4).map (fun i => (i.zero, i.size, i.bytes)) = some (some (.bool false), 1, 1) := by kernel_rfl
/-- what stays in a region: all that was there, at whatever address -/
def KeptW (w1 w' : World) : Prop := Below w1.heap.size w1 w' ∧ (∀ a : Addr, a.block < w1.heap.size → w'.cell? a = w1.cell? a)
theorem keptW_of {w1 w' : World} (h : Below w1.heap.size w1 w') : KeptW w1 w' := ⟨h, fun _ hb => h.cell hb⟩
theorem keptW_below {w1 w' : World} (h : KeptW w1 w') : Below w1.heap.size w1 w' := h.1
theorem keptW_drew (w1 : World) : KeptW w1 w1.drew := keptW_of (Below.refl _ _).drew
theorem keptW_call {w1 w' w2 : World} (h : KeptW w1 w') (hb : Below w'.heap.size w' w2) : KeptW w1 w2 := keptW_of (h.1.trans (hb.mono h.1.size))
theorem own_call {w w' : World} {base : Nat} {e : TypeId} {size : Nat} {v : Value} {n : Nat} {xs : List Value} (h : w.ownsRow base e size v n xs) (hb : Below w.heap.size w w') : w'.ownsRow base e size v n xs :=
  ⟨h.1, h.2.imp id fun ⟨g, cp, cur, h1, h2, h3, h4⟩ => ⟨g, cp, cur, h1, h2, (hb.block g (Array.getElem?_eq_some_iff.1 h3).1).trans h3, h4⟩⟩
/-- a row of numbers -/
def intV (F : Nat → Int) : Nat → Value := fun c => I (F c)
theorem intV_set {F G : Nat → Int} {w : World} {g n k : Nat} {v : Int} (h : RowAt w g 3 (intV F) n) (e : ∀ c, c < n → (if c = k then v else F c) = G c) : RowAt (w.setCell ⟨g, k, none⟩ (I v)) g 3 (intV G) n := by
  refine (h.set k (I v)).congr fun c hc => ?_
  show (if c = k then I v else I (F c)) = I (G c)
  rw [← e c hc]
  by_cases h1 : c = k
  · rw [if_pos h1, if_pos h1]
  · rw [if_neg h1, if_neg h1]
theorem one_box (w : World) (o : Obj) : ∃ w1, w1 = w.alloc o ∧ w1.heap.size = w.heap.size + 1 ∧ w1.heap[w.heap.size]? = some o ∧ Below w.heap.size w w1 :=
  ⟨_, rfl, by simp, alloc_obj _ _ _ rfl, (Below.refl _ _).alloc (Nat.le_refl _) _⟩

theorem unless_any (b : Bool) (n : Int) (w : World) :
    Calls Try.prog 51 #[.bool b, I n] w fun e w' => e = .returned (I (if b then 0 else n)) ∧ w' = w := by
  cases b
  · go_enter Try.func51, Try.ntmps51
    go_wp2
    go_ret
    exact ⟨rfl, rfl⟩
  · go_enter Try.func51, Try.ntmps51
    go_wp2
    go_ret
    exact ⟨rfl, rfl⟩

set_option maxRecDepth 100000 in
theorem clone_nil (w : World) : Calls Try.prog 113 #[(.slice none 0 0)] w fun e w' => e = .returned (.slice none 0 0) ∧ w' = w := by
  have hnil : ∀ W, (binOp .eql 26 (.slice none 0 0) (.slice none 0 0)).run Try.prog W = .ok (.bool true) W := fun W => Lib.run_eql_slice_nil_nil W _ _ Try.underlying26
  go_enter Try.func113, Try.ntmps113
  go_wp2
  go_ret
  exact ⟨rfl, rfl⟩
theorem wpOp_mem {P : Program} {ops : Array Oper} {Q : Exit → Act → World → Prop} {i : Nat} {o : Oper} {K : Act → World → Prop} {a : Act} {w : World} (v : Value) (w2 : World) (ho : ops[i]? = some o) (hw : Region.wanted o (yielded ops a.tmps) = true) (hv : (execOp a.eval o).run P w = .ok (.value v) w2)
    (h : K (a.put o.dst v) w2) : wpOp P ops Q i K a w := by
  unfold wpOp
  simp only [ho]
  rw [if_pos hw]
  unfold Oper.wp
  rw [hv, Oper.upon_value]
  exact .inl h
end Go.Proofs.Ytehoaenkkmmobaa
