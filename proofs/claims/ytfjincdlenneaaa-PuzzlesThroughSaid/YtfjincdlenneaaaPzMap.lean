/-
  MAPS FROM NUMBERS TO SLICES: what a map of the call's own holds, as a function; the look-ups and the store at the operation. A QUEUE: a slice of numbers at any offset of a row of the call's own; one more number behind it.
-/
import Derived.Maps.OwnSet
import Derived.Maps.Views
import Derived.Deep.MidRow
import Derived.Test.YtfjincdlenneaaaPzA
import Derived.Test.YtfjincdlenneaaaPzD
namespace Go.Proofs.Ytfjincdlenneaaa
open Go.RowKit Go.Shelf
abbrev nilS : Value := .slice none 0 0
/-- a slice in a map is read as itself -/
def heldR (v : Value) : Option (DataW Value × List MemPlace) := some (.held v, [])
theorem zeroSl (w : World) : (zeroValue 29).run Try.prog w = .ok nilS w := by kernel_rfl
theorem keyLaw : Go.Maps.Keyed Try.prog 3 := Go.Maps.int_keyed Try.underlying3
/-- block B is a map that holds these slices -/
def MapF (w : World) (B n : Nat) (f : Nat → Option Value) : Prop :=
  ∃ D, w.ownsMap Try.prog 3 heldR B n D ∧ ∀ c : Nat, c ≤ 1000 → Go.Maps.has D (.int .i64 c) = (f c).isSome ∧ D.atKey (.int .i64 c) (.held nilS) = .held ((f c).getD nilS)
def updV (f : Nat → Option Value) (k : Nat) (v : Value) : Nat → Option Value := fun c => if c = k then some v else f c
theorem MapF.made (w : World) : MapF (w.alloc (.map #[] 0)) w.heap.size 0 (fun _ => none) :=
  ⟨.map [], World.ownsMap_made w _ _ _, fun _ _ => ⟨rfl, rfl⟩⟩
theorem MapF.kept {w w' : World} {B n : Nat} {f : Nat → Option Value} {row : Option Nat} (h : MapF w B n f) (hg : w.grownBy w' row) (hne : some B ≠ row) : MapF w' B n f := by
  obtain ⟨D, h1, h2⟩ := h
  exact ⟨D, h1.kept hg hne, h2⟩
theorem MapF.lt {w : World} {B n : Nat} {f : Nat → Option Value} (h : MapF w B n f) : B < w.heap.size := by
  obtain ⟨D, h1, h2⟩ := h
  exact h1.lt
theorem MapF.below {w w' : World} {B n M : Nat} {f : Nat → Option Value} (h : MapF w B n f) (hb : Below M w w') (hM : B < M) : MapF w' B n f := by
  obtain ⟨D, ⟨es, clock, h1, h2⟩, h3⟩ := h
  exact ⟨D, ⟨es, clock, (hb.block B hM).trans h1, h2⟩, h3⟩
theorem keyAt (c : Nat) (hc : c ≤ 1000) : keyOf Try.prog 3 (I c) = some (.int .i64 c) := Go.Maps.keyOf_int_mk Try.underlying3 (WalkArith.wf_i64 (by omega))
theorem wpList_map_ok {ops : Array Oper} {rest : List Oper} {o : Oper} {a : Act} {Q : Exit → Act → World → Prop} {w : World} (hg : o.guard = none) (m x : Operand) (hop : o.op = Op.lookup 122 m x true)
    (B n : Nat) (f : Nat → Option Value) (hm : a.eval m = .map (some B)) (hown : MapF w B n f) (c : Nat) (hc : c ≤ 1000) (hx : a.eval x = I c)
    (hK : wpList Try.prog ops Q rest (a.put o.dst (.tuple #[(f c).getD nilS, .bool (f c).isSome])) w) : wpList Try.prog ops Q (o :: rest) a w := by
  obtain ⟨D, h1, h2⟩ := hown
  refine wpList_lookup_own_ok w hg m x 122 hop 3 29 keyLaw Try.underlying122 heldR (zeroSl w) (.held nilS) [] rfl B n D hm h1 (I c) (.int .i64 c) hx (keyAt c hc) fun v ps hv => ?_
  have h3 := h2 c hc
  rw [h3.2] at hv
  have e : v = (f c).getD nilS := by
    have := congrArg (Option.map Prod.fst) hv
    simpa [heldR] using this
  rw [e, h3.1]
  exact hK
theorem wpList_map_at {ops : Array Oper} {rest : List Oper} {o : Oper} {a : Act} {Q : Exit → Act → World → Prop} {w : World} (hg : o.guard = none) (m x : Operand) (hop : o.op = Op.lookup 122 m x false)
    (B n : Nat) (f : Nat → Option Value) (hm : a.eval m = .map (some B)) (hown : MapF w B n f) (c : Nat) (hc : c ≤ 1000) (hx : a.eval x = I c)
    (hK : wpList Try.prog ops Q rest (a.put o.dst ((f c).getD nilS)) w) : wpList Try.prog ops Q (o :: rest) a w := by
  obtain ⟨D, h1, h2⟩ := hown
  refine wpList_plain hg fun K' hK' => ?_
  obtain ⟨v, ps, hrun, hv⟩ := h1.lookup keyLaw Try.underlying122 (zeroSl w) (zd := .held nilS) (zp := []) rfl (keyAt c hc)
  have h3 := h2 c hc
  rw [h3.2] at hv
  have e : v = (f c).getD nilS := by
    have := congrArg (Option.map Prod.fst) hv
    simpa [heldR] using this
  unfold Oper.wp
  simp [execOp, hop, hm, hx, hrun, Result.andThen]
  rw [e]
  exact hK' _ _ hK
theorem mapF_put {D : DataW Value} {f : Nat → Option Value} {c : Nat} {val : Value} (hM : Go.Maps.IsMap D) (h2 : ∀ c : Nat, c ≤ 1000 → Go.Maps.has D (.int .i64 c) = (f c).isSome ∧ D.atKey (.int .i64 c) (.held nilS) = .held ((f c).getD nilS)) (_hc : c ≤ 1000) :
    ∀ k : Nat, k ≤ 1000 → Go.Maps.has (D.put (.int .i64 c) (.held val)) (.int .i64 k) = (updV f c val k).isSome ∧ (D.put (.int .i64 c) (.held val)).atKey (.int .i64 k) (.held nilS) = .held ((updV f c val k).getD nilS) := by
  intro k hk
  have hkl : Go.WideAt.IsKeyLit (.int .i64 (c : Int)) := trivial
  by_cases he : k = c
  · subst he
    rw [Go.Maps.has_put_same hM hkl, Go.Maps.atKey_put_same hM hkl]
    simp [updV]
  · have hne : (Lit.int .i64 (k : Int)) ≠ Lit.int .i64 (c : Int) := fun e => by injection e with _ e; omega
    rw [Go.Maps.has_put_other hne, Go.Maps.atKey_put_other hne, (h2 k hk).1, (h2 k hk).2]
    simp [updV, he]
theorem wpList_map_ins {ops : Array Oper} {rest : List Oper} {o : Oper} {a : Act} {Q : Exit → Act → World → Prop} {w : World} (hg : o.guard = none) (m x v : Operand) (hop : o.op = Op.insert 122 m x v)
    (B n : Nat) (f : Nat → Option Value) (hm : a.eval m = .map (some B)) (hown : MapF w B n f) (hn : n < maxLen) (c : Nat) (hc : c ≤ 1000) (hx : a.eval x = I c) (val : Value) (hv : a.eval v = val)
    (hK : ∀ w', MapF w' B (n + 1) (updV f c val) → w.grownBy w' (some B) → wpList Try.prog ops Q rest (a.put o.dst undef) w') : wpList Try.prog ops Q (o :: rest) a w := by
  obtain ⟨D, h1, h2⟩ := hown
  refine wpList_plain hg fun K' hK' => ?_
  obtain ⟨w', hrun, r1, r2⟩ := h1.update keyLaw Try.underlying122 hn (keyAt c hc) (val := val) (d := .held val) (ps := []) rfl
  unfold Oper.wp
  simp [execOp, hop, hm, hx, hv, hrun, Result.andThen]
  exact hK' _ _ (hK w' ⟨_, r1, mapF_put h1.isMap h2 hc⟩ r2)
theorem wpList_map_put {ops : Array Oper} {rest : List Oper} {o : Oper} {a : Act} {Q : Exit → Act → World → Prop} {w : World} (hg : o.guard = none) (m x v : Operand) (hop : o.op = Op.mapUpdate 122 m x v)
    (B n : Nat) (f : Nat → Option Value) (hm : a.eval m = .map (some B)) (hown : MapF w B n f) (hn : n < maxLen) (c : Nat) (hc : c ≤ 1000) (hx : a.eval x = I c) (val : Value) (hv : a.eval v = val)
    (hK : ∀ w', MapF w' B (n + 1) (updV f c val) → w.grownBy w' (some B) → wpList Try.prog ops Q rest (a.put o.dst undef) w') : wpList Try.prog ops Q (o :: rest) a w := by
  obtain ⟨D, h1, h2⟩ := hown
  refine wpList_mapUpdate_own w hg m x v 122 hop 3 29 keyLaw Try.underlying122 heldR B n D hm h1 hn (I c) val (.int .i64 c) hx hv (keyAt c hc) (.held val) [] rfl fun w' h3 h4 => hK w' ⟨_, h3, mapF_put h1.isMap h2 hc⟩ h4
theorem wpList_map_hit {ops : Array Oper} {rest : List Oper} {o : Oper} {a : Act} {Q : Exit → Act → World → Prop} {w : World} (hg : o.guard = none) (m x : Operand) (hop : o.op = Op.lookup 122 m x true)
    (B n : Nat) (f : Nat → Option Value) (hm : a.eval m = .map (some B)) (hown : MapF w B n f) (c : Nat) (hc : c ≤ 1000) (hx : a.eval x = I c) (v : Value) (hf : f c = some v)
    (hK : wpList Try.prog ops Q rest (a.put o.dst (.tuple #[v, .bool true])) w) : wpList Try.prog ops Q (o :: rest) a w :=
  wpList_map_ok hg m x hop B n f hm hown c hc hx (by rw [hf]; exact hK)
theorem wpList_map_miss {ops : Array Oper} {rest : List Oper} {o : Oper} {a : Act} {Q : Exit → Act → World → Prop} {w : World} (hg : o.guard = none) (m x : Operand) (hop : o.op = Op.lookup 122 m x true)
    (B n : Nat) (f : Nat → Option Value) (hm : a.eval m = .map (some B)) (hown : MapF w B n f) (c : Nat) (hc : c ≤ 1000) (hx : a.eval x = I c) (hf : f c = none)
    (hK : wpList Try.prog ops Q rest (a.put o.dst (.tuple #[nilS, .bool false])) w) : wpList Try.prog ops Q (o :: rest) a w :=
  wpList_map_ok hg m x hop B n f hm hown c hc hx (by rw [hf]; exact hK)
theorem wpList_map_get {ops : Array Oper} {rest : List Oper} {o : Oper} {a : Act} {Q : Exit → Act → World → Prop} {w : World} (hg : o.guard = none) (m x : Operand) (hop : o.op = Op.lookup 122 m x false)
    (B n : Nat) (f : Nat → Option Value) (hm : a.eval m = .map (some B)) (hown : MapF w B n f) (c : Nat) (hc : c ≤ 1000) (hx : a.eval x = I c) (v : Value) (hf : f c = some v)
    (hK : wpList Try.prog ops Q rest (a.put o.dst v) w) : wpList Try.prog ops Q (o :: rest) a w :=
  wpList_map_at hg m x hop B n f hm hown c hc hx (by rw [hf]; exact hK)
/-- a slice of numbers at any offset of a row of the call's own -/
def QRow (w : World) (base : Nat) (v : Value) (zs : List Int) : Prop :=
  ∃ g off c cur, v = .slice (some ⟨g, off, none⟩) zs.length c ∧ c ≤ maxLen ∧ base ≤ g ∧ w.heap[g]? = some (.cells cur 3 (0, 0)) ∧ off + c ≤ cur.size ∧ zs.length ≤ c ∧ ∀ j, j < zs.length → cur[off + j]? = some (I (nth zs j))
theorem QRow.kept {w w' : World} {base : Nat} {v : Value} {zs : List Int} {row : Option Nat} (h : QRow w base v zs) (hg : w.grownBy w' row) (hne : v.ownBlock ≠ row) : QRow w' base v zs := by
  obtain ⟨g, off, c, cur, rfl, h1, h2, h3, h4⟩ := h
  exact ⟨g, off, c, cur, rfl, h1, h2, (hg.block g (Array.getElem?_eq_some_iff.1 h3).1 (by simpa [Value.ownBlock] using hne)).trans h3, h4⟩
theorem QRow.ints {w : World} {base : Nat} {v : Value} {zs : List Int} (h : QRow w base v zs) : ∃ g off c, v = .slice (some ⟨g, off, none⟩) zs.length c ∧ base ≤ g ∧ zs.length ≤ c ∧ c ≤ maxLen ∧ g < w.heap.size ∧ IntsR w w.heap.size (some ⟨g, off, none⟩) zs := by
  obtain ⟨g, off, c, cur, rfl, h1, h2, h3, h4, h5, h6⟩ := h
  have hlt := (Array.getElem?_eq_some_iff.1 h3).1
  refine ⟨g, off, c, rfl, h2, h5, h1, hlt, fun _ => ⟨_, rfl, hlt, fun j hj => ?_⟩⟩
  rw [Addr.add_mid, cell_of_row w g (off + j) cur _ _ h3]
  exact h6 j hj
/-- one more number behind it -/
theorem run_append_q {w : World} {base : Nat} {v : Value} {zs : List Int} (h : QRow w base v zs) (ty : TypeId) (ad : Addr) (c' : Nat) (x : Int) (hx : w.cell? ad = some (I x)) (hl : zs.length ≤ 1000000) (hbase : base ≤ w.heap.size) :
    ∃ v' w', (Builtin.append_ #[29, 29] ty #[v, .slice (some ad) 1 c']).run Try.prog w = .ok v' w' ∧ QRow w' base v' (zs ++ [x]) ∧ w.grownBy w' v.ownBlock ∧ (v'.ownBlock = v.ownBlock ∨ v'.ownBlock = some w.heap.size) := by
  obtain ⟨i0, hi, hz0, hz1, hz2⟩ := info_parts info_int
  obtain ⟨g, off, c, cur, rfl, h1, h2, h3, h4, h5, h6⟩ := h
  have hnews : ∀ (j : Nat) (u : Value), ([I x] : List Value)[j]? = some u → w.cell? (ad.add j) = some u := by
    intro j u hj
    match j with
    | 0 =>
      have e : ad.add 0 = ad := by unfold Addr.add; split <;> simp_all
      rw [e, hx]
      simpa using hj
    | j + 1 => simp at hj
  have nth_app : ∀ j, j < zs.length → nth (zs ++ [x]) j = nth zs j := fun j hj => by simp [nth, List.getElem?_append_left hj]
  have nth_new : nth (zs ++ [x]) zs.length = x := by simp [nth]
  by_cases hroom : zs.length + 1 ≤ c
  · have hf := run_firstCells_some (P := Try.prog) w i0.size 1 ad 1 c' [I x] (by rw [hz1]; rfl) hnews
    have hst := run_storeCells_at Try.prog g (off + zs.length) 3 [I x] 0 cur w h3 (by simp; omega) (by simp [Value.oneCell'])
    simp only [Nat.add_zero] at hst
    refine ⟨.slice (some ⟨g, off, none⟩) (zs.length + 1) c, w.setRow g (cur.toList.take (off + zs.length) ++ [I x] ++ cur.toList.drop (off + zs.length + [I x].length)).toArray, ?_, ?_, ⟨rfl, rfl, rfl, by simp [World.setRow], fun k _ hk => setRow_other w g k _ (fun e => hk (by simp [Value.ownBlock, e]))⟩, .inl rfl⟩
    · rw [hz1] at hf
      simp [Builtin.append_, run_underlying Try.underlying29, sizeOf, typeInfo, hi, Builtin.lenOf, hroom, hf, hz1, Addr.add_mid, hst]
    · refine ⟨g, off, c, _, by simp, h1, h2, setRow_heap w g cur _ 3 _ h3, ?_, by simpa using hroom, fun j hj => ?_⟩
      · simp only [List.size_toArray, List.length_append, List.length_take, List.length_drop, Array.length_toList, List.length_singleton]
        omega
      · rw [List.length_append, List.length_singleton] at hj
        have hcl : cur.toList.length = cur.size := by simp
        rw [List.getElem?_toArray, List.append_assoc]
        by_cases hj2 : j < zs.length
        · rw [nth_app j hj2, List.getElem?_append_left (by rw [List.length_take, hcl]; omega), List.getElem?_take_of_lt (by omega), Array.getElem?_toList]
          exact h6 j hj2
        · obtain rfl : j = zs.length := by omega
          rw [nth_new, List.getElem?_append_right (by rw [List.length_take, hcl]; omega), List.length_take, hcl]
          rw [show off + zs.length - min (off + zs.length) cur.size = 0 by omega]
          rfl
  · obtain ⟨L, hL⟩ : ∃ L, L = zs.map I := ⟨_, rfl⟩
    have hLl : L.length = zs.length := by rw [hL]; simp
    have holds : ∀ (j : Nat) (u : Value), (zs.map I)[j]? = some u → w.cell? ((⟨g, off, none⟩ : Addr).add j) = some u := by
      intro j u hj
      obtain ⟨h7, e⟩ := List.getElem?_eq_some_iff.1 hj
      rw [List.length_map] at h7
      rw [Addr.add_mid, cell_of_row w g (off + j) cur _ _ h3, h6 j h7, ← e, List.getElem_map, nth_lt h7]
    have hr := run_append_grow (P := Try.prog) w 29 ty 3 i0 (.int .i64 0) Try.underlying29 hi hz0 ⟨g, off, none⟩ zs.length c (zs.map I) (by rw [hz1]; simp) holds ad 1 c' [I x] (by rw [hz1]; rfl) hnews (by omega) (by omega) (growslice_fits (by omega) (by rw [hz2]; omega))
    refine ⟨_, _, hr, ?_, ⟨rfl, rfl, rfl, by simp, fun k hk _ => heap_alloc_old w.drew _ hk⟩, .inr rfl⟩
    have hge := grownCap_ge w (zs.length + 1) c 3
    have hcm : grownCap w (zs.length + 1) c 3 ≤ maxLen := grownCap_le_maxLen w (zs.length + 1) c 3 (by unfold maxLen; omega)
    refine ⟨w.heap.size, 0, _, _, by simp, hcm, hbase, heap_alloc_new w.drew _, ?_, by simpa using hge, fun j hj => ?_⟩
    · simp [size_zeroCells, Value.cells]
      omega
    · rw [List.length_append, List.length_singleton] at hj
      rw [Nat.zero_add, Array.getElem?_append_left (by simp; omega)]
      by_cases hj2 : j < zs.length
      · rw [nth_app j hj2, Array.getElem?_append_left (by simpa using hj2)]
        simp [nth_lt hj2, hj2]
      · obtain rfl : j = zs.length := by omega
        rw [nth_new, Array.getElem?_append_right (by simp)]
        simp
theorem wpList_append_q {ops : Array Oper} {rest : List Oper} {o : Oper} {a : Act} {Q : Exit → Act → World → Prop} {w : World} (hgd : o.guard = none) (s x : Operand)
    (ho : o.op = .call { callee := .builtin .append, args := #[s, x], argTypes := #[29, 29] }) (base : Nat) (v : Value) (zs : List Int) (hs : a.eval s = v) (hq : QRow w base v zs)
    (ad : Addr) (c' : Nat) (y : Int) (hx : a.eval x = .slice (some ad) 1 c') (hy : w.cell? ad = some (I y)) (hl : zs.length ≤ 1000000) (hbase : base ≤ w.heap.size)
    (h : ∀ v' w', QRow w' base v' (zs ++ [y]) → w.grownBy w' v.ownBlock → (v'.ownBlock = v.ownBlock ∨ v'.ownBlock = some w.heap.size) → wpList Try.prog ops Q rest (a.put o.dst v') w') : wpList Try.prog ops Q (o :: rest) a w := by
  refine wpList_plain hgd fun _ hK => ?_
  obtain ⟨v', w', hr, h2, h3, h4⟩ := run_append_q hq o.type ad c' y hy hl hbase
  unfold Oper.wp execOp
  simp only [ho, resolve, invoke, builtin, Sem.run_bind, Sem.run_pure, Result.andThen_ok, List.map_toArray, List.map_cons, List.map_nil, hs, hx, hr]
  exact hK _ _ (h v' w' h2 h3 h4)
end Go.Proofs.Ytfjincdlenneaaa
