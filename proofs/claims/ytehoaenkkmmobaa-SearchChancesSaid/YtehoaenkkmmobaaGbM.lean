/-
  MAPS WITH WHATEVER KEYS AND ELEMENTS, of the call's own, as functions from the very keys to the very elements: made, kept, looked up, stored into, struck.
-/
import Derived.Maps.OwnSet
import Derived.Maps.Views
import Derived.Test.YtehoaenkkmmobaaGbA
namespace Go.Proofs.Ytehoaenkkmmobaa
open Go.RowKit Go.Shelf
/-- an element is read as itself -/
def heldG (v : Value) : Option (DataW Value × List MemPlace) := some (.held v, [])
/-- block B is a map of at most n entries, from keys of type k to elements; z: the elements' zero value -/
def MapG (w : World) (k : TypeId) (z : Value) (B n : Nat) (f : Value → Option Value) : Prop :=
  ∃ D, w.ownsMap Try.prog k heldG B n D ∧ ∀ (x : Value) (kl : Lit), keyOf Try.prog k x = some kl → Go.Maps.has D kl = (f x).isSome ∧ D.atKey kl (.held z) = .held ((f x).getD z)
theorem MapG.made (w : World) (k : TypeId) (z : Value) : MapG (w.alloc (.map #[] 0)) k z w.heap.size 0 (fun _ => none) := ⟨.map [], World.ownsMap_made w _ _ _, fun _ _ _ => ⟨rfl, rfl⟩⟩
theorem MapG.kept {w w' : World} {k : TypeId} {z : Value} {B n : Nat} {f : Value → Option Value} {row : Option Nat} (h : MapG w k z B n f) (hg : w.grownBy w' row) (hne : some B ≠ row) : MapG w' k z B n f := by
  obtain ⟨D, h1, h2⟩ := h
  exact ⟨D, h1.kept hg hne, h2⟩
theorem MapG.lt {w : World} {k : TypeId} {z : Value} {B n : Nat} {f : Value → Option Value} (h : MapG w k z B n f) : B < w.heap.size := by
  obtain ⟨D, h1, h2⟩ := h
  exact h1.lt
theorem MapG.below {w w' : World} {k : TypeId} {z : Value} {B n M : Nat} {f : Value → Option Value} (h : MapG w k z B n f) (hb : Below M w w') (hM : B < M) : MapG w' k z B n f := by
  obtain ⟨D, ⟨es, clock, h1, h2⟩, h3⟩ := h
  exact ⟨D, ⟨es, clock, (hb.block B hM).trans h1, h2⟩, h3⟩
theorem MapG.mono {w : World} {k : TypeId} {z : Value} {B n n' : Nat} {f : Value → Option Value} (h : MapG w k z B n f) (hn : n ≤ n') : MapG w k z B n' f := by
  obtain ⟨D, h1, h2⟩ := h
  exact ⟨D, h1.mono hn, h2⟩
theorem heldG_eq {v u : Value} {ps : List MemPlace} (h : heldG v = some (.held u, ps)) : v = u := by
  have := congrArg (Option.map Prod.fst) h
  simpa [heldG] using this
/-- 'v, ok := m[x]' -/
theorem MapG.run_ok {w : World} {t k e : TypeId} {z : Value} {B n : Nat} {f : Value → Option Value} (h : MapG w k z B n f) (K : Go.Maps.Keyed Try.prog k) (ht : Try.prog.underlying t = some (.map k e)) (hz : (zeroValue e).run Try.prog w = .ok z w) {x : Value} {kl : Lit} (hx : keyOf Try.prog k x = some kl) :
    (Instr.lookup t (.map (some B)) x true).run Try.prog w = .ok (.tuple #[(f x).getD z, .bool (f x).isSome]) w := by
  obtain ⟨D, h1, h2⟩ := h
  obtain ⟨v, ps, hrun, hv⟩ := h1.look_ok K ht hz (zd := .held z) (zp := []) rfl hx
  have h3 := h2 x kl hx
  rw [h3.2] at hv
  rw [hrun, heldG_eq hv, h3.1]
/-- 'm[x]' -/
theorem MapG.run_at {w : World} {t k e : TypeId} {z : Value} {B n : Nat} {f : Value → Option Value} (h : MapG w k z B n f) (K : Go.Maps.Keyed Try.prog k) (ht : Try.prog.underlying t = some (.map k e)) (hz : (zeroValue e).run Try.prog w = .ok z w) {x : Value} {kl : Lit} (hx : keyOf Try.prog k x = some kl) :
    (Instr.lookup t (.map (some B)) x false).run Try.prog w = .ok ((f x).getD z) w := by
  obtain ⟨D, h1, h2⟩ := h
  obtain ⟨v, ps, hrun, hv⟩ := h1.lookup K ht hz (zd := .held z) (zp := []) rfl hx
  have h3 := h2 x kl hx
  rw [h3.2] at hv
  rw [hrun, heldG_eq hv]
open Classical in
noncomputable def updG (f : Value → Option Value) (x v : Value) : Value → Option Value := fun y => if y = x then some v else f y
open Classical in
noncomputable def delG (f : Value → Option Value) (x : Value) : Value → Option Value := fun y => if y = x then none else f y
theorem updG_self (f : Value → Option Value) (x v : Value) : updG f x v x = some v := if_pos rfl
theorem updG_other {f : Value → Option Value} {x y v : Value} (h : y ≠ x) : updG f x v y = f y := if_neg h
/-- 'm[x] = v' -/
theorem MapG.run_put {w : World} {t k e : TypeId} {z : Value} {B n : Nat} {f : Value → Option Value} (h : MapG w k z B n f) (K : Go.Maps.Keyed Try.prog k) (ht : Try.prog.underlying t = some (.map k e)) (hn : n < maxLen) {x : Value} {kl : Lit} (hx : keyOf Try.prog k x = some kl) (v : Value) :
    ∃ w', (Instr.mapUpdate t (.map (some B)) x v).run Try.prog w = .ok () w' ∧ MapG w' k z B (n + 1) (updG f x v) ∧ w.grownBy w' (some B) := by
  obtain ⟨D, h1, h2⟩ := h
  obtain ⟨w', hrun, r1, r2⟩ := h1.update K ht hn hx (val := v) (d := .held v) (ps := []) rfl
  refine ⟨w', hrun, ⟨_, r1, fun y yl hy => ?_⟩, r2⟩
  have hM := h1.isMap
  by_cases he : y = x
  · subst he
    rw [hx] at hy
    obtain rfl := Option.some.inj hy
    rw [Go.Maps.has_put_same hM (K.key hx), Go.Maps.atKey_put_same hM (K.key hx), updG_self]
    exact ⟨rfl, rfl⟩
  · have hne : yl ≠ kl := fun e => he (K.inj hy (e ▸ hx))
    rw [Go.Maps.has_put_other hne, Go.Maps.atKey_put_other hne, updG_other he]
    exact h2 y yl hy
/-- 'delete(m, x)' -/
theorem MapG.run_del {w : World} {t k e : TypeId} {z : Value} {B n : Nat} {f : Value → Option Value} (h : MapG w k z B n f) (K : Go.Maps.Keyed Try.prog k) (ht : Try.prog.underlying t = some (.map k e)) {x : Value} {kl : Lit} (hx : keyOf Try.prog k x = some kl) (ty : TypeId) :
    ∃ w', (Builtin.delete_ #[t, k] ty #[.map (some B), x]).run Try.prog w = .ok (.tuple #[]) w' ∧ MapG w' k z B n (delG f x) ∧ w.grownBy w' (some B) := by
  obtain ⟨D, h1, h2⟩ := h
  obtain ⟨w', hrun, r1, r2⟩ := h1.drop K ht hx ty
  refine ⟨w', hrun, ⟨_, r1, fun y yl hy => ?_⟩, r2.grown⟩
  by_cases he : y = x
  · subst he
    rw [hx] at hy
    obtain rfl := Option.some.inj hy
    rw [Go.Maps.has_del_same, Go.Maps.atKey_del_same, delG, if_pos rfl]
    exact ⟨rfl, rfl⟩
  · have hne : yl ≠ kl := fun e => he (K.inj hy (e ▸ hx))
    rw [Go.Maps.has_del_other hne, Go.Maps.atKey_del_other hne, delG, if_neg he]
    exact h2 y yl hy
section
variable {ops : Array Oper} {rest : List Oper} {o : Oper} {a : Act} {Q : Exit → Act → World → Prop} {w : World} {z : Value} {B n : Nat} {f : Value → Option Value}
theorem wpList_g_ok (hg : o.guard = none) (m x : Operand) (t : TypeId) (hop : o.op = Op.lookup t m x true) (k e : TypeId) (K : Go.Maps.Keyed Try.prog k) (ht : Try.prog.underlying t = some (.map k e)) (hz : (zeroValue e).run Try.prog w = .ok z w)
    (hm : a.eval m = .map (some B)) (h : MapG w k z B n f) (y : Value) (hx : a.eval x = y) {kl : Lit} (hy : keyOf Try.prog k y = some kl) (r : Value) (b : Bool) (hr : (f y).getD z = r) (hb : (f y).isSome = b)
    (hK : wpList Try.prog ops Q rest (a.put o.dst (.tuple #[r, .bool b])) w) : wpList Try.prog ops Q (o :: rest) a w := by
  refine wpList_plain hg fun K' hK' => ?_
  have hrun := h.run_ok K ht hz hy
  unfold Oper.wp
  simp [execOp, hop, hm, hx, hrun, Result.andThen]
  rw [hr, hb]
  exact hK' _ _ hK
theorem wpList_g_at (hg : o.guard = none) (m x : Operand) (t : TypeId) (hop : o.op = Op.lookup t m x false) (k e : TypeId) (K : Go.Maps.Keyed Try.prog k) (ht : Try.prog.underlying t = some (.map k e)) (hz : (zeroValue e).run Try.prog w = .ok z w)
    (hm : a.eval m = .map (some B)) (h : MapG w k z B n f) (y : Value) (hx : a.eval x = y) {kl : Lit} (hy : keyOf Try.prog k y = some kl) (r : Value) (hr : (f y).getD z = r)
    (hK : wpList Try.prog ops Q rest (a.put o.dst r) w) : wpList Try.prog ops Q (o :: rest) a w := by
  refine wpList_plain hg fun K' hK' => ?_
  have hrun := h.run_at K ht hz hy
  unfold Oper.wp
  simp [execOp, hop, hm, hx, hrun, Result.andThen]
  rw [hr]
  exact hK' _ _ hK
theorem wpList_g_put (hg : o.guard = none) (m x v : Operand) (t : TypeId) (hop : o.op = Op.mapUpdate t m x v ∨ o.op = Op.insert t m x v) (k e : TypeId) (K : Go.Maps.Keyed Try.prog k) (ht : Try.prog.underlying t = some (.map k e)) (hn : n < maxLen)
    (hm : a.eval m = .map (some B)) (h : MapG w k z B n f) (y u : Value) (hx : a.eval x = y) (hv : a.eval v = u) {kl : Lit} (hy : keyOf Try.prog k y = some kl)
    (hK : ∀ w', MapG w' k z B (n + 1) (updG f y u) → w.grownBy w' (some B) → wpList Try.prog ops Q rest (a.put o.dst undef) w') : wpList Try.prog ops Q (o :: rest) a w := by
  refine wpList_plain hg fun K' hK' => ?_
  obtain ⟨w', hrun, r1, r2⟩ := h.run_put K ht hn hy u
  unfold Oper.wp
  rcases hop with hop | hop
  · simp [execOp, hop, hm, hx, hv, hrun, Result.andThen]
    exact hK' _ _ (hK w' r1 r2)
  · simp [execOp, hop, hm, hx, hv, hrun, Result.andThen]
    exact hK' _ _ (hK w' r1 r2)
theorem wpList_g_del (hg : o.guard = none) (m x : Operand) (t k : TypeId) (hop : o.op = Op.call { callee := Callee.builtin Builtin.delete, args := #[m, x], argTypes := #[t, k] }) (e : TypeId) (K : Go.Maps.Keyed Try.prog k) (ht : Try.prog.underlying t = some (.map k e))
    (hm : a.eval m = .map (some B)) (h : MapG w k z B n f) (y : Value) (hx : a.eval x = y) {kl : Lit} (hy : keyOf Try.prog k y = some kl)
    (hK : ∀ w', MapG w' k z B n (delG f y) → w.grownBy w' (some B) → wpList Try.prog ops Q rest (a.put o.dst (.tuple #[])) w') : wpList Try.prog ops Q (o :: rest) a w := by
  refine wpList_plain hg fun K' hK' => ?_
  obtain ⟨w', hrun, r1, r2⟩ := h.run_del K ht hy o.type
  unfold Oper.wp
  simp [execOp, hop, resolve, invoke, builtin, hm, hx, hrun, Result.andThen]
  exact hK' _ _ (hK w' r1 r2)
end
end Go.Proofs.Ytehoaenkkmmobaa
