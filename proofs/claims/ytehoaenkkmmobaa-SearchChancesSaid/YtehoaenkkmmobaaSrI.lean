/-
  LAYER 6: CONTRACT: add. (Written by gen/gen_sri.py.)
-/
import Derived.Test.YtehoaenkkmmobaaSrH
namespace Go.Proofs.Ytehoaenkkmmobaa
open Go.RowKit Go.Shelf
/-- all blocks are as they were, some apart -/
structure Upd (ex : Nat → Prop) (w w' : World) : Prop where
  os : w'.os = w.os
  tape : w'.tape = w.tape
  output : w'.output = w.output
  size : w.heap.size ≤ w'.heap.size
  block : ∀ k, k < w.heap.size → ¬ ex k → w'.heap[k]? = w.heap[k]?
theorem Upd.refl (ex : Nat → Prop) (w : World) : Upd ex w w := ⟨rfl, rfl, rfl, Nat.le_refl _, fun _ _ _ => rfl⟩
theorem Upd.trans {ex : Nat → Prop} {a b c : World} (h : Upd ex a b) (k : Upd ex b c) : Upd ex a c :=
  ⟨k.os.trans h.os, k.tape.trans h.tape, k.output.trans h.output, Nat.le_trans h.size k.size, fun i h1 h2 => (k.block i (Nat.lt_of_lt_of_le h1 h.size) h2).trans (h.block i h1 h2)⟩
theorem Upd.of_grown {ex : Nat → Prop} {a b c : World} {row : Option Nat} (k : Upd ex a b) (h : b.grownBy c row) (he : ∀ k, row = some k → k < a.heap.size → ex k) : Upd ex a c :=
  ⟨h.os.trans k.os, h.tape.trans k.tape, h.output.trans k.output, Nat.le_trans k.size h.size, fun i h1 h2 => (h.block i (Nat.lt_of_lt_of_le h1 k.size) (fun e => h2 (he i e.symm h1))).trans (k.block i h1 h2)⟩
theorem Upd.of_below {ex : Nat → Prop} {a b : World} (h : Below a.heap.size a b) : Upd ex a b := ⟨h.os, h.tape, h.output, h.size, fun k h1 _ => h.block k h1⟩
theorem Upd.below {ex : Nat → Prop} {a b : World} {M : Nat} (h : Upd ex a b) (hM : M ≤ a.heap.size) (he : ∀ k, ex k → M ≤ k) : Below M a b := ⟨h.os, h.tape, h.output, h.size, fun k hk => h.block k (by omega) (fun e => by have := he k e; omega)⟩
theorem Upd.cell {ex : Nat → Prop} {a b : World} (h : Upd ex a b) {p : Addr} {v : Value} (hp : a.cell? p = some v) (he : ¬ ex p.block) : b.cell? p = some v := by
  have hlt : p.block < a.heap.size := by
    rcases Nat.lt_or_ge p.block a.heap.size with h' | h'
    · exact h'
    · simp [World.cell?, Array.getElem?_eq_none h'] at hp
  exact (World.cell?_of_block (h.block _ hlt he)).trans hp
/-- the player's row -/
def PlAt (w : World) (P : Nat) (cs : Array Value) : Prop := w.heap[P]? = some (.cells cs 105 (0, 0))
theorem PlAt.kept {w w' : World} {P : Nat} {cs : Array Value} {row : Option Nat} (h : PlAt w P cs) (hg : w.grownBy w' row) (hne : some P ≠ row) : PlAt w' P cs := (hg.block P (row_lt' h) hne).trans h
theorem PlAt.ne_link {w : World} {P g : Nat} {cs : Array Value} {F : Nat → Value} {n : Nat} (h : PlAt w P cs) (h2 : RowAt w g 71 F n) : P ≠ g := by
  rintro rfl
  rw [PlAt, h2] at h
  injection h with h
  injection h with _ h
  exact absurd h (by decide)
theorem MapG.block {w : World} {k : TypeId} {z : Value} {B n : Nat} {f : Value → Option Value} (h : MapG w k z B n f) : ∃ es c, w.heap[B]? = some (.map es c) := by
  obtain ⟨D, ⟨es, c, h1, _⟩, _⟩ := h
  exact ⟨es, c, h1⟩
theorem PlAt.ne_map {w : World} {P B n : Nat} {cs : Array Value} {k : TypeId} {z : Value} {f : Value → Option Value} (h : PlAt w P cs) (h2 : MapG w k z B n f) : P ≠ B := by
  rintro rfl
  obtain ⟨es, c, e⟩ := h2.block
  rw [PlAt, e] at h
  cases h
theorem LRow.ne_map {w : World} {base B n : Nat} {v : Value} {zs : List Lk} {k : TypeId} {z : Value} {f : Value → Option Value} (h : LRow w base v zs) (h2 : MapG w k z B n f) : v.ownBlock ≠ some B := by
  rcases h with ⟨rfl, -⟩ | ⟨g, off, c, m, F, rfl, -, -, h3, -⟩
  · simp [Value.ownBlock]
  · intro e
    simp [Value.ownBlock] at e
    subst e
    obtain ⟨es, c, e⟩ := h2.block
    rw [RowAt, e] at h3
    cases h3
theorem LRow.ne_pl {w : World} {base P : Nat} {v : Value} {zs : List Lk} {cs : Array Value} (h : LRow w base v zs) (h2 : PlAt w P cs) : v.ownBlock ≠ some P := by
  rcases h with ⟨rfl, -⟩ | ⟨g, off, c, m, F, rfl, -, -, h3, -⟩
  · simp [Value.ownBlock]
  · intro e
    simp [Value.ownBlock] at e
    subst e
    exact h2.ne_link h3 rfl
/-- what is kept while add goes on -/
structure AddS (base P : Nat) (cs : Array Value) (B n : Nat) (f : Value → Option Value) (gb : Nat) (l : Lk) (ex : Nat → Prop) (vL : Value) (w w' : World) (v : Value) (zs : List Lk) : Prop where
  row : LRow w' base v zs
  pl : PlAt w' P cs
  set_ : MapG w' 71 (.bool false) B n f
  c0 : w'.cell? ⟨gb, 0, none⟩ = some (I l.1)
  c1 : w'.cell? ⟨gb, 1, none⟩ = some (I l.2)
  upd : Upd ex w w'
  own : ∀ k, v.ownBlock = some k → vL.ownBlock = some k ∨ w.heap.size ≤ k
  gbw : w.heap.size ≤ gb
  gbr : v.ownBlock ≠ some gb
  gbP : gb ≠ P
  bw : base ≤ w.heap.size
theorem cell_lt {w : World} {a : Addr} {v : Value} (h : w.cell? a = some v) : a.block < w.heap.size := by
  rcases Nat.lt_or_ge a.block w.heap.size with h' | h'
  · exact h'
  · simp [World.cell?, Array.getElem?_eq_none h'] at h
section
variable {base P B n gb : Nat} {cs : Array Value} {f : Value → Option Value} {l : Lk} {ex : Nat → Prop} {vL v : Value} {w w' w2 : World} {zs : List Lk}
theorem AddS.call (h : AddS base P cs B n f gb l ex vL w w' v zs) {M : Nat} (hb : Below M w' w2) (hM : w'.heap.size ≤ M) : AddS base P cs B n f gb l ex vL w w2 v zs where
  row := h.row.call (hb.mono hM)
  pl := (hb.block P (by have := row_lt' h.pl; omega)).trans h.pl
  set_ := h.set_.below hb (by have := h.set_.lt; omega)
  c0 := (hb.cell (by have := cell_lt h.c0; omega)).trans h.c0
  c1 := (hb.cell (by have := cell_lt h.c1; omega)).trans h.c1
  upd := h.upd.trans (.of_below (hb.mono hM))
  own := h.own
  gbw := h.gbw
  gbr := h.gbr
  gbP := h.gbP
  bw := h.bw
theorem AddS.base_le (h : AddS base P cs B n f gb l ex vL w w' v zs) : base ≤ w'.heap.size := Nat.le_trans h.bw h.upd.size
theorem AddS.append (h : AddS base P cs B n f gb l ex vL w w' v zs) (hex : ∀ k, vL.ownBlock = some k → ex k) {v' : Value} {zs' : List Lk} (h1 : LRow w2 base v' zs') (hg : w'.grownBy w2 v.ownBlock) (ho : v'.ownBlock = v.ownBlock ∨ v'.ownBlock = some w'.heap.size) : AddS base P cs B n f gb l ex vL w w2 v' zs' where
  row := h1
  pl := h.pl.kept hg (fun e => h.row.ne_pl h.pl e.symm)
  set_ := h.set_.kept hg (fun e => h.row.ne_map h.set_ e.symm)
  c0 := hg.cell h.c0 (fun e => h.gbr e.symm)
  c1 := hg.cell h.c1 (fun e => h.gbr e.symm)
  upd := h.upd.of_grown hg (fun k e hk => by
    rcases h.own k e with h' | h'
    · exact hex k h'
    · omega)
  own := fun k e => by
    rcases ho with h' | h'
    · exact h.own k (h' ▸ e)
    · rw [h'] at e; injection e with e; subst e; exact .inr h.upd.size
  gbw := h.gbw
  gbr := by
    rcases ho with h' | h'
    · rw [h']; exact h.gbr
    · rw [h']; intro e; injection e with e; have := cell_lt h.c0; simp only at this; omega
  gbP := h.gbP
  bw := h.bw
theorem AddS.setPl (h : AddS base P cs B n f gb l ex vL w w' v zs) (hex : ex P) (i : Nat) (u : Value) : AddS base P (cs.setIfInBounds i u) B n f gb l ex vL w (w'.setCell ⟨P, i, none⟩ u) v zs := by
  have hg := grown_setCell w' ⟨P, i, none⟩ u
  exact {
    row := h.row.kept hg (.inr (h.row.ne_pl h.pl))
    pl := row_set h.pl i u
    set_ := h.set_.kept hg (fun e => h.pl.ne_map h.set_ (by injection e with e; exact e.symm))
    c0 := hg.cell h.c0 (fun e => h.gbP (by injection e))
    c1 := hg.cell h.c1 (fun e => h.gbP (by injection e))
    upd := h.upd.of_grown hg (fun k e _ => by injection e with e; subst e; exact hex)
    own := h.own
    gbw := h.gbw
    gbr := h.gbr
    gbP := h.gbP
    bw := h.bw }
theorem AddS.setMap (h : AddS base P cs B n f gb l ex vL w w' v zs) (hex : ex B) {n' : Nat} {f' : Value → Option Value} (hm : MapG w2 71 (.bool false) B n' f') (hg : w'.grownBy w2 (some B)) : AddS base P cs B n' f' gb l ex vL w w2 v zs where
  row := h.row.kept hg (.inr (h.row.ne_map h.set_))
  pl := h.pl.kept hg (fun e => h.pl.ne_map h.set_ (by injection e))
  set_ := hm
  c0 := hg.cell h.c0 (fun e => cell_not_map h.set_.block h.c0 (by injection e))
  c1 := hg.cell h.c1 (fun e => cell_not_map h.set_.block h.c1 (by injection e))
  upd := h.upd.of_grown hg (fun k e _ => by injection e with e; subst e; exact hex)
  own := h.own
  gbw := h.gbw
  gbr := h.gbr
  gbP := h.gbP
  bw := h.bw
theorem AddS.cell (h : AddS base P cs B n f gb l ex vL w w' v zs) {i : Nat} {u : Value} (hi : cs[i]? = some u) : w'.cell? ⟨P, i, none⟩ = some u ∧ w'.frozen? ⟨P, i, none⟩ = false :=
  ⟨(cell_of_row w' P i _ _ _ h.pl).trans hi, frozen_of_row h.pl i⟩
end
theorem wpOp_st {P : Program} {ops : Array Oper} {Q : Exit → Act → World → Prop} {i : Nat} {o : Oper} {K : Act → World → Prop} {a : Act} {w : World} (w2 : World) (ho : ops[i]? = some o) (hw : Region.wanted o (yielded ops a.tmps) = true) (hv : (execOp a.eval o).run P w = .ok .skip w2)
    (h : K (a.put o.dst undef) w2) : wpOp P ops Q i K a w := by
  unfold wpOp
  simp only [ho]
  rw [if_pos hw]
  unfold Oper.wp
  rw [hv]
  exact .inl h
section
variable {o : Oper} {a : Act} {K : Act → World → Prop} {Q : Exit → Act → World → Prop} {w : World} {z : Value} {B n : Nat} {f : Value → Option Value}
theorem wp_g_put (m x v : Operand) (t : TypeId) (hop : o.op = Op.mapUpdate t m x v) (k e : TypeId) (KK : Go.Maps.Keyed Try.prog k) (ht : Try.prog.underlying t = some (.map k e)) (hn : n < maxLen)
    (hm : a.eval m = .map (some B)) (h : MapG w k z B n f) (y u : Value) (hx : a.eval x = y) (hv : a.eval v = u) {kl : Lit} (hy : keyOf Try.prog k y = some kl)
    (hK : ∀ w', MapG w' k z B (n + 1) (updG f y u) → w.grownBy w' (some B) → K (a.put o.dst undef) w') : o.wp Try.prog a w K Q := by
  obtain ⟨w', hrun, r1, r2⟩ := h.run_put KK ht hn hy u
  unfold Oper.wp
  simp [execOp, hop, hm, hx, hv, hrun, Result.andThen]
  exact hK w' r1 r2
theorem wp_g_del (m x : Operand) (t k : TypeId) (hop : o.op = Op.call { callee := Callee.builtin Builtin.delete, args := #[m, x], argTypes := #[t, k] }) (e : TypeId) (KK : Go.Maps.Keyed Try.prog k) (ht : Try.prog.underlying t = some (.map k e))
    (hm : a.eval m = .map (some B)) (h : MapG w k z B n f) (y : Value) (hx : a.eval x = y) {kl : Lit} (hy : keyOf Try.prog k y = some kl)
    (hK : ∀ w', MapG w' k z B n (delG f y) → w.grownBy w' (some B) → K (a.put o.dst (.tuple #[])) w') : o.wp Try.prog a w K Q := by
  obtain ⟨w', hrun, r1, r2⟩ := h.run_del KK ht hy o.type
  unfold Oper.wp
  simp [execOp, hop, resolve, invoke, builtin, hm, hx, hrun, Result.andThen]
  exact hK w' r1 r2
end
theorem LRow.slice {w : World} {base : Nat} {v : Value} {zs : List Lk} (h : LRow w base v zs) : ∃ A n c, v = .slice A n c := by
  rcases h with ⟨rfl, -⟩ | ⟨g, off, c, m, F, rfl, -⟩
  · exact ⟨_, _, _, rfl⟩
  · exact ⟨_, _, _, rfl⟩
/-- one link of the call's own -/
def OneL (w : World) (base : Nat) (v : Value) (l : Lk) : Prop := ∃ blk, v = .slice (some ⟨blk, 0, none⟩) 1 1 ∧ base ≤ blk ∧ w.cell? ⟨blk, 0, none⟩ = some (I l.1) ∧ w.cell? ⟨blk, 1, none⟩ = some (I l.2) ∧ blk < w.heap.size
theorem OneL.call {w w' : World} {base : Nat} {v : Value} {l : Lk} (h : OneL w base v l) (hb : Below w.heap.size w w') : OneL w' base v l := by
  obtain ⟨blk, h1, h2, h3, h4, h5⟩ := h
  exact ⟨blk, h1, h2, (hb.cell (p := ⟨blk, 0, none⟩) h5).trans h3, (hb.cell (p := ⟨blk, 1, none⟩) h5).trans h4, Nat.lt_of_lt_of_le h5 hb.size⟩
theorem wp_append_lk {o : Oper} {a : Act} {K : Act → World → Prop} {Q : Exit → Act → World → Prop} {w : World} (s x : Operand) (ho : o.op = .call { callee := .builtin .append, args := #[s, x], argTypes := #[101, 101] })
    {base : Nat} {v : Value} {zs : List Lk} (hs : a.eval s = v) (h : LRow w base v zs) (blk c' : Nat) (l : Lk) (hx : a.eval x = .slice (some ⟨blk, 0, none⟩) 1 c') (hx0 : w.cell? ⟨blk, 0, none⟩ = some (I l.1)) (hx1 : w.cell? ⟨blk, 1, none⟩ = some (I l.2)) (hl : zs.length ≤ 1000000) (hbase : base ≤ w.heap.size)
    (hK : ∀ v' w', LRow w' base v' (zs ++ [l]) → w.grownBy w' v.ownBlock → (v'.ownBlock = v.ownBlock ∨ v'.ownBlock = some w.heap.size) → K (a.put o.dst v') w') : o.wp Try.prog a w K Q := by
  obtain ⟨v', w', hr, h2, h3, h4⟩ := run_append_lk h o.type blk c' l hx0 hx1 hl hbase
  unfold Oper.wp execOp
  simp only [ho, resolve, invoke, builtin, Sem.run_bind, Sem.run_pure, Result.andThen_ok, List.map_toArray, List.map_cons, List.map_nil, hs, hx, hr]
  exact hK _ _ h2 h3 h4
theorem plC_set6 (vP : Value) (AE AD : Option Addr) (nE cE nD cD : Nat) (mo tu : Int) (at_ : Nat) (vL : Value) (B : Nat) (vB : Value) (lost : Bool) (vT u : Value) : (plC vP AE AD nE cE nD cD mo tu at_ vL B vB lost vT).setIfInBounds 6 u = plC vP AE AD nE cE nD cD mo tu at_ u B vB lost vT := rfl
theorem lk_inj {a b : Lk} (h : lkV a = lkV b) : a = b := by
  obtain ⟨a1, a2⟩ := a
  obtain ⟨b1, b2⟩ := b
  simp only [lkV, Value.agg.injEq, Array.mk.injEq, List.cons.injEq, Value.int.injEq, true_and, and_true] at h
  ext <;> simp only <;> omega
theorem mem_put {mem : List Lk} {l x : Lk} : (mem.filter (fun x => !(x == l)) ++ [l]).contains x = (mem.contains x || x == l) := by
  rw [Bool.eq_iff_iff]
  simp
  by_cases e : x = l <;> simp [e]
theorem lnk_put {f : Value → Option Value} {mem : List Lk} (l : Lk) (h : ∀ p e : Nat, f (lkV (p, e)) = if mem.contains (p, e) = true then some (.bool true) else none) : ∀ p e : Nat, updG f (lkV l) (.bool true) (lkV (p, e)) = if (mem.filter (fun x => !(x == l)) ++ [l]).contains (p, e) = true then some (.bool true) else none := fun p e => by
  rw [mem_put]
  by_cases q : (p, e) = l
  · rw [← q, updG_self]; simp
  · rw [updG_other (fun e' => q (lk_inj e')), h p e]
    have : ((p, e) == l) = false := by simpa using q
    rw [this, Bool.or_false]
theorem lnk_del {f : Value → Option Value} {x : Lk} {t : List Lk} (hn : (x :: t).Nodup) (h : ∀ p e : Nat, f (lkV (p, e)) = if (x :: t).contains (p, e) = true then some (.bool true) else none) : ∀ p e : Nat, delG f (lkV x) (lkV (p, e)) = if t.contains (p, e) = true then some (.bool true) else none := fun p e => by
  by_cases q : (p, e) = x
  · have h1 : t.contains (p, e) = false := by
      rw [q]
      cases e' : t.contains x with
      | false => rfl
      | true => exact absurd (List.contains_iff_mem.1 e') (List.nodup_cons.1 hn).1
    rw [h1, q, delG, if_pos rfl]; simp
  · rw [delG, if_neg (fun e' => q (lk_inj e')), h p e]
    have : ((p, e) == x) = false := by simpa using q
    rw [List.contains_cons, this, Bool.false_or]
theorem nodup_put {mem : List Lk} (l : Lk) (h : mem.Nodup) : (mem.filter (fun x => !(x == l)) ++ [l]).Nodup := by
  rw [List.nodup_append]
  refine ⟨h.filter _, by simp, fun a ha b hb e => ?_⟩
  simp at ha hb
  exact ha.2 (e.trans hb)
theorem LRow.len {w : World} {base : Nat} {v : Value} {zs : List Lk} (h : LRow w base v zs) : ∃ A c, v = .slice A zs.length c := by
  rcases h with ⟨rfl, rfl⟩ | ⟨g, off, c, m, F, rfl, -⟩
  · exact ⟨_, _, rfl⟩
  · exact ⟨_, _, rfl⟩
theorem LRow.cons {w : World} {base : Nat} {v : Value} {x : Lk} {t : List Lk} (h : LRow w base v (x :: t)) : ∃ g off c, v = .slice (some ⟨g, off, none⟩) (t.length + 1) c ∧ t.length + 1 ≤ c ∧ base ≤ g ∧ g < w.heap.size ∧ w.cell? ⟨g, off, none⟩ = some (I x.1) ∧ w.cell? ⟨g, off + 1, none⟩ = some (I x.2) ∧ LRow w base (.slice (some ⟨g, off + 2, none⟩) t.length (c - 1)) t := by
  rcases h with ⟨-, h⟩ | ⟨g, off, c, m, F, rfl, h1, h2, h3, h4, h5, h6⟩
  · cases h
  · have h5' : t.length + 1 ≤ c := by simpa using h5
    obtain ⟨e0, e1⟩ := h6 0 (by simp)
    simp at e0 e1
    refine ⟨g, off, c, rfl, h5', h2, h3.lt, (h3.at_ (by omega)).trans (by rw [e0]), (h3.at_ (by omega)).trans (by rw [e1]), .inr ⟨g, off + 2, c - 1, m, F, rfl, by omega, h2, h3, by omega, by omega, fun j hj => ?_⟩⟩
    have hj' : j < t.length := by simpa using hj
    obtain ⟨e2, e3⟩ := h6 (j + 1) (by simpa using hj')
    have e4 : (x :: t).toArray[j + 1]! = t.toArray[j]! := by rw [getElem!_pos _ _ (by simpa using hj'), getElem!_pos _ _ (by simpa using hj')]; simp
    rw [e4] at e2 e3
    exact ⟨by rw [← e2]; congr 1; omega, by rw [← e3]; congr 1; omega⟩
theorem LRow.none_ {w : World} {base g off n c : Nat} {zs : List Lk} (h : LRow w base (.slice (some ⟨g, off, none⟩) n c) zs) : LRow w base (.slice (some ⟨g, off, none⟩) ([] : List Lk).length 0) [] := by
  rcases h with ⟨h, -⟩ | ⟨g', off', c', m, F, e, h1, h2, h3, h4, h5, h6⟩
  · cases h
  · injection e with e _ e4
    injection e with e
    injection e with e5 e6 _
    subst e4 e5 e6
    exact .inr ⟨_, _, 0, m, F, rfl, Nat.zero_le _, h2, h3, by omega, Nat.le_refl _, fun j hj => absurd hj (by simp)⟩
theorem fil_eq {mem : List Lk} {l : Lk} (h : mem.contains l = false) : (mem.filter fun x => !(x == l)) = mem := by
  rw [List.filter_eq_self]
  intro x hx
  cases e : x == l with
  | false => rfl
  | true =>
    have e' : x = l := by simpa using e
    subst e'
    rw [List.contains_iff_mem.2 hx] at h
    cases h
set_option maxRecDepth 100000 in
set_option maxHeartbeats 4000000 in
theorem add_any (base P : Nat) (vP : Value) (AE AD : Option Addr) (nE cE nD cD : Nat) (mo tu : Int) (at_ : Nat) (vL vB vT : Value) (lost : Bool) (B n most : Nat) (mem : List Lk) (l : Lk) (w : World)
    (hP : PlAt w P (plC vP AE AD nE cE nD cD mo tu at_ vL B vB lost vT)) (hL : LRow w base vL mem) (hS : LnkR w B n mem) (hb : base ≤ w.heap.size) (hnd : mem.Nodup) (hml : mem.length ≤ 300) (hn : n ≤ 100000) (_hmo : most ≤ 200) (hl1 : l.1 ≤ 1000) (hl2 : l.2 ≤ 1000) (hbd : ∀ q ∈ mem, q.1 ≤ 1000 ∧ q.2 ≤ 1000) :
    Calls Try.prog 101 #[.pointer (some ⟨P, 6, none⟩), lkV l, I most] w fun e w' => e = .returned (.tuple #[]) ∧ ∃ vL', PlAt w' P (plC vP AE AD nE cE nD cD mo tu at_ vL' B vB lost vT) ∧ LRow w' base vL' (addM most mem l) ∧ LnkR w' B (n + 1) (addM most mem l) ∧ Upd (fun k => k = P ∨ k = B ∨ vL.ownBlock = some k) w w' ∧ (∀ k, vL'.ownBlock = some k → vL.ownBlock = some k ∨ w.heap.size ≤ k) := by
  obtain ⟨w1, hw1, hs1, y0, hb1⟩ := one_box w (.cells #[I l.1, I l.2] 71)
  have hP1 : PlAt w1 P _ := (hb1.block P (row_lt' hP)).trans hP
  have s0 : w.heap.size < w1.heap.size := by omega
  have sP : P < w1.heap.size := by have := row_lt' hP; omega
  have b0 : w1.cell? ⟨w.heap.size, 0, none⟩ = some (I l.1) := cell_of_row w1 _ 0 _ _ _ y0
  have b1 : w1.cell? ⟨w.heap.size, 1, none⟩ = some (I l.2) := cell_of_row w1 _ 1 _ _ _ y0
  have b7 : w1.cell? ⟨P, 7, none⟩ = some (.map (some B)) := cell_of_row w1 _ 7 _ _ _ hP1
  have hS1 := hS.below hb1 hS.lt
  have hky := keyAtL l.1 l.2 hl1 hl2
  obtain ⟨f, hf1, hf2⟩ := hS1
  obtain ⟨c, hc⟩ : ∃ c, c = mem.contains l := ⟨_, rfl⟩
  have hr : (f (lkV l)).getD (.bool false) = .bool c := by rw [hf2 l.1 l.2, hc]; cases mem.contains l <;> rfl
  have hlook : ∀ k, (Instr.lookup 100 (.map (some B)) (lkV l) false).run Try.prog (w1.drewN k) = .ok (.bool c) (w1.drewN k) := fun k => by
    rw [← hr]
    exact MapG.run_at (hf1.below (below_drewN (Below.refl w1.heap.size w1) k) (hf1.lt)) lk_keyed Try.underlying100 (zeroB _) hky
  have hA1 : AddS base P (plC vP AE AD nE cE nD cD mo tu at_ vL B vB lost vT) B n f w.heap.size l (fun k => k = P ∨ k = B ∨ vL.ownBlock = some k) vL w w1 vL mem :=
    { row := hL.call hb1, pl := hP1, set_ := hf1, c0 := b0, c1 := b1, upd := .of_below hb1, own := fun k e => .inl e, gbw := Nat.le_refl _, gbr := fun e => by have := (hL.lt _ e).2; omega, gbP := fun e => by have := row_lt' hP; omega, bw := hb }
  have HA1 := Lib.hid hA1
  have HBD := Lib.hid hbd
  have HC := Lib.hid hc
  have HF2 := Lib.hid hf2
  have hZ : (mem.filter fun x => !(x == l)).length ≤ 1000000 := Nat.le_trans (List.length_filter_le _ _) (by omega)
  clear hP1 y0 hP hL hS hf1 hf2 hc hA1 hbd
  go_enter Try.func101, Try.ntmps101
  go_upto_region 1 with fail
  rw [← hw1]
  clear hw1
  go_quiet (fail)
  obtain ⟨wq, hwq⟩ : ∃ wq, wq = w1.drewN nq := ⟨_, rfl⟩
  rw [← hwq]
  have hAq := Lib.hid (HA1.out.call (M := w1.heap.size) (w2 := wq) (by rw [hwq]; exact below_drewN (Below.refl _ _) _) (Nat.le_refl _))
  clear hwq HA1 hlook b0 b1 b7 hb1
  cases hcq : c
  · have HZ := Lib.hid (fil_eq (by rw [← HC.out]; exact hcq))
    subst hcq
    go_upto_region 3 with fail
    obtain ⟨wt, hwt⟩ : ∃ wt, wt = wq := ⟨_, rfl⟩
    rw [← hwt]
    have hAt := hAq.out
    rw [← hwt] at hAt
    obtain ⟨v2, hv2⟩ : ∃ v2, v2 = vL := ⟨_, rfl⟩
    have HT := Lib.hid (show AddS base P (plC vP AE AD nE cE nD cD mo tu at_ v2 B vB lost vT) B n f w.heap.size l (fun k => k = P ∨ k = B ∨ vL.ownBlock = some k) vL w wt v2 (mem.filter fun x => !(x == l)) by rw [HZ.out, hv2]; exact hAt)
    clear hAt hwt hAq hv2 HZ
    have hAt := HT.out
    have t6 : wt.cell? ⟨P, 6, none⟩ = some v2 := (hAt.cell (i := 6) rfl).1
    have t0 := hAt.c0
    have t1 := hAt.c1
    have sPt := row_lt' hAt.pl
    have sBt := cell_lt hAt.c0
    refine wp_region_inv (by kernel_rfl) (fun L a w' => L.size = 11 ∧ ∃ u21 u22 u23 u24 u25 u26 u27 u28 u29 u30 : Value, a = { tmps := #[.pointer (some ⟨P, 6, none⟩), lkV l, I most, undef, .pointer (some ⟨w.heap.size, 0, none⟩), undef, .pointer (some ⟨P, 6, none⟩), .pointer (some ⟨P, 6, none⟩), .pointer (some ⟨P, 7, none⟩), .map (some B), lkV l, .bool false, undef, undef, undef, undef, undef, undef, undef, undef, undef, u21, u22, u23, u24, u25, u26, u27, u28, u29, u30, undef, undef, undef, undef, undef, undef, undef, undef, undef, undef, undef, undef, undef, undef, undef, undef, undef, undef, undef, undef, undef, undef, undef, undef, undef, undef, undef, undef, undef, undef], defers := [] } ∧ (L.getD 7 false = false → Below wt.heap.size wt w') ∧ (L.getD 0 false = true → u21 = .pointer (some ⟨P, 6, none⟩)) ∧ (L.getD 1 false = true → u22 = .pointer (some ⟨P, 6, none⟩)) ∧ (L.getD 2 false = true → u23 = .pointer (some ⟨P, 6, none⟩)) ∧ (L.getD 3 false = true → u24 = .pointer (some ⟨P, 6, none⟩)) ∧ (L.getD 4 false = true → u25 = v2) ∧ (L.getD 5 false = true → u26 = lkV l) ∧ (L.getD 6 false = true → L.getD 5 false = true ∧ (L.getD 7 false = false → OneL w' wt.heap.size u27 l)) ∧ (L.getD 7 false = true → (∀ d, d ∈ ([4, 5, 6] : List Nat) → L.getD d false = true) ∧ (L.getD 10 false = false → AddS base P (plC vP AE AD nE cE nD cD mo tu at_ v2 B vB lost vT) B n f w.heap.size l (fun k => k = P ∨ k = B ∨ vL.ownBlock = some k) vL w w' u28 ((mem.filter fun x => !(x == l)) ++ [l]))) ∧ (L.getD 8 false = true → u29 = .pointer (some ⟨P, 6, none⟩)) ∧ (L.getD 9 false = true → u30 = .pointer (some ⟨P, 6, none⟩)) ∧ (L.getD 10 false = true → L.getD 7 false = true ∧ ∃ v', AddS base P (plC vP AE AD nE cE nD cD mo tu at_ v' B vB lost vT) B n f w.heap.size l (fun k => k = P ∨ k = B ∨ vL.ownBlock = some k) vL w w' v' ((mem.filter fun x => !(x == l)) ++ [l]))) ?_ ?_ ?_
    · exact ⟨by simp, _, _, _, _, _, _, _, _, _, _, rfl, fun _ => (Below.refl _ _).drew, by simp, by simp, by simp, by simp, by simp, by simp, by simp, by simp, by simp, by simp, by simp⟩
    · rintro i L a w' ⟨hL, u21, u22, u23, u24, u25, u26, u27, u28, u29, u30, rfl, hbw, h0, h1, h2, h3, h4, h5, h6, h7, h8, h9, h10⟩ hi
      have hcases : i = 0 ∨ i = 1 ∨ i = 2 ∨ i = 3 ∨ i = 4 ∨ i = 5 ∨ i = 6 ∨ i = 7 ∨ i = 8 ∨ i = 9 ∨ i = 10 := by
        have : i < 11 := ready_lt hi
        omega
      have hni := ready_not' hi (by rw [hL]; exact ready_lt hi)
      rcases hcases with rfl | rfl | rfl | rfl | rfl | rfl | rfl | rfl | rfl | rfl | rfl
      · refine wpOp_val (.pointer (some ⟨P, 6, none⟩)) rfl (by rfl) (by go_simp) ?_
        exact ⟨by simpa using hL, _, _, _, _, _, _, _, _, _, _, rfl, fun h' => hbw ((set_other (by decide)).symm.trans h'), fun _ => rfl, (fun h => (h1 ((set_other (by decide)).symm.trans h))), (fun h => (h2 ((set_other (by decide)).symm.trans h))), (fun h => (h3 ((set_other (by decide)).symm.trans h))), (fun h => (h4 ((set_other (by decide)).symm.trans h))), (fun h => (h5 ((set_other (by decide)).symm.trans h))), (fun h => ⟨set_keep (h6 ((set_other (by decide)).symm.trans h)).1, fun h' => (h6 ((set_other (by decide)).symm.trans h)).2 ((set_other (by decide)).symm.trans h')⟩), (fun h => ⟨fun d hd => set_keep ((h7 ((set_other (by decide)).symm.trans h)).1 d hd), fun h' => (h7 ((set_other (by decide)).symm.trans h)).2 ((set_other (by decide)).symm.trans h')⟩), (fun h => (h8 ((set_other (by decide)).symm.trans h))), (fun h => (h9 ((set_other (by decide)).symm.trans h))), (fun h => ⟨set_keep (h10 ((set_other (by decide)).symm.trans h)).1, (h10 ((set_other (by decide)).symm.trans h)).2⟩)⟩
      · refine wpOp_val (.pointer (some ⟨P, 6, none⟩)) rfl (by rfl) (by go_simp) ?_
        exact ⟨by simpa using hL, _, _, _, _, _, _, _, _, _, _, rfl, fun h' => hbw ((set_other (by decide)).symm.trans h'), (fun h => (h0 ((set_other (by decide)).symm.trans h))), fun _ => rfl, (fun h => (h2 ((set_other (by decide)).symm.trans h))), (fun h => (h3 ((set_other (by decide)).symm.trans h))), (fun h => (h4 ((set_other (by decide)).symm.trans h))), (fun h => (h5 ((set_other (by decide)).symm.trans h))), (fun h => ⟨set_keep (h6 ((set_other (by decide)).symm.trans h)).1, fun h' => (h6 ((set_other (by decide)).symm.trans h)).2 ((set_other (by decide)).symm.trans h')⟩), (fun h => ⟨fun d hd => set_keep ((h7 ((set_other (by decide)).symm.trans h)).1 d hd), fun h' => (h7 ((set_other (by decide)).symm.trans h)).2 ((set_other (by decide)).symm.trans h')⟩), (fun h => (h8 ((set_other (by decide)).symm.trans h))), (fun h => (h9 ((set_other (by decide)).symm.trans h))), (fun h => ⟨set_keep (h10 ((set_other (by decide)).symm.trans h)).1, (h10 ((set_other (by decide)).symm.trans h)).2⟩)⟩
      · obtain rfl := h1 (ready_dep hi 1 (by kernel_rfl))
        refine wpOp_val (.pointer (some ⟨P, 6, none⟩)) rfl (by rfl) (by go_simp) ?_
        exact ⟨by simpa using hL, _, _, _, _, _, _, _, _, _, _, rfl, fun h' => hbw ((set_other (by decide)).symm.trans h'), (fun h => (h0 ((set_other (by decide)).symm.trans h))), (fun h => (h1 ((set_other (by decide)).symm.trans h))), fun _ => rfl, (fun h => (h3 ((set_other (by decide)).symm.trans h))), (fun h => (h4 ((set_other (by decide)).symm.trans h))), (fun h => (h5 ((set_other (by decide)).symm.trans h))), (fun h => ⟨set_keep (h6 ((set_other (by decide)).symm.trans h)).1, fun h' => (h6 ((set_other (by decide)).symm.trans h)).2 ((set_other (by decide)).symm.trans h')⟩), (fun h => ⟨fun d hd => set_keep ((h7 ((set_other (by decide)).symm.trans h)).1 d hd), fun h' => (h7 ((set_other (by decide)).symm.trans h)).2 ((set_other (by decide)).symm.trans h')⟩), (fun h => (h8 ((set_other (by decide)).symm.trans h))), (fun h => (h9 ((set_other (by decide)).symm.trans h))), (fun h => ⟨set_keep (h10 ((set_other (by decide)).symm.trans h)).1, (h10 ((set_other (by decide)).symm.trans h)).2⟩)⟩
      · obtain rfl := h2 (ready_dep hi 2 (by kernel_rfl))
        refine wpOp_val (.pointer (some ⟨P, 6, none⟩)) rfl (by rfl) (by go_simp) ?_
        exact ⟨by simpa using hL, _, _, _, _, _, _, _, _, _, _, rfl, fun h' => hbw ((set_other (by decide)).symm.trans h'), (fun h => (h0 ((set_other (by decide)).symm.trans h))), (fun h => (h1 ((set_other (by decide)).symm.trans h))), (fun h => (h2 ((set_other (by decide)).symm.trans h))), fun _ => rfl, (fun h => (h4 ((set_other (by decide)).symm.trans h))), (fun h => (h5 ((set_other (by decide)).symm.trans h))), (fun h => ⟨set_keep (h6 ((set_other (by decide)).symm.trans h)).1, fun h' => (h6 ((set_other (by decide)).symm.trans h)).2 ((set_other (by decide)).symm.trans h')⟩), (fun h => ⟨fun d hd => set_keep ((h7 ((set_other (by decide)).symm.trans h)).1 d hd), fun h' => (h7 ((set_other (by decide)).symm.trans h)).2 ((set_other (by decide)).symm.trans h')⟩), (fun h => (h8 ((set_other (by decide)).symm.trans h))), (fun h => (h9 ((set_other (by decide)).symm.trans h))), (fun h => ⟨set_keep (h10 ((set_other (by decide)).symm.trans h)).1, (h10 ((set_other (by decide)).symm.trans h)).2⟩)⟩
      · obtain rfl := h3 (ready_dep hi 3 (by kernel_rfl))
        have hk0 : L.getD 7 false = false := by
          cases hq : L.getD 7 false with
          | false => rfl
          | true => exact absurd ((h7 hq).1 4 (by decide)) (by rw [hni]; simp)
        have hb' := hbw hk0
        have hc' := bcellS hb'
        have hsz : wt.heap.size ≤ w'.heap.size := hb'.size
        refine wpOp_val (v2) rfl (by rfl) (by go_simp) ?_
        exact ⟨by simpa using hL, _, _, _, _, _, _, _, _, _, _, rfl, fun h' => hbw ((set_other (by decide)).symm.trans h'), (fun h => (h0 ((set_other (by decide)).symm.trans h))), (fun h => (h1 ((set_other (by decide)).symm.trans h))), (fun h => (h2 ((set_other (by decide)).symm.trans h))), (fun h => (h3 ((set_other (by decide)).symm.trans h))), fun _ => rfl, (fun h => (h5 ((set_other (by decide)).symm.trans h))), (fun h => ⟨set_keep (h6 ((set_other (by decide)).symm.trans h)).1, fun h' => (h6 ((set_other (by decide)).symm.trans h)).2 ((set_other (by decide)).symm.trans h')⟩), (fun h => ⟨fun d hd => set_keep ((h7 ((set_other (by decide)).symm.trans h)).1 d hd), fun h' => (h7 ((set_other (by decide)).symm.trans h)).2 ((set_other (by decide)).symm.trans h')⟩), (fun h => (h8 ((set_other (by decide)).symm.trans h))), (fun h => (h9 ((set_other (by decide)).symm.trans h))), (fun h => ⟨set_keep (h10 ((set_other (by decide)).symm.trans h)).1, (h10 ((set_other (by decide)).symm.trans h)).2⟩)⟩
      · have hk0 : L.getD 7 false = false := by
          cases hq : L.getD 7 false with
          | false => rfl
          | true => exact absurd ((h7 hq).1 5 (by decide)) (by rw [hni]; simp)
        have hb' := hbw hk0
        have hc' := bcellS hb'
        have hsz : wt.heap.size ≤ w'.heap.size := hb'.size
        refine wpOp_val (lkV l) rfl (by rfl) (by go_simp) ?_
        exact ⟨by simpa using hL, _, _, _, _, _, _, _, _, _, _, rfl, fun h' => hbw ((set_other (by decide)).symm.trans h'), (fun h => (h0 ((set_other (by decide)).symm.trans h))), (fun h => (h1 ((set_other (by decide)).symm.trans h))), (fun h => (h2 ((set_other (by decide)).symm.trans h))), (fun h => (h3 ((set_other (by decide)).symm.trans h))), (fun h => (h4 ((set_other (by decide)).symm.trans h))), fun _ => rfl, (fun h => ⟨set_keep (h6 ((set_other (by decide)).symm.trans h)).1, fun h' => (h6 ((set_other (by decide)).symm.trans h)).2 ((set_other (by decide)).symm.trans h')⟩), (fun h => ⟨fun d hd => set_keep ((h7 ((set_other (by decide)).symm.trans h)).1 d hd), fun h' => (h7 ((set_other (by decide)).symm.trans h)).2 ((set_other (by decide)).symm.trans h')⟩), (fun h => (h8 ((set_other (by decide)).symm.trans h))), (fun h => (h9 ((set_other (by decide)).symm.trans h))), (fun h => ⟨set_keep (h10 ((set_other (by decide)).symm.trans h)).1, (h10 ((set_other (by decide)).symm.trans h)).2⟩)⟩
      · obtain rfl := h5 (ready_dep hi 5 (by kernel_rfl))
        have hk0 : L.getD 7 false = false := by
          cases hq : L.getD 7 false with
          | false => rfl
          | true => exact absurd ((h7 hq).1 6 (by decide)) (by rw [hni]; simp)
        have hb' := hbw hk0
        have hc' := bcellS hb'
        have hsz : wt.heap.size ≤ w'.heap.size := hb'.size
        refine wpOp_mem (.slice (some ⟨w'.heap.size, 0, none⟩) 1 1) (w'.alloc (.cells #[I l.1, I l.2] 71)) rfl (by rfl) (by go_simp) ?_
        exact ⟨by simpa using hL, _, _, _, _, _, _, _, _, _, _, rfl, fun h' => (hb'.alloc hsz _), (fun h => (h0 ((set_other (by decide)).symm.trans h))), (fun h => (h1 ((set_other (by decide)).symm.trans h))), (fun h => (h2 ((set_other (by decide)).symm.trans h))), (fun h => (h3 ((set_other (by decide)).symm.trans h))), (fun h => (h4 ((set_other (by decide)).symm.trans h))), (fun h => (h5 ((set_other (by decide)).symm.trans h))), fun _ => ⟨set_keep (ready_dep hi 5 (by kernel_rfl)), fun _ => ⟨_, rfl, hsz, alloc_cell _ _ _ 0, alloc_cell _ _ _ 1, by simp⟩⟩, (fun h => absurd ((set_other (by decide)).symm.trans h) (by rw [hk0]; simp)), (fun h => (h8 ((set_other (by decide)).symm.trans h))), (fun h => (h9 ((set_other (by decide)).symm.trans h))), (fun h => absurd (h10 ((set_other (by decide)).symm.trans h)).1 (by rw [hk0]; simp))⟩
      · obtain rfl := h4 (ready_dep hi 4 (by kernel_rfl))
        have hk0 : L.getD 7 false = false := hni
        have hb' := hbw hk0
        have hc' := bcellS hb'
        have hsz : wt.heap.size ≤ w'.heap.size := hb'.size
        have d6 := ready_dep hi 6 (by kernel_rfl)
        have hA := hAt.call hb' (Nat.le_refl _)
        obtain ⟨blk, rfl, hbk, hx0, hx1, hbl⟩ := (h6 (ready_dep hi 6 (by kernel_rfl))).2 hni
        refine wpOp_wp rfl (by rfl) (wp_append_lk (.tmp 25) (.tmp 27) rfl rfl hA.row blk 1 l rfl hx0 hx1 hZ hA.base_le ?_)
        intro v' w2 hrow hgrow hown
        exact ⟨by simpa using hL, _, _, _, _, _, _, _, _, _, _, rfl, (fun h' => by rw [set_same (by omega)] at h'; cases h'), (fun h => (h0 ((set_other (by decide)).symm.trans h))), (fun h => (h1 ((set_other (by decide)).symm.trans h))), (fun h => (h2 ((set_other (by decide)).symm.trans h))), (fun h => (h3 ((set_other (by decide)).symm.trans h))), (fun h => (h4 ((set_other (by decide)).symm.trans h))), (fun h => (h5 ((set_other (by decide)).symm.trans h))), (fun h => ⟨set_keep (h6 ((set_other (by decide)).symm.trans h)).1, fun h' => by rw [set_same (by omega)] at h'; cases h'⟩), fun _ => ⟨fun d hd => set_keep (by rcases (by simpa using hd : d = 4 ∨ d = 5 ∨ d = 6) with rfl | rfl | rfl <;> exact (by first | exact ready_dep hi 4 (by kernel_rfl) | exact ready_dep hi 6 (by kernel_rfl) | exact (h6 (ready_dep hi 6 (by kernel_rfl))).1)), fun _ => hA.append (fun k e => .inr (.inr e)) hrow hgrow hown⟩, (fun h => (h8 ((set_other (by decide)).symm.trans h))), (fun h => (h9 ((set_other (by decide)).symm.trans h))), (fun h => absurd (h10 ((set_other (by decide)).symm.trans h)).1 (by rw [hni]; simp))⟩
      · obtain rfl := h0 (ready_dep hi 0 (by kernel_rfl))
        refine wpOp_val (.pointer (some ⟨P, 6, none⟩)) rfl (by rfl) (by go_simp) ?_
        exact ⟨by simpa using hL, _, _, _, _, _, _, _, _, _, _, rfl, fun h' => hbw ((set_other (by decide)).symm.trans h'), (fun h => (h0 ((set_other (by decide)).symm.trans h))), (fun h => (h1 ((set_other (by decide)).symm.trans h))), (fun h => (h2 ((set_other (by decide)).symm.trans h))), (fun h => (h3 ((set_other (by decide)).symm.trans h))), (fun h => (h4 ((set_other (by decide)).symm.trans h))), (fun h => (h5 ((set_other (by decide)).symm.trans h))), (fun h => ⟨set_keep (h6 ((set_other (by decide)).symm.trans h)).1, fun h' => (h6 ((set_other (by decide)).symm.trans h)).2 ((set_other (by decide)).symm.trans h')⟩), (fun h => ⟨fun d hd => set_keep ((h7 ((set_other (by decide)).symm.trans h)).1 d hd), fun h' => (h7 ((set_other (by decide)).symm.trans h)).2 ((set_other (by decide)).symm.trans h')⟩), fun _ => rfl, (fun h => (h9 ((set_other (by decide)).symm.trans h))), (fun h => ⟨set_keep (h10 ((set_other (by decide)).symm.trans h)).1, (h10 ((set_other (by decide)).symm.trans h)).2⟩)⟩
      · obtain rfl := h8 (ready_dep hi 8 (by kernel_rfl))
        refine wpOp_val (.pointer (some ⟨P, 6, none⟩)) rfl (by rfl) (by go_simp) ?_
        exact ⟨by simpa using hL, _, _, _, _, _, _, _, _, _, _, rfl, fun h' => hbw ((set_other (by decide)).symm.trans h'), (fun h => (h0 ((set_other (by decide)).symm.trans h))), (fun h => (h1 ((set_other (by decide)).symm.trans h))), (fun h => (h2 ((set_other (by decide)).symm.trans h))), (fun h => (h3 ((set_other (by decide)).symm.trans h))), (fun h => (h4 ((set_other (by decide)).symm.trans h))), (fun h => (h5 ((set_other (by decide)).symm.trans h))), (fun h => ⟨set_keep (h6 ((set_other (by decide)).symm.trans h)).1, fun h' => (h6 ((set_other (by decide)).symm.trans h)).2 ((set_other (by decide)).symm.trans h')⟩), (fun h => ⟨fun d hd => set_keep ((h7 ((set_other (by decide)).symm.trans h)).1 d hd), fun h' => (h7 ((set_other (by decide)).symm.trans h)).2 ((set_other (by decide)).symm.trans h')⟩), (fun h => (h8 ((set_other (by decide)).symm.trans h))), fun _ => rfl, (fun h => ⟨set_keep (h10 ((set_other (by decide)).symm.trans h)).1, (h10 ((set_other (by decide)).symm.trans h)).2⟩)⟩
      · obtain rfl := h9 (ready_dep hi 9 (by kernel_rfl))
        have hA := (h7 (ready_dep hi 7 (by kernel_rfl))).2 hni
        have hcl : w'.cell? ⟨P, 6, none⟩ = some v2 := (hA.cell (i := 6) rfl).1
        have hfr := (hA.cell (i := 6) (u := v2) rfl).2
        obtain ⟨A8, n8, c8, rfl⟩ := hA.row.slice
        have hone : (Value.slice A8 n8 c8).oneCell' = true := rfl
        refine wpOp_st (w'.setCell ⟨P, 6, none⟩ (.slice A8 n8 c8)) rfl (by rfl) (by go_simp) ?_
        exact ⟨by simpa using hL, _, _, _, _, _, _, _, _, _, _, rfl, fun h' => absurd ((set_other (by decide)).symm.trans h') (by rw [ready_dep hi 7 (by kernel_rfl)]; simp), (fun h => (h0 ((set_other (by decide)).symm.trans h))), (fun h => (h1 ((set_other (by decide)).symm.trans h))), (fun h => (h2 ((set_other (by decide)).symm.trans h))), (fun h => (h3 ((set_other (by decide)).symm.trans h))), (fun h => (h4 ((set_other (by decide)).symm.trans h))), (fun h => (h5 ((set_other (by decide)).symm.trans h))), (fun h => ⟨set_keep (h6 ((set_other (by decide)).symm.trans h)).1, fun h' => absurd ((set_other (by decide)).symm.trans h') (by rw [ready_dep hi 7 (by kernel_rfl)]; simp)⟩), (fun h => ⟨fun d hd => set_keep ((h7 ((set_other (by decide)).symm.trans h)).1 d hd), fun h' => by rw [set_same (by omega)] at h'; cases h'⟩), (fun h => (h8 ((set_other (by decide)).symm.trans h))), (fun h => (h9 ((set_other (by decide)).symm.trans h))), fun _ => ⟨set_keep (ready_dep hi 7 (by kernel_rfl)), _, by have := hA.setPl (.inl rfl) 6 (.slice A8 n8 c8); rw [plC_set6] at this; exact this⟩⟩
    · rintro L a w' ⟨hL, u21, u22, u23, u24, u25, u26, u27, u28, u29, u30, rfl, hbw, h0, h1, h2, h3, h4, h5, h6, h7, h8, h9, h10⟩ hr
      have hall := all_listed hL (by kernel_rfl) hr
      obtain rfl := h0 (hall 0 (by decide))
      obtain rfl := h1 (hall 1 (by decide))
      obtain rfl := h2 (hall 2 (by decide))
      obtain rfl := h3 (hall 3 (by decide))
      obtain rfl := h4 (hall 4 (by decide))
      obtain rfl := h5 (hall 5 (by decide))
      have g6 := h6 (hall 6 (by decide))
      clear h7
      obtain rfl := h8 (hall 8 (by decide))
      obtain rfl := h9 (hall 9 (by decide))
      have g10 := h10 (hall 10 (by decide))
      clear hall hr hL hbw h0 h1 h2 h3 h4 h5 h8 h9
      try dsimp only
      obtain ⟨-, v3, hA3⟩ := g10
      obtain ⟨w4, hw4⟩ : ∃ w4 : World, w4 = w' := ⟨_, rfl⟩
      rw [← hw4] at hA3 ⊢
      clear hw4 g6 HT hAt t6 t0 t1 sPt sBt
      have HA3 := Lib.hid hA3
      have t7 : w4.cell? ⟨P, 7, none⟩ = some (.map (some B)) := (hA3.cell (i := 7) rfl).1
      have t0 := hA3.c0
      have t1 := hA3.c1
      have s4P := row_lt' hA3.pl
      have s4B := cell_lt hA3.c0
      have hn1 : n < maxLen := by unfold maxLen; omega
      obtain ⟨m, hm⟩ : ∃ m, m = (mem.filter fun x => !(x == l)) ++ [l] := ⟨_, rfl⟩
      rw [← hm] at HA3
      clear hA3
      go_upto_region 4 with fail
      refine wp_region_inv (by kernel_rfl) (fun L a w' => L.size = 6 ∧ ∃ u31 u32 u33 u34 u35 : Value, a = { tmps := #[.pointer (some ⟨P, 6, none⟩), lkV l, I most, undef, .pointer (some ⟨w.heap.size, 0, none⟩), undef, .pointer (some ⟨P, 6, none⟩), .pointer (some ⟨P, 6, none⟩), .pointer (some ⟨P, 7, none⟩), .map (some B), lkV l, .bool false, undef, undef, undef, undef, undef, undef, undef, undef, undef, .pointer (some ⟨P, 6, none⟩), .pointer (some ⟨P, 6, none⟩), .pointer (some ⟨P, 6, none⟩), .pointer (some ⟨P, 6, none⟩), u25, lkV l, u27, u28, .pointer (some ⟨P, 6, none⟩), .pointer (some ⟨P, 6, none⟩), u31, u32, u33, u34, u35, undef, undef, undef, undef, undef, undef, undef, undef, undef, undef, undef, undef, undef, undef, undef, undef, undef, undef, undef, undef, undef, undef, undef, undef, undef], defers := [] } ∧ (L.getD 5 false = false → Below w4.heap.size w4 w') ∧ (L.getD 0 false = true → u31 = .pointer (some ⟨P, 6, none⟩)) ∧ (L.getD 1 false = true → u32 = .pointer (some ⟨P, 6, none⟩)) ∧ (L.getD 2 false = true → u33 = .pointer (some ⟨P, 7, none⟩)) ∧ (L.getD 3 false = true → u34 = .map (some B)) ∧ (L.getD 4 false = true → u35 = lkV l) ∧ (L.getD 5 false = true → (∀ d, d ∈ ([3, 4] : List Nat) → L.getD d false = true) ∧ AddS base P (plC vP AE AD nE cE nD cD mo tu at_ v3 B vB lost vT) B (n + 1) (updG f (lkV l) (.bool true)) w.heap.size l (fun k => k = P ∨ k = B ∨ vL.ownBlock = some k) vL w w' v3 m)) ?_ ?_ ?_
      · exact ⟨by simp, _, _, _, _, _, rfl, fun _ => (Below.refl _ _).drew, by simp, by simp, by simp, by simp, by simp, by simp⟩
      · rintro i L a w' ⟨hL, u31, u32, u33, u34, u35, rfl, hbw, h0, h1, h2, h3, h4, h5⟩ hi
        have hcases : i = 0 ∨ i = 1 ∨ i = 2 ∨ i = 3 ∨ i = 4 ∨ i = 5 := by
          have : i < 6 := ready_lt hi
          omega
        have hni := ready_not' hi (by rw [hL]; exact ready_lt hi)
        rcases hcases with rfl | rfl | rfl | rfl | rfl | rfl
        · refine wpOp_val (.pointer (some ⟨P, 6, none⟩)) rfl (by rfl) (by go_simp) ?_
          exact ⟨by simpa using hL, _, _, _, _, _, rfl, fun h' => hbw ((set_other (by decide)).symm.trans h'), fun _ => rfl, (fun h => (h1 ((set_other (by decide)).symm.trans h))), (fun h => (h2 ((set_other (by decide)).symm.trans h))), (fun h => (h3 ((set_other (by decide)).symm.trans h))), (fun h => (h4 ((set_other (by decide)).symm.trans h))), (fun h => ⟨fun d hd => set_keep ((h5 ((set_other (by decide)).symm.trans h)).1 d hd), (h5 ((set_other (by decide)).symm.trans h)).2⟩)⟩
        · obtain rfl := h0 (ready_dep hi 0 (by kernel_rfl))
          refine wpOp_val (.pointer (some ⟨P, 6, none⟩)) rfl (by rfl) (by go_simp) ?_
          exact ⟨by simpa using hL, _, _, _, _, _, rfl, fun h' => hbw ((set_other (by decide)).symm.trans h'), (fun h => (h0 ((set_other (by decide)).symm.trans h))), fun _ => rfl, (fun h => (h2 ((set_other (by decide)).symm.trans h))), (fun h => (h3 ((set_other (by decide)).symm.trans h))), (fun h => (h4 ((set_other (by decide)).symm.trans h))), (fun h => ⟨fun d hd => set_keep ((h5 ((set_other (by decide)).symm.trans h)).1 d hd), (h5 ((set_other (by decide)).symm.trans h)).2⟩)⟩
        · obtain rfl := h1 (ready_dep hi 1 (by kernel_rfl))
          refine wpOp_val (.pointer (some ⟨P, 7, none⟩)) rfl (by rfl) (by go_simp) ?_
          exact ⟨by simpa using hL, _, _, _, _, _, rfl, fun h' => hbw ((set_other (by decide)).symm.trans h'), (fun h => (h0 ((set_other (by decide)).symm.trans h))), (fun h => (h1 ((set_other (by decide)).symm.trans h))), fun _ => rfl, (fun h => (h3 ((set_other (by decide)).symm.trans h))), (fun h => (h4 ((set_other (by decide)).symm.trans h))), (fun h => ⟨fun d hd => set_keep ((h5 ((set_other (by decide)).symm.trans h)).1 d hd), (h5 ((set_other (by decide)).symm.trans h)).2⟩)⟩
        · obtain rfl := h2 (ready_dep hi 2 (by kernel_rfl))
          have hk0 : L.getD 5 false = false := by
            cases hq : L.getD 5 false with
            | false => rfl
            | true => exact absurd ((h5 hq).1 3 (by decide)) (by rw [hni]; simp)
          have hb' := hbw hk0
          have hc' := bcellS hb'
          have hsz : w4.heap.size ≤ w'.heap.size := hb'.size
          refine wpOp_val (.map (some B)) rfl (by rfl) (by go_simp) ?_
          exact ⟨by simpa using hL, _, _, _, _, _, rfl, fun h' => hbw ((set_other (by decide)).symm.trans h'), (fun h => (h0 ((set_other (by decide)).symm.trans h))), (fun h => (h1 ((set_other (by decide)).symm.trans h))), (fun h => (h2 ((set_other (by decide)).symm.trans h))), fun _ => rfl, (fun h => (h4 ((set_other (by decide)).symm.trans h))), (fun h => ⟨fun d hd => set_keep ((h5 ((set_other (by decide)).symm.trans h)).1 d hd), (h5 ((set_other (by decide)).symm.trans h)).2⟩)⟩
        · have hk0 : L.getD 5 false = false := by
            cases hq : L.getD 5 false with
            | false => rfl
            | true => exact absurd ((h5 hq).1 4 (by decide)) (by rw [hni]; simp)
          have hb' := hbw hk0
          have hc' := bcellS hb'
          have hsz : w4.heap.size ≤ w'.heap.size := hb'.size
          refine wpOp_val (lkV l) rfl (by rfl) (by go_simp) ?_
          exact ⟨by simpa using hL, _, _, _, _, _, rfl, fun h' => hbw ((set_other (by decide)).symm.trans h'), (fun h => (h0 ((set_other (by decide)).symm.trans h))), (fun h => (h1 ((set_other (by decide)).symm.trans h))), (fun h => (h2 ((set_other (by decide)).symm.trans h))), (fun h => (h3 ((set_other (by decide)).symm.trans h))), fun _ => rfl, (fun h => ⟨fun d hd => set_keep ((h5 ((set_other (by decide)).symm.trans h)).1 d hd), (h5 ((set_other (by decide)).symm.trans h)).2⟩)⟩
        · obtain rfl := h3 (ready_dep hi 3 (by kernel_rfl))
          obtain rfl := h4 (ready_dep hi 4 (by kernel_rfl))
          have hk0 : L.getD 5 false = false := hni
          have hb' := hbw hk0
          have hc' := bcellS hb'
          have hsz : w4.heap.size ≤ w'.heap.size := hb'.size
          have hA := HA3.out.call hb' (Nat.le_refl _)
          refine wpOp_wp rfl (by rfl) (wp_g_put (.tmp 34) (.tmp 35) _ 100 rfl 71 4 lk_keyed Try.underlying100 hn1 rfl hA.set_ (lkV l) (.bool true) rfl rfl hky ?_)
          intro w2 hm2 hg2
          exact ⟨by simpa using hL, _, _, _, _, _, rfl, (fun h' => by rw [set_same (by omega)] at h'; cases h'), (fun h => (h0 ((set_other (by decide)).symm.trans h))), (fun h => (h1 ((set_other (by decide)).symm.trans h))), (fun h => (h2 ((set_other (by decide)).symm.trans h))), (fun h => (h3 ((set_other (by decide)).symm.trans h))), (fun h => (h4 ((set_other (by decide)).symm.trans h))), fun _ => ⟨fun d hd => set_keep (by rcases (by simpa using hd : d = 3 ∨ d = 4) with rfl | rfl <;> (first | exact ready_dep hi 3 (by kernel_rfl) | exact ready_dep hi 4 (by kernel_rfl))), hA.setMap (.inr (.inl rfl)) hm2 hg2⟩⟩
      · rintro L a w' ⟨hL, u31, u32, u33, u34, u35, rfl, hbw, h0, h1, h2, h3, h4, h5⟩ hr
        have hall := all_listed hL (by kernel_rfl) hr
        obtain rfl := h0 (hall 0 (by decide))
        obtain rfl := h1 (hall 1 (by decide))
        obtain rfl := h2 (hall 2 (by decide))
        obtain rfl := h3 (hall 3 (by decide))
        obtain rfl := h4 (hall 4 (by decide))
        have g5 := (h5 (hall 5 (by decide))).2
        clear hall hr hL hbw h0 h1 h2 h3 h4
        try dsimp only
        obtain ⟨w5, hw5⟩ : ∃ w5 : World, w5 = w' := ⟨_, rfl⟩
        rw [← hw5] at g5 ⊢
        clear hw5 HA3 t7 t0 t1 s4P s4B
        have HA5 := Lib.hid g5
        have hml2 : m.length ≤ 301 := by
          rw [hm, List.length_append, List.length_singleton]
          have := List.length_filter_le (fun x => !(x == l)) mem
          omega
        have HS5 := Lib.hid (lnk_put l HF2.out)
        rw [← hm] at HS5
        have hnd2 := nodup_put l hnd
        rw [← hm] at hnd2
        have HAD := Lib.hid (show addM most mem l = if most < m.length then m.tail else m by rw [hm]; rfl)
        have HND := Lib.hid hnd2
        have t7 : w5.cell? ⟨P, 7, none⟩ = some (.map (some B)) := (g5.cell (i := 7) rfl).1
        have hne : m ≠ [] := by rw [hm]; simp
        have HH : ∀ q ∈ m, q.1 ≤ 1000 ∧ q.2 ≤ 1000 := fun q hq => by
          rw [hm, List.mem_append, List.mem_singleton] at hq
          rcases hq with hq | rfl
          · exact HBD.out q (List.mem_filter.1 hq).1
          · exact ⟨hl1, hl2⟩
        obtain ⟨x, t, rfl⟩ := List.exists_cons_of_ne_nil hne
        obtain ⟨g, off, c, e3, hct, hbg, hgl, q0, q1, hrow⟩ := g5.row.cons
        have hkx := keyAtL x.1 x.2 (HH x (by simp)).1 (HH x (by simp)).2
        have t6 : w5.cell? ⟨P, 6, none⟩ = some (.slice (some ⟨g, off, none⟩) (t.length + 1) c) := by rw [← e3]; exact (g5.cell (i := 6) rfl).1
        have hml3 : t.length + 1 ≤ 301 := by simpa using hml2
        subst e3
        have HR := Lib.hid hrow
        have s5P := row_lt' g5.pl
        have f6 := (g5.cell (i := 6) (u := .slice (some ⟨g, off, none⟩) (t.length + 1) c) rfl).2
        clear hm hne HH hml2 hnd2 hrow g5
        by_cases hgt : most < t.length + 1
        · have HAD2 := Lib.hid (show addM most mem l = t by rw [HAD.out, if_pos (by simpa using hgt)]; rfl)
          go_upto_region 6 with fail
          refine wp_region_inv (by kernel_rfl) (fun L a w' => L.size = 11 ∧ ∃ u43 u44 u45 u46 u47 u48 u49 u50 u51 u52 : Value, a = { tmps := #[.pointer (some ⟨P, 6, none⟩), lkV l, I most, undef, .pointer (some ⟨w.heap.size, 0, none⟩), undef, .pointer (some ⟨P, 6, none⟩), .pointer (some ⟨P, 6, none⟩), .pointer (some ⟨P, 7, none⟩), .map (some B), lkV l, .bool false, undef, undef, undef, undef, undef, undef, undef, undef, undef, .pointer (some ⟨P, 6, none⟩), .pointer (some ⟨P, 6, none⟩), .pointer (some ⟨P, 6, none⟩), .pointer (some ⟨P, 6, none⟩), u25, lkV l, u27, u28, .pointer (some ⟨P, 6, none⟩), .pointer (some ⟨P, 6, none⟩), .pointer (some ⟨P, 6, none⟩), .pointer (some ⟨P, 6, none⟩), .pointer (some ⟨P, 7, none⟩), .map (some B), lkV l, .pointer (some ⟨P, 6, none⟩), .pointer (some ⟨P, 6, none⟩), .pointer (some ⟨P, 6, none⟩), .slice (some ⟨g, off, none⟩) (t.length + 1) c, I ((t.length : Int) + 1), I most, .bool (decide ((most : Int) < (t.length : Int) + 1)), u43, u44, u45, u46, u47, u48, u49, u50, u51, u52, undef, undef, undef, undef, undef, undef, undef, undef], defers := [] } ∧ (L.getD 10 false = false → Below w5.heap.size w5 w') ∧ (L.getD 0 false = true → u43 = .pointer (some ⟨P, 6, none⟩)) ∧ (L.getD 1 false = true → u44 = .pointer (some ⟨P, 6, none⟩)) ∧ (L.getD 2 false = true → u45 = .pointer (some ⟨P, 7, none⟩)) ∧ (L.getD 3 false = true → u46 = .map (some B)) ∧ (L.getD 4 false = true → u47 = .pointer (some ⟨P, 6, none⟩)) ∧ (L.getD 5 false = true → u48 = .pointer (some ⟨P, 6, none⟩)) ∧ (L.getD 6 false = true → u49 = .pointer (some ⟨P, 6, none⟩)) ∧ (L.getD 7 false = true → u50 = .slice (some ⟨g, off, none⟩) (t.length + 1) c) ∧ (L.getD 8 false = true → L.getD 7 false = true ∧ u51 = .pointer (some ⟨g, off, none⟩)) ∧ (L.getD 9 false = true → L.getD 7 false = true ∧ u52 = lkV x) ∧ (L.getD 10 false = true → (∀ d, d ∈ ([3, 7, 9] : List Nat) → L.getD d false = true) ∧ AddS base P (plC vP AE AD nE cE nD cD mo tu at_ (.slice (some ⟨g, off, none⟩) (t.length + 1) c) B vB lost vT) B (n + 1) (delG (updG f (lkV l) (.bool true)) (lkV x)) w.heap.size l (fun k => k = P ∨ k = B ∨ vL.ownBlock = some k) vL w w' (.slice (some ⟨g, off, none⟩) (t.length + 1) c) (x :: t))) ?_ ?_ ?_
          · exact ⟨by simp, _, _, _, _, _, _, _, _, _, _, rfl, fun _ => (Below.refl _ _).drew, by simp, by simp, by simp, by simp, by simp, by simp, by simp, by simp, by simp, by simp, by simp⟩
          · rintro i L a w' ⟨hL, u43, u44, u45, u46, u47, u48, u49, u50, u51, u52, rfl, hbw, h0, h1, h2, h3, h4, h5, h6, h7, h8, h9, h10⟩ hi
            have hcases : i = 0 ∨ i = 1 ∨ i = 2 ∨ i = 3 ∨ i = 4 ∨ i = 5 ∨ i = 6 ∨ i = 7 ∨ i = 8 ∨ i = 9 ∨ i = 10 := by
              have : i < 11 := ready_lt hi
              omega
            have hni := ready_not' hi (by rw [hL]; exact ready_lt hi)
            rcases hcases with rfl | rfl | rfl | rfl | rfl | rfl | rfl | rfl | rfl | rfl | rfl
            · refine wpOp_val (.pointer (some ⟨P, 6, none⟩)) rfl (by rfl) (by go_simp) ?_
              exact ⟨by simpa using hL, _, _, _, _, _, _, _, _, _, _, rfl, fun h' => hbw ((set_other (by decide)).symm.trans h'), fun _ => rfl, (fun h => (h1 ((set_other (by decide)).symm.trans h))), (fun h => (h2 ((set_other (by decide)).symm.trans h))), (fun h => (h3 ((set_other (by decide)).symm.trans h))), (fun h => (h4 ((set_other (by decide)).symm.trans h))), (fun h => (h5 ((set_other (by decide)).symm.trans h))), (fun h => (h6 ((set_other (by decide)).symm.trans h))), (fun h => (h7 ((set_other (by decide)).symm.trans h))), (fun h => ⟨set_keep (h8 ((set_other (by decide)).symm.trans h)).1, (h8 ((set_other (by decide)).symm.trans h)).2⟩), (fun h => ⟨set_keep (h9 ((set_other (by decide)).symm.trans h)).1, (h9 ((set_other (by decide)).symm.trans h)).2⟩), (fun h => ⟨fun d hd => set_keep ((h10 ((set_other (by decide)).symm.trans h)).1 d hd), (h10 ((set_other (by decide)).symm.trans h)).2⟩)⟩
            · obtain rfl := h0 (ready_dep hi 0 (by kernel_rfl))
              refine wpOp_val (.pointer (some ⟨P, 6, none⟩)) rfl (by rfl) (by go_simp) ?_
              exact ⟨by simpa using hL, _, _, _, _, _, _, _, _, _, _, rfl, fun h' => hbw ((set_other (by decide)).symm.trans h'), (fun h => (h0 ((set_other (by decide)).symm.trans h))), fun _ => rfl, (fun h => (h2 ((set_other (by decide)).symm.trans h))), (fun h => (h3 ((set_other (by decide)).symm.trans h))), (fun h => (h4 ((set_other (by decide)).symm.trans h))), (fun h => (h5 ((set_other (by decide)).symm.trans h))), (fun h => (h6 ((set_other (by decide)).symm.trans h))), (fun h => (h7 ((set_other (by decide)).symm.trans h))), (fun h => ⟨set_keep (h8 ((set_other (by decide)).symm.trans h)).1, (h8 ((set_other (by decide)).symm.trans h)).2⟩), (fun h => ⟨set_keep (h9 ((set_other (by decide)).symm.trans h)).1, (h9 ((set_other (by decide)).symm.trans h)).2⟩), (fun h => ⟨fun d hd => set_keep ((h10 ((set_other (by decide)).symm.trans h)).1 d hd), (h10 ((set_other (by decide)).symm.trans h)).2⟩)⟩
            · obtain rfl := h1 (ready_dep hi 1 (by kernel_rfl))
              refine wpOp_val (.pointer (some ⟨P, 7, none⟩)) rfl (by rfl) (by go_simp) ?_
              exact ⟨by simpa using hL, _, _, _, _, _, _, _, _, _, _, rfl, fun h' => hbw ((set_other (by decide)).symm.trans h'), (fun h => (h0 ((set_other (by decide)).symm.trans h))), (fun h => (h1 ((set_other (by decide)).symm.trans h))), fun _ => rfl, (fun h => (h3 ((set_other (by decide)).symm.trans h))), (fun h => (h4 ((set_other (by decide)).symm.trans h))), (fun h => (h5 ((set_other (by decide)).symm.trans h))), (fun h => (h6 ((set_other (by decide)).symm.trans h))), (fun h => (h7 ((set_other (by decide)).symm.trans h))), (fun h => ⟨set_keep (h8 ((set_other (by decide)).symm.trans h)).1, (h8 ((set_other (by decide)).symm.trans h)).2⟩), (fun h => ⟨set_keep (h9 ((set_other (by decide)).symm.trans h)).1, (h9 ((set_other (by decide)).symm.trans h)).2⟩), (fun h => ⟨fun d hd => set_keep ((h10 ((set_other (by decide)).symm.trans h)).1 d hd), (h10 ((set_other (by decide)).symm.trans h)).2⟩)⟩
            · obtain rfl := h2 (ready_dep hi 2 (by kernel_rfl))
              have hk0 : L.getD 10 false = false := by
                cases hq : L.getD 10 false with
                | false => rfl
                | true => exact absurd ((h10 hq).1 3 (by decide)) (by rw [hni]; simp)
              have hb' := hbw hk0
              have hc' := bcellS hb'
              have hsz : w5.heap.size ≤ w'.heap.size := hb'.size
              refine wpOp_val (.map (some B)) rfl (by rfl) (by go_simp) ?_
              exact ⟨by simpa using hL, _, _, _, _, _, _, _, _, _, _, rfl, fun h' => hbw ((set_other (by decide)).symm.trans h'), (fun h => (h0 ((set_other (by decide)).symm.trans h))), (fun h => (h1 ((set_other (by decide)).symm.trans h))), (fun h => (h2 ((set_other (by decide)).symm.trans h))), fun _ => rfl, (fun h => (h4 ((set_other (by decide)).symm.trans h))), (fun h => (h5 ((set_other (by decide)).symm.trans h))), (fun h => (h6 ((set_other (by decide)).symm.trans h))), (fun h => (h7 ((set_other (by decide)).symm.trans h))), (fun h => ⟨set_keep (h8 ((set_other (by decide)).symm.trans h)).1, (h8 ((set_other (by decide)).symm.trans h)).2⟩), (fun h => ⟨set_keep (h9 ((set_other (by decide)).symm.trans h)).1, (h9 ((set_other (by decide)).symm.trans h)).2⟩), (fun h => ⟨fun d hd => set_keep ((h10 ((set_other (by decide)).symm.trans h)).1 d hd), (h10 ((set_other (by decide)).symm.trans h)).2⟩)⟩
            · refine wpOp_val (.pointer (some ⟨P, 6, none⟩)) rfl (by rfl) (by go_simp) ?_
              exact ⟨by simpa using hL, _, _, _, _, _, _, _, _, _, _, rfl, fun h' => hbw ((set_other (by decide)).symm.trans h'), (fun h => (h0 ((set_other (by decide)).symm.trans h))), (fun h => (h1 ((set_other (by decide)).symm.trans h))), (fun h => (h2 ((set_other (by decide)).symm.trans h))), (fun h => (h3 ((set_other (by decide)).symm.trans h))), fun _ => rfl, (fun h => (h5 ((set_other (by decide)).symm.trans h))), (fun h => (h6 ((set_other (by decide)).symm.trans h))), (fun h => (h7 ((set_other (by decide)).symm.trans h))), (fun h => ⟨set_keep (h8 ((set_other (by decide)).symm.trans h)).1, (h8 ((set_other (by decide)).symm.trans h)).2⟩), (fun h => ⟨set_keep (h9 ((set_other (by decide)).symm.trans h)).1, (h9 ((set_other (by decide)).symm.trans h)).2⟩), (fun h => ⟨fun d hd => set_keep ((h10 ((set_other (by decide)).symm.trans h)).1 d hd), (h10 ((set_other (by decide)).symm.trans h)).2⟩)⟩
            · obtain rfl := h4 (ready_dep hi 4 (by kernel_rfl))
              refine wpOp_val (.pointer (some ⟨P, 6, none⟩)) rfl (by rfl) (by go_simp) ?_
              exact ⟨by simpa using hL, _, _, _, _, _, _, _, _, _, _, rfl, fun h' => hbw ((set_other (by decide)).symm.trans h'), (fun h => (h0 ((set_other (by decide)).symm.trans h))), (fun h => (h1 ((set_other (by decide)).symm.trans h))), (fun h => (h2 ((set_other (by decide)).symm.trans h))), (fun h => (h3 ((set_other (by decide)).symm.trans h))), (fun h => (h4 ((set_other (by decide)).symm.trans h))), fun _ => rfl, (fun h => (h6 ((set_other (by decide)).symm.trans h))), (fun h => (h7 ((set_other (by decide)).symm.trans h))), (fun h => ⟨set_keep (h8 ((set_other (by decide)).symm.trans h)).1, (h8 ((set_other (by decide)).symm.trans h)).2⟩), (fun h => ⟨set_keep (h9 ((set_other (by decide)).symm.trans h)).1, (h9 ((set_other (by decide)).symm.trans h)).2⟩), (fun h => ⟨fun d hd => set_keep ((h10 ((set_other (by decide)).symm.trans h)).1 d hd), (h10 ((set_other (by decide)).symm.trans h)).2⟩)⟩
            · obtain rfl := h5 (ready_dep hi 5 (by kernel_rfl))
              refine wpOp_val (.pointer (some ⟨P, 6, none⟩)) rfl (by rfl) (by go_simp) ?_
              exact ⟨by simpa using hL, _, _, _, _, _, _, _, _, _, _, rfl, fun h' => hbw ((set_other (by decide)).symm.trans h'), (fun h => (h0 ((set_other (by decide)).symm.trans h))), (fun h => (h1 ((set_other (by decide)).symm.trans h))), (fun h => (h2 ((set_other (by decide)).symm.trans h))), (fun h => (h3 ((set_other (by decide)).symm.trans h))), (fun h => (h4 ((set_other (by decide)).symm.trans h))), (fun h => (h5 ((set_other (by decide)).symm.trans h))), fun _ => rfl, (fun h => (h7 ((set_other (by decide)).symm.trans h))), (fun h => ⟨set_keep (h8 ((set_other (by decide)).symm.trans h)).1, (h8 ((set_other (by decide)).symm.trans h)).2⟩), (fun h => ⟨set_keep (h9 ((set_other (by decide)).symm.trans h)).1, (h9 ((set_other (by decide)).symm.trans h)).2⟩), (fun h => ⟨fun d hd => set_keep ((h10 ((set_other (by decide)).symm.trans h)).1 d hd), (h10 ((set_other (by decide)).symm.trans h)).2⟩)⟩
            · obtain rfl := h6 (ready_dep hi 6 (by kernel_rfl))
              have hk0 : L.getD 10 false = false := by
                cases hq : L.getD 10 false with
                | false => rfl
                | true => exact absurd ((h10 hq).1 7 (by decide)) (by rw [hni]; simp)
              have hb' := hbw hk0
              have hc' := bcellS hb'
              have hsz : w5.heap.size ≤ w'.heap.size := hb'.size
              refine wpOp_val (.slice (some ⟨g, off, none⟩) (t.length + 1) c) rfl (by rfl) (by go_simp) ?_
              exact ⟨by simpa using hL, _, _, _, _, _, _, _, _, _, _, rfl, fun h' => hbw ((set_other (by decide)).symm.trans h'), (fun h => (h0 ((set_other (by decide)).symm.trans h))), (fun h => (h1 ((set_other (by decide)).symm.trans h))), (fun h => (h2 ((set_other (by decide)).symm.trans h))), (fun h => (h3 ((set_other (by decide)).symm.trans h))), (fun h => (h4 ((set_other (by decide)).symm.trans h))), (fun h => (h5 ((set_other (by decide)).symm.trans h))), (fun h => (h6 ((set_other (by decide)).symm.trans h))), fun _ => rfl, (fun h => ⟨set_keep (h8 ((set_other (by decide)).symm.trans h)).1, (h8 ((set_other (by decide)).symm.trans h)).2⟩), (fun h => ⟨set_keep (h9 ((set_other (by decide)).symm.trans h)).1, (h9 ((set_other (by decide)).symm.trans h)).2⟩), (fun h => ⟨fun d hd => set_keep ((h10 ((set_other (by decide)).symm.trans h)).1 d hd), (h10 ((set_other (by decide)).symm.trans h)).2⟩)⟩
            · obtain rfl := h7 (ready_dep hi 7 (by kernel_rfl))
              refine wpOp_val (.pointer (some ⟨g, off, none⟩)) rfl (by rfl) (by go_simp) ?_
              exact ⟨by simpa using hL, _, _, _, _, _, _, _, _, _, _, rfl, fun h' => hbw ((set_other (by decide)).symm.trans h'), (fun h => (h0 ((set_other (by decide)).symm.trans h))), (fun h => (h1 ((set_other (by decide)).symm.trans h))), (fun h => (h2 ((set_other (by decide)).symm.trans h))), (fun h => (h3 ((set_other (by decide)).symm.trans h))), (fun h => (h4 ((set_other (by decide)).symm.trans h))), (fun h => (h5 ((set_other (by decide)).symm.trans h))), (fun h => (h6 ((set_other (by decide)).symm.trans h))), (fun h => (h7 ((set_other (by decide)).symm.trans h))), fun _ => ⟨set_keep (ready_dep hi 7 (by kernel_rfl)), rfl⟩, (fun h => ⟨set_keep (h9 ((set_other (by decide)).symm.trans h)).1, (h9 ((set_other (by decide)).symm.trans h)).2⟩), (fun h => ⟨fun d hd => set_keep ((h10 ((set_other (by decide)).symm.trans h)).1 d hd), (h10 ((set_other (by decide)).symm.trans h)).2⟩)⟩
            · have hk0 : L.getD 10 false = false := by
                cases hq : L.getD 10 false with
                | false => rfl
                | true => exact absurd ((h10 hq).1 9 (by decide)) (by rw [hni]; simp)
              have hb' := hbw hk0
              have hc' := bcellS hb'
              have hsz : w5.heap.size ≤ w'.heap.size := hb'.size
              have d8 := h8 (ready_dep hi 8 (by kernel_rfl))
              obtain ⟨d7, rfl⟩ := d8
              refine wpOp_val (lkV x) rfl (by rfl) (by go_simp) ?_
              exact ⟨by simpa using hL, _, _, _, _, _, _, _, _, _, _, rfl, fun h' => hbw ((set_other (by decide)).symm.trans h'), (fun h => (h0 ((set_other (by decide)).symm.trans h))), (fun h => (h1 ((set_other (by decide)).symm.trans h))), (fun h => (h2 ((set_other (by decide)).symm.trans h))), (fun h => (h3 ((set_other (by decide)).symm.trans h))), (fun h => (h4 ((set_other (by decide)).symm.trans h))), (fun h => (h5 ((set_other (by decide)).symm.trans h))), (fun h => (h6 ((set_other (by decide)).symm.trans h))), (fun h => (h7 ((set_other (by decide)).symm.trans h))), (fun h => ⟨set_keep (h8 ((set_other (by decide)).symm.trans h)).1, (h8 ((set_other (by decide)).symm.trans h)).2⟩), fun _ => ⟨set_keep d7, rfl⟩, (fun h => ⟨fun d hd => set_keep ((h10 ((set_other (by decide)).symm.trans h)).1 d hd), (h10 ((set_other (by decide)).symm.trans h)).2⟩)⟩
            · obtain rfl := h3 (ready_dep hi 3 (by kernel_rfl))
              have hk0 : L.getD 10 false = false := hni
              have hb' := hbw hk0
              have hc' := bcellS hb'
              have hsz : w5.heap.size ≤ w'.heap.size := hb'.size
              obtain ⟨d7, rfl⟩ := h9 (ready_dep hi 9 (by kernel_rfl))
              have hA := HA5.out.call hb' (Nat.le_refl _)
              refine wpOp_wp rfl (by rfl) (wp_g_del (.tmp 46) (.tmp 52) 100 71 rfl 4 lk_keyed Try.underlying100 rfl hA.set_ (lkV x) rfl hkx ?_)
              intro w2 hm2 hg2
              exact ⟨by simpa using hL, _, _, _, _, _, _, _, _, _, _, rfl, (fun h' => by rw [set_same (by omega)] at h'; cases h'), (fun h => (h0 ((set_other (by decide)).symm.trans h))), (fun h => (h1 ((set_other (by decide)).symm.trans h))), (fun h => (h2 ((set_other (by decide)).symm.trans h))), (fun h => (h3 ((set_other (by decide)).symm.trans h))), (fun h => (h4 ((set_other (by decide)).symm.trans h))), (fun h => (h5 ((set_other (by decide)).symm.trans h))), (fun h => (h6 ((set_other (by decide)).symm.trans h))), (fun h => (h7 ((set_other (by decide)).symm.trans h))), (fun h => ⟨set_keep (h8 ((set_other (by decide)).symm.trans h)).1, (h8 ((set_other (by decide)).symm.trans h)).2⟩), (fun h => ⟨set_keep (h9 ((set_other (by decide)).symm.trans h)).1, (h9 ((set_other (by decide)).symm.trans h)).2⟩), fun _ => ⟨fun d hd => set_keep (by rcases (by simpa using hd : d = 3 ∨ d = 7 ∨ d = 9) with rfl | rfl | rfl <;> (first | exact ready_dep hi 3 (by kernel_rfl) | exact ready_dep hi 9 (by kernel_rfl) | exact d7)), hA.setMap (.inr (.inl rfl)) hm2 hg2⟩⟩
          · rintro L a w' ⟨hL, u43, u44, u45, u46, u47, u48, u49, u50, u51, u52, rfl, hbw, h0, h1, h2, h3, h4, h5, h6, h7, h8, h9, h10⟩ hr
            have hall := all_listed hL (by kernel_rfl) hr
            obtain rfl := h0 (hall 0 (by decide))
            obtain rfl := h1 (hall 1 (by decide))
            obtain rfl := h2 (hall 2 (by decide))
            obtain rfl := h3 (hall 3 (by decide))
            obtain rfl := h4 (hall 4 (by decide))
            obtain rfl := h5 (hall 5 (by decide))
            obtain rfl := h6 (hall 6 (by decide))
            obtain rfl := h7 (hall 7 (by decide))
            have g8 := h8 (hall 8 (by decide))
            have g9 := h9 (hall 9 (by decide))
            have g10 := (h10 (hall 10 (by decide))).2
            clear hall hr hL hbw h0 h1 h2 h3 h4 h5 h6 h7
            try dsimp only
            obtain ⟨w6, hw6⟩ : ∃ w6 : World, w6 = w' := ⟨_, rfl⟩
            rw [← hw6] at g10 ⊢
            clear hw6 HA5 t7 q0 q1 s5P f6 t6 g8 g9
            have t6 : w6.cell? ⟨P, 6, none⟩ = some (.slice (some ⟨g, off, none⟩) (t.length + 1) c) := (g10.cell (i := 6) rfl).1
            have f6 := (g10.cell (i := 6) (u := .slice (some ⟨g, off, none⟩) (t.length + 1) c) rfl).2
            have HA6 := Lib.hid g10
            have s6P := row_lt' g10.pl
            clear g10 HR
            go_wp2_with fail
            · refine bodyPost_end (results_none rfl _ _ _) rfl ?_
              have g7 := HA6.out.setPl (.inl rfl) 6 (.slice (some ⟨g, off, none⟩) t.length 0)
              rw [plC_set6] at g7
              obtain rfl : t = [] := by
                cases t with
                | nil => rfl
                | cons a b => rw [List.length_cons] at hct; omega
              refine ⟨rfl, _, g7.pl, ?_, ?_, g7.upd, g7.own⟩
              · rw [HAD2.out]; exact g7.row.none_
              · rw [HAD2.out]; exact ⟨_, g7.set_, lnk_del HND.out HS5.out⟩
            · refine bodyPost_end (results_none rfl _ _ _) rfl ?_
              have g7 := HA6.out.setPl (.inl rfl) 6 (.slice (some ⟨g, off + 2, none⟩) t.length (c - 1))
              rw [plC_set6] at g7
              obtain ⟨g', off', c', e3, -, -, -, -, -, hrow⟩ := g7.row.cons
              injection e3 with e3 _ e4
              injection e3 with e3
              injection e3 with e5 e6 _
              subst e4 e5 e6
              refine ⟨rfl, _, g7.pl, ?_, ?_, g7.upd, g7.own⟩
              · rw [HAD2.out]; exact hrow
              · rw [HAD2.out]; exact ⟨_, g7.set_, lnk_del HND.out HS5.out⟩
        · have HAD2 := Lib.hid (show addM most mem l = x :: t by rw [HAD.out, if_neg (by simpa using hgt)])
          go_wp2_with fail
          refine bodyPost_end (results_none rfl _ _ _) rfl ?_
          have g5 := HA5.out
          refine ⟨rfl, _, g5.pl, ?_, ?_, g5.upd, g5.own⟩
          · rw [HAD2.out]; exact g5.row
          · rw [HAD2.out]; exact ⟨_, g5.set_, HS5.out⟩
  · subst hcq
    have hAQ := hAq.out
    have hmne : mem ≠ [] := by rintro rfl; have := HC.out; simp at this
    obtain ⟨-, h⟩ | ⟨g0, off0, cc, N, F, rfl, h1, h2, h3, h4, h5, h6⟩ := hAQ.row
    · exact absurd h hmne
    have hgbr : g0 ≠ w.heap.size := fun e => hAQ.gbr (by simp [Value.ownBlock, e])
    have hdel : Calls Try.prog 109 #[.slice (some ⟨g0, off0, none⟩) mem.length cc, .func (.func 110) #[] #[.pointer (some ⟨w.heap.size, 0, none⟩)]] wq fun e w' => ∃ F', e = .returned (.slice (some ⟨g0, off0, none⟩) (mem.filter fun x => !(x == l)).length cc) ∧ wq.grownBy w' (some g0) ∧ RowAt w' g0 71 F' N ∧ LC F' off0 (mem.filter fun x => !(x == l)).toArray :=
      deleteLk_any _ _ (fun args w => enters_of Try.func110 (by kernel_rfl) rfl args w) (fun x => x == l) g0 off0 cc N F mem.toArray wq (fun W x hW => add1_any x l w.heap.size W (hW.cell hAQ.c0 (fun e => hgbr (by injection e with e; exact e.symm))) (hW.cell hAQ.c1 (fun e => hgbr (by injection e with e; exact e.symm)))) h3 h6 h4 (by simpa using h5) (by simp; omega)
    have t6 : wq.cell? ⟨P, 6, none⟩ = some (.slice (some ⟨g0, off0, none⟩) mem.length cc) := (hAQ.cell (i := 6) rfl).1
    have HF := Lib.hid (show ∀ (w3 : World) (F' : Nat → Value), wq.grownBy w3 (some g0) → RowAt w3 g0 71 F' N → LC F' off0 (mem.filter fun x => !(x == l)).toArray → AddS base P (plC vP AE AD nE cE nD cD mo tu at_ (.slice (some ⟨g0, off0, none⟩) mem.length cc) B vB lost vT) B n f w.heap.size l (fun k => k = P ∨ k = B ∨ (Value.slice (some ⟨g0, off0, none⟩) mem.length cc).ownBlock = some k) (.slice (some ⟨g0, off0, none⟩) mem.length cc) w w3 (.slice (some ⟨g0, off0, none⟩) (mem.filter fun x => !(x == l)).length cc) (mem.filter fun x => !(x == l)) from fun w3 F' a1 a2 a3 =>
      hAQ.append (fun k e => .inr (.inr e)) (.inr ⟨g0, off0, cc, N, F', rfl, h1, h2, a2, h4, Nat.le_trans (List.length_filter_le _ _) h5, a3⟩) a1 (.inl rfl))
    have HQ := Lib.hid hAQ
    clear hAQ hAq h1 h2 h3 h4 h5 h6 hmne
    go_upto_region 3 with (go_at_call 109; refine hdel.mono ?_; rintro e w3 ⟨F', rfl, a1, a2, a3⟩; have HA3 := Lib.hid (HF.out w3 F' a1 a2 a3); have t6 : w3.cell? ⟨P, 6, none⟩ = some (.slice (some ⟨g0, off0, none⟩) mem.length cc) := (HA3.out.cell (i := 6) rfl).1; have f6 := (HA3.out.cell (i := 6) (u := .slice (some ⟨g0, off0, none⟩) mem.length cc) rfl).2; clear a1 a2 a3)
    have hAt := HA3.out.setPl (.inl rfl) 6 (.slice (some ⟨g0, off0, none⟩) (mem.filter fun x => !(x == l)).length cc)
    rw [plC_set6] at hAt
    obtain ⟨v2, hv2⟩ : ∃ v2, v2 = Value.slice (some ⟨g0, off0, none⟩) (mem.filter fun x => !(x == l)).length cc := ⟨_, rfl⟩
    rw [← hv2] at hAt ⊢
    obtain ⟨wt, hwt⟩ : ∃ wt, wt = w3.setCell ⟨P, 6, none⟩ v2 := ⟨_, rfl⟩
    rw [← hwt] at hAt ⊢
    clear hwt hv2 HA3 HF HQ hdel t6 f6 hgbr
    have HT := Lib.hid hAt
    have t6 : wt.cell? ⟨P, 6, none⟩ = some v2 := (hAt.cell (i := 6) rfl).1
    have t0 := hAt.c0
    have t1 := hAt.c1
    have sPt := row_lt' hAt.pl
    have sBt := cell_lt hAt.c0
    refine wp_region_inv (by kernel_rfl) (fun L a w' => L.size = 11 ∧ ∃ u21 u22 u23 u24 u25 u26 u27 u28 u29 u30 : Value, a = { tmps := #[.pointer (some ⟨P, 6, none⟩), lkV l, I most, undef, .pointer (some ⟨w.heap.size, 0, none⟩), undef, .pointer (some ⟨P, 6, none⟩), .pointer (some ⟨P, 6, none⟩), .pointer (some ⟨P, 7, none⟩), .map (some B), lkV l, .bool true, .pointer (some ⟨P, 6, none⟩), .pointer (some ⟨P, 6, none⟩), .pointer (some ⟨P, 6, none⟩), .pointer (some ⟨P, 6, none⟩), (Value.slice (some ⟨g0, off0, none⟩) mem.length cc), .func (.func 110) #[] #[.pointer (some ⟨w.heap.size, 0, none⟩)], v2, .pointer (some ⟨P, 6, none⟩), .pointer (some ⟨P, 6, none⟩), u21, u22, u23, u24, u25, u26, u27, u28, u29, u30, undef, undef, undef, undef, undef, undef, undef, undef, undef, undef, undef, undef, undef, undef, undef, undef, undef, undef, undef, undef, undef, undef, undef, undef, undef, undef, undef, undef, undef, undef], defers := [] } ∧ (L.getD 7 false = false → Below wt.heap.size wt w') ∧ (L.getD 0 false = true → u21 = .pointer (some ⟨P, 6, none⟩)) ∧ (L.getD 1 false = true → u22 = .pointer (some ⟨P, 6, none⟩)) ∧ (L.getD 2 false = true → u23 = .pointer (some ⟨P, 6, none⟩)) ∧ (L.getD 3 false = true → u24 = .pointer (some ⟨P, 6, none⟩)) ∧ (L.getD 4 false = true → u25 = v2) ∧ (L.getD 5 false = true → u26 = lkV l) ∧ (L.getD 6 false = true → L.getD 5 false = true ∧ (L.getD 7 false = false → OneL w' wt.heap.size u27 l)) ∧ (L.getD 7 false = true → (∀ d, d ∈ ([4, 5, 6] : List Nat) → L.getD d false = true) ∧ (L.getD 10 false = false → AddS base P (plC vP AE AD nE cE nD cD mo tu at_ v2 B vB lost vT) B n f w.heap.size l (fun k => k = P ∨ k = B ∨ (Value.slice (some ⟨g0, off0, none⟩) mem.length cc).ownBlock = some k) (Value.slice (some ⟨g0, off0, none⟩) mem.length cc) w w' u28 ((mem.filter fun x => !(x == l)) ++ [l]))) ∧ (L.getD 8 false = true → u29 = .pointer (some ⟨P, 6, none⟩)) ∧ (L.getD 9 false = true → u30 = .pointer (some ⟨P, 6, none⟩)) ∧ (L.getD 10 false = true → L.getD 7 false = true ∧ ∃ v', AddS base P (plC vP AE AD nE cE nD cD mo tu at_ v' B vB lost vT) B n f w.heap.size l (fun k => k = P ∨ k = B ∨ (Value.slice (some ⟨g0, off0, none⟩) mem.length cc).ownBlock = some k) (Value.slice (some ⟨g0, off0, none⟩) mem.length cc) w w' v' ((mem.filter fun x => !(x == l)) ++ [l]))) ?_ ?_ ?_
    · exact ⟨by simp, _, _, _, _, _, _, _, _, _, _, rfl, fun _ => (Below.refl _ _).drew, by simp, by simp, by simp, by simp, by simp, by simp, by simp, by simp, by simp, by simp, by simp⟩
    · rintro i L a w' ⟨hL, u21, u22, u23, u24, u25, u26, u27, u28, u29, u30, rfl, hbw, h0, h1, h2, h3, h4, h5, h6, h7, h8, h9, h10⟩ hi
      have hcases : i = 0 ∨ i = 1 ∨ i = 2 ∨ i = 3 ∨ i = 4 ∨ i = 5 ∨ i = 6 ∨ i = 7 ∨ i = 8 ∨ i = 9 ∨ i = 10 := by
        have : i < 11 := ready_lt hi
        omega
      have hni := ready_not' hi (by rw [hL]; exact ready_lt hi)
      rcases hcases with rfl | rfl | rfl | rfl | rfl | rfl | rfl | rfl | rfl | rfl | rfl
      · refine wpOp_val (.pointer (some ⟨P, 6, none⟩)) rfl (by rfl) (by go_simp) ?_
        exact ⟨by simpa using hL, _, _, _, _, _, _, _, _, _, _, rfl, fun h' => hbw ((set_other (by decide)).symm.trans h'), fun _ => rfl, (fun h => (h1 ((set_other (by decide)).symm.trans h))), (fun h => (h2 ((set_other (by decide)).symm.trans h))), (fun h => (h3 ((set_other (by decide)).symm.trans h))), (fun h => (h4 ((set_other (by decide)).symm.trans h))), (fun h => (h5 ((set_other (by decide)).symm.trans h))), (fun h => ⟨set_keep (h6 ((set_other (by decide)).symm.trans h)).1, fun h' => (h6 ((set_other (by decide)).symm.trans h)).2 ((set_other (by decide)).symm.trans h')⟩), (fun h => ⟨fun d hd => set_keep ((h7 ((set_other (by decide)).symm.trans h)).1 d hd), fun h' => (h7 ((set_other (by decide)).symm.trans h)).2 ((set_other (by decide)).symm.trans h')⟩), (fun h => (h8 ((set_other (by decide)).symm.trans h))), (fun h => (h9 ((set_other (by decide)).symm.trans h))), (fun h => ⟨set_keep (h10 ((set_other (by decide)).symm.trans h)).1, (h10 ((set_other (by decide)).symm.trans h)).2⟩)⟩
      · refine wpOp_val (.pointer (some ⟨P, 6, none⟩)) rfl (by rfl) (by go_simp) ?_
        exact ⟨by simpa using hL, _, _, _, _, _, _, _, _, _, _, rfl, fun h' => hbw ((set_other (by decide)).symm.trans h'), (fun h => (h0 ((set_other (by decide)).symm.trans h))), fun _ => rfl, (fun h => (h2 ((set_other (by decide)).symm.trans h))), (fun h => (h3 ((set_other (by decide)).symm.trans h))), (fun h => (h4 ((set_other (by decide)).symm.trans h))), (fun h => (h5 ((set_other (by decide)).symm.trans h))), (fun h => ⟨set_keep (h6 ((set_other (by decide)).symm.trans h)).1, fun h' => (h6 ((set_other (by decide)).symm.trans h)).2 ((set_other (by decide)).symm.trans h')⟩), (fun h => ⟨fun d hd => set_keep ((h7 ((set_other (by decide)).symm.trans h)).1 d hd), fun h' => (h7 ((set_other (by decide)).symm.trans h)).2 ((set_other (by decide)).symm.trans h')⟩), (fun h => (h8 ((set_other (by decide)).symm.trans h))), (fun h => (h9 ((set_other (by decide)).symm.trans h))), (fun h => ⟨set_keep (h10 ((set_other (by decide)).symm.trans h)).1, (h10 ((set_other (by decide)).symm.trans h)).2⟩)⟩
      · obtain rfl := h1 (ready_dep hi 1 (by kernel_rfl))
        refine wpOp_val (.pointer (some ⟨P, 6, none⟩)) rfl (by rfl) (by go_simp) ?_
        exact ⟨by simpa using hL, _, _, _, _, _, _, _, _, _, _, rfl, fun h' => hbw ((set_other (by decide)).symm.trans h'), (fun h => (h0 ((set_other (by decide)).symm.trans h))), (fun h => (h1 ((set_other (by decide)).symm.trans h))), fun _ => rfl, (fun h => (h3 ((set_other (by decide)).symm.trans h))), (fun h => (h4 ((set_other (by decide)).symm.trans h))), (fun h => (h5 ((set_other (by decide)).symm.trans h))), (fun h => ⟨set_keep (h6 ((set_other (by decide)).symm.trans h)).1, fun h' => (h6 ((set_other (by decide)).symm.trans h)).2 ((set_other (by decide)).symm.trans h')⟩), (fun h => ⟨fun d hd => set_keep ((h7 ((set_other (by decide)).symm.trans h)).1 d hd), fun h' => (h7 ((set_other (by decide)).symm.trans h)).2 ((set_other (by decide)).symm.trans h')⟩), (fun h => (h8 ((set_other (by decide)).symm.trans h))), (fun h => (h9 ((set_other (by decide)).symm.trans h))), (fun h => ⟨set_keep (h10 ((set_other (by decide)).symm.trans h)).1, (h10 ((set_other (by decide)).symm.trans h)).2⟩)⟩
      · obtain rfl := h2 (ready_dep hi 2 (by kernel_rfl))
        refine wpOp_val (.pointer (some ⟨P, 6, none⟩)) rfl (by rfl) (by go_simp) ?_
        exact ⟨by simpa using hL, _, _, _, _, _, _, _, _, _, _, rfl, fun h' => hbw ((set_other (by decide)).symm.trans h'), (fun h => (h0 ((set_other (by decide)).symm.trans h))), (fun h => (h1 ((set_other (by decide)).symm.trans h))), (fun h => (h2 ((set_other (by decide)).symm.trans h))), fun _ => rfl, (fun h => (h4 ((set_other (by decide)).symm.trans h))), (fun h => (h5 ((set_other (by decide)).symm.trans h))), (fun h => ⟨set_keep (h6 ((set_other (by decide)).symm.trans h)).1, fun h' => (h6 ((set_other (by decide)).symm.trans h)).2 ((set_other (by decide)).symm.trans h')⟩), (fun h => ⟨fun d hd => set_keep ((h7 ((set_other (by decide)).symm.trans h)).1 d hd), fun h' => (h7 ((set_other (by decide)).symm.trans h)).2 ((set_other (by decide)).symm.trans h')⟩), (fun h => (h8 ((set_other (by decide)).symm.trans h))), (fun h => (h9 ((set_other (by decide)).symm.trans h))), (fun h => ⟨set_keep (h10 ((set_other (by decide)).symm.trans h)).1, (h10 ((set_other (by decide)).symm.trans h)).2⟩)⟩
      · obtain rfl := h3 (ready_dep hi 3 (by kernel_rfl))
        have hk0 : L.getD 7 false = false := by
          cases hq : L.getD 7 false with
          | false => rfl
          | true => exact absurd ((h7 hq).1 4 (by decide)) (by rw [hni]; simp)
        have hb' := hbw hk0
        have hc' := bcellS hb'
        have hsz : wt.heap.size ≤ w'.heap.size := hb'.size
        refine wpOp_val (v2) rfl (by rfl) (by go_simp) ?_
        exact ⟨by simpa using hL, _, _, _, _, _, _, _, _, _, _, rfl, fun h' => hbw ((set_other (by decide)).symm.trans h'), (fun h => (h0 ((set_other (by decide)).symm.trans h))), (fun h => (h1 ((set_other (by decide)).symm.trans h))), (fun h => (h2 ((set_other (by decide)).symm.trans h))), (fun h => (h3 ((set_other (by decide)).symm.trans h))), fun _ => rfl, (fun h => (h5 ((set_other (by decide)).symm.trans h))), (fun h => ⟨set_keep (h6 ((set_other (by decide)).symm.trans h)).1, fun h' => (h6 ((set_other (by decide)).symm.trans h)).2 ((set_other (by decide)).symm.trans h')⟩), (fun h => ⟨fun d hd => set_keep ((h7 ((set_other (by decide)).symm.trans h)).1 d hd), fun h' => (h7 ((set_other (by decide)).symm.trans h)).2 ((set_other (by decide)).symm.trans h')⟩), (fun h => (h8 ((set_other (by decide)).symm.trans h))), (fun h => (h9 ((set_other (by decide)).symm.trans h))), (fun h => ⟨set_keep (h10 ((set_other (by decide)).symm.trans h)).1, (h10 ((set_other (by decide)).symm.trans h)).2⟩)⟩
      · have hk0 : L.getD 7 false = false := by
          cases hq : L.getD 7 false with
          | false => rfl
          | true => exact absurd ((h7 hq).1 5 (by decide)) (by rw [hni]; simp)
        have hb' := hbw hk0
        have hc' := bcellS hb'
        have hsz : wt.heap.size ≤ w'.heap.size := hb'.size
        refine wpOp_val (lkV l) rfl (by rfl) (by go_simp) ?_
        exact ⟨by simpa using hL, _, _, _, _, _, _, _, _, _, _, rfl, fun h' => hbw ((set_other (by decide)).symm.trans h'), (fun h => (h0 ((set_other (by decide)).symm.trans h))), (fun h => (h1 ((set_other (by decide)).symm.trans h))), (fun h => (h2 ((set_other (by decide)).symm.trans h))), (fun h => (h3 ((set_other (by decide)).symm.trans h))), (fun h => (h4 ((set_other (by decide)).symm.trans h))), fun _ => rfl, (fun h => ⟨set_keep (h6 ((set_other (by decide)).symm.trans h)).1, fun h' => (h6 ((set_other (by decide)).symm.trans h)).2 ((set_other (by decide)).symm.trans h')⟩), (fun h => ⟨fun d hd => set_keep ((h7 ((set_other (by decide)).symm.trans h)).1 d hd), fun h' => (h7 ((set_other (by decide)).symm.trans h)).2 ((set_other (by decide)).symm.trans h')⟩), (fun h => (h8 ((set_other (by decide)).symm.trans h))), (fun h => (h9 ((set_other (by decide)).symm.trans h))), (fun h => ⟨set_keep (h10 ((set_other (by decide)).symm.trans h)).1, (h10 ((set_other (by decide)).symm.trans h)).2⟩)⟩
      · obtain rfl := h5 (ready_dep hi 5 (by kernel_rfl))
        have hk0 : L.getD 7 false = false := by
          cases hq : L.getD 7 false with
          | false => rfl
          | true => exact absurd ((h7 hq).1 6 (by decide)) (by rw [hni]; simp)
        have hb' := hbw hk0
        have hc' := bcellS hb'
        have hsz : wt.heap.size ≤ w'.heap.size := hb'.size
        refine wpOp_mem (.slice (some ⟨w'.heap.size, 0, none⟩) 1 1) (w'.alloc (.cells #[I l.1, I l.2] 71)) rfl (by rfl) (by go_simp) ?_
        exact ⟨by simpa using hL, _, _, _, _, _, _, _, _, _, _, rfl, fun h' => (hb'.alloc hsz _), (fun h => (h0 ((set_other (by decide)).symm.trans h))), (fun h => (h1 ((set_other (by decide)).symm.trans h))), (fun h => (h2 ((set_other (by decide)).symm.trans h))), (fun h => (h3 ((set_other (by decide)).symm.trans h))), (fun h => (h4 ((set_other (by decide)).symm.trans h))), (fun h => (h5 ((set_other (by decide)).symm.trans h))), fun _ => ⟨set_keep (ready_dep hi 5 (by kernel_rfl)), fun _ => ⟨_, rfl, hsz, alloc_cell _ _ _ 0, alloc_cell _ _ _ 1, by simp⟩⟩, (fun h => absurd ((set_other (by decide)).symm.trans h) (by rw [hk0]; simp)), (fun h => (h8 ((set_other (by decide)).symm.trans h))), (fun h => (h9 ((set_other (by decide)).symm.trans h))), (fun h => absurd (h10 ((set_other (by decide)).symm.trans h)).1 (by rw [hk0]; simp))⟩
      · obtain rfl := h4 (ready_dep hi 4 (by kernel_rfl))
        have hk0 : L.getD 7 false = false := hni
        have hb' := hbw hk0
        have hc' := bcellS hb'
        have hsz : wt.heap.size ≤ w'.heap.size := hb'.size
        have d6 := ready_dep hi 6 (by kernel_rfl)
        have hA := hAt.call hb' (Nat.le_refl _)
        obtain ⟨blk, rfl, hbk, hx0, hx1, hbl⟩ := (h6 (ready_dep hi 6 (by kernel_rfl))).2 hni
        refine wpOp_wp rfl (by rfl) (wp_append_lk (.tmp 25) (.tmp 27) rfl rfl hA.row blk 1 l rfl hx0 hx1 hZ hA.base_le ?_)
        intro v' w2 hrow hgrow hown
        exact ⟨by simpa using hL, _, _, _, _, _, _, _, _, _, _, rfl, (fun h' => by rw [set_same (by omega)] at h'; cases h'), (fun h => (h0 ((set_other (by decide)).symm.trans h))), (fun h => (h1 ((set_other (by decide)).symm.trans h))), (fun h => (h2 ((set_other (by decide)).symm.trans h))), (fun h => (h3 ((set_other (by decide)).symm.trans h))), (fun h => (h4 ((set_other (by decide)).symm.trans h))), (fun h => (h5 ((set_other (by decide)).symm.trans h))), (fun h => ⟨set_keep (h6 ((set_other (by decide)).symm.trans h)).1, fun h' => by rw [set_same (by omega)] at h'; cases h'⟩), fun _ => ⟨fun d hd => set_keep (by rcases (by simpa using hd : d = 4 ∨ d = 5 ∨ d = 6) with rfl | rfl | rfl <;> exact (by first | exact ready_dep hi 4 (by kernel_rfl) | exact ready_dep hi 6 (by kernel_rfl) | exact (h6 (ready_dep hi 6 (by kernel_rfl))).1)), fun _ => hA.append (fun k e => .inr (.inr e)) hrow hgrow hown⟩, (fun h => (h8 ((set_other (by decide)).symm.trans h))), (fun h => (h9 ((set_other (by decide)).symm.trans h))), (fun h => absurd (h10 ((set_other (by decide)).symm.trans h)).1 (by rw [hni]; simp))⟩
      · obtain rfl := h0 (ready_dep hi 0 (by kernel_rfl))
        refine wpOp_val (.pointer (some ⟨P, 6, none⟩)) rfl (by rfl) (by go_simp) ?_
        exact ⟨by simpa using hL, _, _, _, _, _, _, _, _, _, _, rfl, fun h' => hbw ((set_other (by decide)).symm.trans h'), (fun h => (h0 ((set_other (by decide)).symm.trans h))), (fun h => (h1 ((set_other (by decide)).symm.trans h))), (fun h => (h2 ((set_other (by decide)).symm.trans h))), (fun h => (h3 ((set_other (by decide)).symm.trans h))), (fun h => (h4 ((set_other (by decide)).symm.trans h))), (fun h => (h5 ((set_other (by decide)).symm.trans h))), (fun h => ⟨set_keep (h6 ((set_other (by decide)).symm.trans h)).1, fun h' => (h6 ((set_other (by decide)).symm.trans h)).2 ((set_other (by decide)).symm.trans h')⟩), (fun h => ⟨fun d hd => set_keep ((h7 ((set_other (by decide)).symm.trans h)).1 d hd), fun h' => (h7 ((set_other (by decide)).symm.trans h)).2 ((set_other (by decide)).symm.trans h')⟩), fun _ => rfl, (fun h => (h9 ((set_other (by decide)).symm.trans h))), (fun h => ⟨set_keep (h10 ((set_other (by decide)).symm.trans h)).1, (h10 ((set_other (by decide)).symm.trans h)).2⟩)⟩
      · obtain rfl := h8 (ready_dep hi 8 (by kernel_rfl))
        refine wpOp_val (.pointer (some ⟨P, 6, none⟩)) rfl (by rfl) (by go_simp) ?_
        exact ⟨by simpa using hL, _, _, _, _, _, _, _, _, _, _, rfl, fun h' => hbw ((set_other (by decide)).symm.trans h'), (fun h => (h0 ((set_other (by decide)).symm.trans h))), (fun h => (h1 ((set_other (by decide)).symm.trans h))), (fun h => (h2 ((set_other (by decide)).symm.trans h))), (fun h => (h3 ((set_other (by decide)).symm.trans h))), (fun h => (h4 ((set_other (by decide)).symm.trans h))), (fun h => (h5 ((set_other (by decide)).symm.trans h))), (fun h => ⟨set_keep (h6 ((set_other (by decide)).symm.trans h)).1, fun h' => (h6 ((set_other (by decide)).symm.trans h)).2 ((set_other (by decide)).symm.trans h')⟩), (fun h => ⟨fun d hd => set_keep ((h7 ((set_other (by decide)).symm.trans h)).1 d hd), fun h' => (h7 ((set_other (by decide)).symm.trans h)).2 ((set_other (by decide)).symm.trans h')⟩), (fun h => (h8 ((set_other (by decide)).symm.trans h))), fun _ => rfl, (fun h => ⟨set_keep (h10 ((set_other (by decide)).symm.trans h)).1, (h10 ((set_other (by decide)).symm.trans h)).2⟩)⟩
      · obtain rfl := h9 (ready_dep hi 9 (by kernel_rfl))
        have hA := (h7 (ready_dep hi 7 (by kernel_rfl))).2 hni
        have hcl : w'.cell? ⟨P, 6, none⟩ = some v2 := (hA.cell (i := 6) rfl).1
        have hfr := (hA.cell (i := 6) (u := v2) rfl).2
        obtain ⟨A8, n8, c8, rfl⟩ := hA.row.slice
        have hone : (Value.slice A8 n8 c8).oneCell' = true := rfl
        refine wpOp_st (w'.setCell ⟨P, 6, none⟩ (.slice A8 n8 c8)) rfl (by rfl) (by go_simp) ?_
        exact ⟨by simpa using hL, _, _, _, _, _, _, _, _, _, _, rfl, fun h' => absurd ((set_other (by decide)).symm.trans h') (by rw [ready_dep hi 7 (by kernel_rfl)]; simp), (fun h => (h0 ((set_other (by decide)).symm.trans h))), (fun h => (h1 ((set_other (by decide)).symm.trans h))), (fun h => (h2 ((set_other (by decide)).symm.trans h))), (fun h => (h3 ((set_other (by decide)).symm.trans h))), (fun h => (h4 ((set_other (by decide)).symm.trans h))), (fun h => (h5 ((set_other (by decide)).symm.trans h))), (fun h => ⟨set_keep (h6 ((set_other (by decide)).symm.trans h)).1, fun h' => absurd ((set_other (by decide)).symm.trans h') (by rw [ready_dep hi 7 (by kernel_rfl)]; simp)⟩), (fun h => ⟨fun d hd => set_keep ((h7 ((set_other (by decide)).symm.trans h)).1 d hd), fun h' => by rw [set_same (by omega)] at h'; cases h'⟩), (fun h => (h8 ((set_other (by decide)).symm.trans h))), (fun h => (h9 ((set_other (by decide)).symm.trans h))), fun _ => ⟨set_keep (ready_dep hi 7 (by kernel_rfl)), _, by have := hA.setPl (.inl rfl) 6 (.slice A8 n8 c8); rw [plC_set6] at this; exact this⟩⟩
    · rintro L a w' ⟨hL, u21, u22, u23, u24, u25, u26, u27, u28, u29, u30, rfl, hbw, h0, h1, h2, h3, h4, h5, h6, h7, h8, h9, h10⟩ hr
      have hall := all_listed hL (by kernel_rfl) hr
      obtain rfl := h0 (hall 0 (by decide))
      obtain rfl := h1 (hall 1 (by decide))
      obtain rfl := h2 (hall 2 (by decide))
      obtain rfl := h3 (hall 3 (by decide))
      obtain rfl := h4 (hall 4 (by decide))
      obtain rfl := h5 (hall 5 (by decide))
      have g6 := h6 (hall 6 (by decide))
      clear h7
      obtain rfl := h8 (hall 8 (by decide))
      obtain rfl := h9 (hall 9 (by decide))
      have g10 := h10 (hall 10 (by decide))
      clear hall hr hL hbw h0 h1 h2 h3 h4 h5 h8 h9
      try dsimp only
      obtain ⟨-, v3, hA3⟩ := g10
      obtain ⟨w4, hw4⟩ : ∃ w4 : World, w4 = w' := ⟨_, rfl⟩
      rw [← hw4] at hA3 ⊢
      clear hw4 g6 HT hAt t6 t0 t1 sPt sBt
      have HA3 := Lib.hid hA3
      have t7 : w4.cell? ⟨P, 7, none⟩ = some (.map (some B)) := (hA3.cell (i := 7) rfl).1
      have t0 := hA3.c0
      have t1 := hA3.c1
      have s4P := row_lt' hA3.pl
      have s4B := cell_lt hA3.c0
      have hn1 : n < maxLen := by unfold maxLen; omega
      obtain ⟨m, hm⟩ : ∃ m, m = (mem.filter fun x => !(x == l)) ++ [l] := ⟨_, rfl⟩
      rw [← hm] at HA3
      clear hA3
      go_upto_region 4 with fail
      refine wp_region_inv (by kernel_rfl) (fun L a w' => L.size = 6 ∧ ∃ u31 u32 u33 u34 u35 : Value, a = { tmps := #[.pointer (some ⟨P, 6, none⟩), lkV l, I most, undef, .pointer (some ⟨w.heap.size, 0, none⟩), undef, .pointer (some ⟨P, 6, none⟩), .pointer (some ⟨P, 6, none⟩), .pointer (some ⟨P, 7, none⟩), .map (some B), lkV l, .bool true, .pointer (some ⟨P, 6, none⟩), .pointer (some ⟨P, 6, none⟩), .pointer (some ⟨P, 6, none⟩), .pointer (some ⟨P, 6, none⟩), (Value.slice (some ⟨g0, off0, none⟩) mem.length cc), .func (.func 110) #[] #[.pointer (some ⟨w.heap.size, 0, none⟩)], u25, .pointer (some ⟨P, 6, none⟩), .pointer (some ⟨P, 6, none⟩), .pointer (some ⟨P, 6, none⟩), .pointer (some ⟨P, 6, none⟩), .pointer (some ⟨P, 6, none⟩), .pointer (some ⟨P, 6, none⟩), u25, lkV l, u27, u28, .pointer (some ⟨P, 6, none⟩), .pointer (some ⟨P, 6, none⟩), u31, u32, u33, u34, u35, undef, undef, undef, undef, undef, undef, undef, undef, undef, undef, undef, undef, undef, undef, undef, undef, undef, undef, undef, undef, undef, undef, undef, undef, undef], defers := [] } ∧ (L.getD 5 false = false → Below w4.heap.size w4 w') ∧ (L.getD 0 false = true → u31 = .pointer (some ⟨P, 6, none⟩)) ∧ (L.getD 1 false = true → u32 = .pointer (some ⟨P, 6, none⟩)) ∧ (L.getD 2 false = true → u33 = .pointer (some ⟨P, 7, none⟩)) ∧ (L.getD 3 false = true → u34 = .map (some B)) ∧ (L.getD 4 false = true → u35 = lkV l) ∧ (L.getD 5 false = true → (∀ d, d ∈ ([3, 4] : List Nat) → L.getD d false = true) ∧ AddS base P (plC vP AE AD nE cE nD cD mo tu at_ v3 B vB lost vT) B (n + 1) (updG f (lkV l) (.bool true)) w.heap.size l (fun k => k = P ∨ k = B ∨ (Value.slice (some ⟨g0, off0, none⟩) mem.length cc).ownBlock = some k) (Value.slice (some ⟨g0, off0, none⟩) mem.length cc) w w' v3 m)) ?_ ?_ ?_
      · exact ⟨by simp, _, _, _, _, _, rfl, fun _ => (Below.refl _ _).drew, by simp, by simp, by simp, by simp, by simp, by simp⟩
      · rintro i L a w' ⟨hL, u31, u32, u33, u34, u35, rfl, hbw, h0, h1, h2, h3, h4, h5⟩ hi
        have hcases : i = 0 ∨ i = 1 ∨ i = 2 ∨ i = 3 ∨ i = 4 ∨ i = 5 := by
          have : i < 6 := ready_lt hi
          omega
        have hni := ready_not' hi (by rw [hL]; exact ready_lt hi)
        rcases hcases with rfl | rfl | rfl | rfl | rfl | rfl
        · refine wpOp_val (.pointer (some ⟨P, 6, none⟩)) rfl (by rfl) (by go_simp) ?_
          exact ⟨by simpa using hL, _, _, _, _, _, rfl, fun h' => hbw ((set_other (by decide)).symm.trans h'), fun _ => rfl, (fun h => (h1 ((set_other (by decide)).symm.trans h))), (fun h => (h2 ((set_other (by decide)).symm.trans h))), (fun h => (h3 ((set_other (by decide)).symm.trans h))), (fun h => (h4 ((set_other (by decide)).symm.trans h))), (fun h => ⟨fun d hd => set_keep ((h5 ((set_other (by decide)).symm.trans h)).1 d hd), (h5 ((set_other (by decide)).symm.trans h)).2⟩)⟩
        · obtain rfl := h0 (ready_dep hi 0 (by kernel_rfl))
          refine wpOp_val (.pointer (some ⟨P, 6, none⟩)) rfl (by rfl) (by go_simp) ?_
          exact ⟨by simpa using hL, _, _, _, _, _, rfl, fun h' => hbw ((set_other (by decide)).symm.trans h'), (fun h => (h0 ((set_other (by decide)).symm.trans h))), fun _ => rfl, (fun h => (h2 ((set_other (by decide)).symm.trans h))), (fun h => (h3 ((set_other (by decide)).symm.trans h))), (fun h => (h4 ((set_other (by decide)).symm.trans h))), (fun h => ⟨fun d hd => set_keep ((h5 ((set_other (by decide)).symm.trans h)).1 d hd), (h5 ((set_other (by decide)).symm.trans h)).2⟩)⟩
        · obtain rfl := h1 (ready_dep hi 1 (by kernel_rfl))
          refine wpOp_val (.pointer (some ⟨P, 7, none⟩)) rfl (by rfl) (by go_simp) ?_
          exact ⟨by simpa using hL, _, _, _, _, _, rfl, fun h' => hbw ((set_other (by decide)).symm.trans h'), (fun h => (h0 ((set_other (by decide)).symm.trans h))), (fun h => (h1 ((set_other (by decide)).symm.trans h))), fun _ => rfl, (fun h => (h3 ((set_other (by decide)).symm.trans h))), (fun h => (h4 ((set_other (by decide)).symm.trans h))), (fun h => ⟨fun d hd => set_keep ((h5 ((set_other (by decide)).symm.trans h)).1 d hd), (h5 ((set_other (by decide)).symm.trans h)).2⟩)⟩
        · obtain rfl := h2 (ready_dep hi 2 (by kernel_rfl))
          have hk0 : L.getD 5 false = false := by
            cases hq : L.getD 5 false with
            | false => rfl
            | true => exact absurd ((h5 hq).1 3 (by decide)) (by rw [hni]; simp)
          have hb' := hbw hk0
          have hc' := bcellS hb'
          have hsz : w4.heap.size ≤ w'.heap.size := hb'.size
          refine wpOp_val (.map (some B)) rfl (by rfl) (by go_simp) ?_
          exact ⟨by simpa using hL, _, _, _, _, _, rfl, fun h' => hbw ((set_other (by decide)).symm.trans h'), (fun h => (h0 ((set_other (by decide)).symm.trans h))), (fun h => (h1 ((set_other (by decide)).symm.trans h))), (fun h => (h2 ((set_other (by decide)).symm.trans h))), fun _ => rfl, (fun h => (h4 ((set_other (by decide)).symm.trans h))), (fun h => ⟨fun d hd => set_keep ((h5 ((set_other (by decide)).symm.trans h)).1 d hd), (h5 ((set_other (by decide)).symm.trans h)).2⟩)⟩
        · have hk0 : L.getD 5 false = false := by
            cases hq : L.getD 5 false with
            | false => rfl
            | true => exact absurd ((h5 hq).1 4 (by decide)) (by rw [hni]; simp)
          have hb' := hbw hk0
          have hc' := bcellS hb'
          have hsz : w4.heap.size ≤ w'.heap.size := hb'.size
          refine wpOp_val (lkV l) rfl (by rfl) (by go_simp) ?_
          exact ⟨by simpa using hL, _, _, _, _, _, rfl, fun h' => hbw ((set_other (by decide)).symm.trans h'), (fun h => (h0 ((set_other (by decide)).symm.trans h))), (fun h => (h1 ((set_other (by decide)).symm.trans h))), (fun h => (h2 ((set_other (by decide)).symm.trans h))), (fun h => (h3 ((set_other (by decide)).symm.trans h))), fun _ => rfl, (fun h => ⟨fun d hd => set_keep ((h5 ((set_other (by decide)).symm.trans h)).1 d hd), (h5 ((set_other (by decide)).symm.trans h)).2⟩)⟩
        · obtain rfl := h3 (ready_dep hi 3 (by kernel_rfl))
          obtain rfl := h4 (ready_dep hi 4 (by kernel_rfl))
          have hk0 : L.getD 5 false = false := hni
          have hb' := hbw hk0
          have hc' := bcellS hb'
          have hsz : w4.heap.size ≤ w'.heap.size := hb'.size
          have hA := HA3.out.call hb' (Nat.le_refl _)
          refine wpOp_wp rfl (by rfl) (wp_g_put (.tmp 34) (.tmp 35) _ 100 rfl 71 4 lk_keyed Try.underlying100 hn1 rfl hA.set_ (lkV l) (.bool true) rfl rfl hky ?_)
          intro w2 hm2 hg2
          exact ⟨by simpa using hL, _, _, _, _, _, rfl, (fun h' => by rw [set_same (by omega)] at h'; cases h'), (fun h => (h0 ((set_other (by decide)).symm.trans h))), (fun h => (h1 ((set_other (by decide)).symm.trans h))), (fun h => (h2 ((set_other (by decide)).symm.trans h))), (fun h => (h3 ((set_other (by decide)).symm.trans h))), (fun h => (h4 ((set_other (by decide)).symm.trans h))), fun _ => ⟨fun d hd => set_keep (by rcases (by simpa using hd : d = 3 ∨ d = 4) with rfl | rfl <;> (first | exact ready_dep hi 3 (by kernel_rfl) | exact ready_dep hi 4 (by kernel_rfl))), hA.setMap (.inr (.inl rfl)) hm2 hg2⟩⟩
      · rintro L a w' ⟨hL, u31, u32, u33, u34, u35, rfl, hbw, h0, h1, h2, h3, h4, h5⟩ hr
        have hall := all_listed hL (by kernel_rfl) hr
        obtain rfl := h0 (hall 0 (by decide))
        obtain rfl := h1 (hall 1 (by decide))
        obtain rfl := h2 (hall 2 (by decide))
        obtain rfl := h3 (hall 3 (by decide))
        obtain rfl := h4 (hall 4 (by decide))
        have g5 := (h5 (hall 5 (by decide))).2
        clear hall hr hL hbw h0 h1 h2 h3 h4
        try dsimp only
        obtain ⟨w5, hw5⟩ : ∃ w5 : World, w5 = w' := ⟨_, rfl⟩
        rw [← hw5] at g5 ⊢
        clear hw5 HA3 t7 t0 t1 s4P s4B
        have HA5 := Lib.hid g5
        have hml2 : m.length ≤ 301 := by
          rw [hm, List.length_append, List.length_singleton]
          have := List.length_filter_le (fun x => !(x == l)) mem
          omega
        have HS5 := Lib.hid (lnk_put l HF2.out)
        rw [← hm] at HS5
        have hnd2 := nodup_put l hnd
        rw [← hm] at hnd2
        have HAD := Lib.hid (show addM most mem l = if most < m.length then m.tail else m by rw [hm]; rfl)
        have HND := Lib.hid hnd2
        have t7 : w5.cell? ⟨P, 7, none⟩ = some (.map (some B)) := (g5.cell (i := 7) rfl).1
        have hne : m ≠ [] := by rw [hm]; simp
        have HH : ∀ q ∈ m, q.1 ≤ 1000 ∧ q.2 ≤ 1000 := fun q hq => by
          rw [hm, List.mem_append, List.mem_singleton] at hq
          rcases hq with hq | rfl
          · exact HBD.out q (List.mem_filter.1 hq).1
          · exact ⟨hl1, hl2⟩
        obtain ⟨x, t, rfl⟩ := List.exists_cons_of_ne_nil hne
        obtain ⟨g, off, c, e3, hct, hbg, hgl, q0, q1, hrow⟩ := g5.row.cons
        have hkx := keyAtL x.1 x.2 (HH x (by simp)).1 (HH x (by simp)).2
        have t6 : w5.cell? ⟨P, 6, none⟩ = some (.slice (some ⟨g, off, none⟩) (t.length + 1) c) := by rw [← e3]; exact (g5.cell (i := 6) rfl).1
        have hml3 : t.length + 1 ≤ 301 := by simpa using hml2
        subst e3
        have HR := Lib.hid hrow
        have s5P := row_lt' g5.pl
        have f6 := (g5.cell (i := 6) (u := .slice (some ⟨g, off, none⟩) (t.length + 1) c) rfl).2
        clear hm hne HH hml2 hnd2 hrow g5
        by_cases hgt : most < t.length + 1
        · have HAD2 := Lib.hid (show addM most mem l = t by rw [HAD.out, if_pos (by simpa using hgt)]; rfl)
          go_upto_region 6 with fail
          refine wp_region_inv (by kernel_rfl) (fun L a w' => L.size = 11 ∧ ∃ u43 u44 u45 u46 u47 u48 u49 u50 u51 u52 : Value, a = { tmps := #[.pointer (some ⟨P, 6, none⟩), lkV l, I most, undef, .pointer (some ⟨w.heap.size, 0, none⟩), undef, .pointer (some ⟨P, 6, none⟩), .pointer (some ⟨P, 6, none⟩), .pointer (some ⟨P, 7, none⟩), .map (some B), lkV l, .bool true, .pointer (some ⟨P, 6, none⟩), .pointer (some ⟨P, 6, none⟩), .pointer (some ⟨P, 6, none⟩), .pointer (some ⟨P, 6, none⟩), (Value.slice (some ⟨g0, off0, none⟩) mem.length cc), .func (.func 110) #[] #[.pointer (some ⟨w.heap.size, 0, none⟩)], u25, .pointer (some ⟨P, 6, none⟩), .pointer (some ⟨P, 6, none⟩), .pointer (some ⟨P, 6, none⟩), .pointer (some ⟨P, 6, none⟩), .pointer (some ⟨P, 6, none⟩), .pointer (some ⟨P, 6, none⟩), u25, lkV l, u27, u28, .pointer (some ⟨P, 6, none⟩), .pointer (some ⟨P, 6, none⟩), .pointer (some ⟨P, 6, none⟩), .pointer (some ⟨P, 6, none⟩), .pointer (some ⟨P, 7, none⟩), .map (some B), lkV l, .pointer (some ⟨P, 6, none⟩), .pointer (some ⟨P, 6, none⟩), .pointer (some ⟨P, 6, none⟩), .slice (some ⟨g, off, none⟩) (t.length + 1) c, I ((t.length : Int) + 1), I most, .bool (decide ((most : Int) < (t.length : Int) + 1)), u43, u44, u45, u46, u47, u48, u49, u50, u51, u52, undef, undef, undef, undef, undef, undef, undef, undef], defers := [] } ∧ (L.getD 10 false = false → Below w5.heap.size w5 w') ∧ (L.getD 0 false = true → u43 = .pointer (some ⟨P, 6, none⟩)) ∧ (L.getD 1 false = true → u44 = .pointer (some ⟨P, 6, none⟩)) ∧ (L.getD 2 false = true → u45 = .pointer (some ⟨P, 7, none⟩)) ∧ (L.getD 3 false = true → u46 = .map (some B)) ∧ (L.getD 4 false = true → u47 = .pointer (some ⟨P, 6, none⟩)) ∧ (L.getD 5 false = true → u48 = .pointer (some ⟨P, 6, none⟩)) ∧ (L.getD 6 false = true → u49 = .pointer (some ⟨P, 6, none⟩)) ∧ (L.getD 7 false = true → u50 = .slice (some ⟨g, off, none⟩) (t.length + 1) c) ∧ (L.getD 8 false = true → L.getD 7 false = true ∧ u51 = .pointer (some ⟨g, off, none⟩)) ∧ (L.getD 9 false = true → L.getD 7 false = true ∧ u52 = lkV x) ∧ (L.getD 10 false = true → (∀ d, d ∈ ([3, 7, 9] : List Nat) → L.getD d false = true) ∧ AddS base P (plC vP AE AD nE cE nD cD mo tu at_ (.slice (some ⟨g, off, none⟩) (t.length + 1) c) B vB lost vT) B (n + 1) (delG (updG f (lkV l) (.bool true)) (lkV x)) w.heap.size l (fun k => k = P ∨ k = B ∨ (Value.slice (some ⟨g0, off0, none⟩) mem.length cc).ownBlock = some k) (Value.slice (some ⟨g0, off0, none⟩) mem.length cc) w w' (.slice (some ⟨g, off, none⟩) (t.length + 1) c) (x :: t))) ?_ ?_ ?_
          · exact ⟨by simp, _, _, _, _, _, _, _, _, _, _, rfl, fun _ => (Below.refl _ _).drew, by simp, by simp, by simp, by simp, by simp, by simp, by simp, by simp, by simp, by simp, by simp⟩
          · rintro i L a w' ⟨hL, u43, u44, u45, u46, u47, u48, u49, u50, u51, u52, rfl, hbw, h0, h1, h2, h3, h4, h5, h6, h7, h8, h9, h10⟩ hi
            have hcases : i = 0 ∨ i = 1 ∨ i = 2 ∨ i = 3 ∨ i = 4 ∨ i = 5 ∨ i = 6 ∨ i = 7 ∨ i = 8 ∨ i = 9 ∨ i = 10 := by
              have : i < 11 := ready_lt hi
              omega
            have hni := ready_not' hi (by rw [hL]; exact ready_lt hi)
            rcases hcases with rfl | rfl | rfl | rfl | rfl | rfl | rfl | rfl | rfl | rfl | rfl
            · refine wpOp_val (.pointer (some ⟨P, 6, none⟩)) rfl (by rfl) (by go_simp) ?_
              exact ⟨by simpa using hL, _, _, _, _, _, _, _, _, _, _, rfl, fun h' => hbw ((set_other (by decide)).symm.trans h'), fun _ => rfl, (fun h => (h1 ((set_other (by decide)).symm.trans h))), (fun h => (h2 ((set_other (by decide)).symm.trans h))), (fun h => (h3 ((set_other (by decide)).symm.trans h))), (fun h => (h4 ((set_other (by decide)).symm.trans h))), (fun h => (h5 ((set_other (by decide)).symm.trans h))), (fun h => (h6 ((set_other (by decide)).symm.trans h))), (fun h => (h7 ((set_other (by decide)).symm.trans h))), (fun h => ⟨set_keep (h8 ((set_other (by decide)).symm.trans h)).1, (h8 ((set_other (by decide)).symm.trans h)).2⟩), (fun h => ⟨set_keep (h9 ((set_other (by decide)).symm.trans h)).1, (h9 ((set_other (by decide)).symm.trans h)).2⟩), (fun h => ⟨fun d hd => set_keep ((h10 ((set_other (by decide)).symm.trans h)).1 d hd), (h10 ((set_other (by decide)).symm.trans h)).2⟩)⟩
            · obtain rfl := h0 (ready_dep hi 0 (by kernel_rfl))
              refine wpOp_val (.pointer (some ⟨P, 6, none⟩)) rfl (by rfl) (by go_simp) ?_
              exact ⟨by simpa using hL, _, _, _, _, _, _, _, _, _, _, rfl, fun h' => hbw ((set_other (by decide)).symm.trans h'), (fun h => (h0 ((set_other (by decide)).symm.trans h))), fun _ => rfl, (fun h => (h2 ((set_other (by decide)).symm.trans h))), (fun h => (h3 ((set_other (by decide)).symm.trans h))), (fun h => (h4 ((set_other (by decide)).symm.trans h))), (fun h => (h5 ((set_other (by decide)).symm.trans h))), (fun h => (h6 ((set_other (by decide)).symm.trans h))), (fun h => (h7 ((set_other (by decide)).symm.trans h))), (fun h => ⟨set_keep (h8 ((set_other (by decide)).symm.trans h)).1, (h8 ((set_other (by decide)).symm.trans h)).2⟩), (fun h => ⟨set_keep (h9 ((set_other (by decide)).symm.trans h)).1, (h9 ((set_other (by decide)).symm.trans h)).2⟩), (fun h => ⟨fun d hd => set_keep ((h10 ((set_other (by decide)).symm.trans h)).1 d hd), (h10 ((set_other (by decide)).symm.trans h)).2⟩)⟩
            · obtain rfl := h1 (ready_dep hi 1 (by kernel_rfl))
              refine wpOp_val (.pointer (some ⟨P, 7, none⟩)) rfl (by rfl) (by go_simp) ?_
              exact ⟨by simpa using hL, _, _, _, _, _, _, _, _, _, _, rfl, fun h' => hbw ((set_other (by decide)).symm.trans h'), (fun h => (h0 ((set_other (by decide)).symm.trans h))), (fun h => (h1 ((set_other (by decide)).symm.trans h))), fun _ => rfl, (fun h => (h3 ((set_other (by decide)).symm.trans h))), (fun h => (h4 ((set_other (by decide)).symm.trans h))), (fun h => (h5 ((set_other (by decide)).symm.trans h))), (fun h => (h6 ((set_other (by decide)).symm.trans h))), (fun h => (h7 ((set_other (by decide)).symm.trans h))), (fun h => ⟨set_keep (h8 ((set_other (by decide)).symm.trans h)).1, (h8 ((set_other (by decide)).symm.trans h)).2⟩), (fun h => ⟨set_keep (h9 ((set_other (by decide)).symm.trans h)).1, (h9 ((set_other (by decide)).symm.trans h)).2⟩), (fun h => ⟨fun d hd => set_keep ((h10 ((set_other (by decide)).symm.trans h)).1 d hd), (h10 ((set_other (by decide)).symm.trans h)).2⟩)⟩
            · obtain rfl := h2 (ready_dep hi 2 (by kernel_rfl))
              have hk0 : L.getD 10 false = false := by
                cases hq : L.getD 10 false with
                | false => rfl
                | true => exact absurd ((h10 hq).1 3 (by decide)) (by rw [hni]; simp)
              have hb' := hbw hk0
              have hc' := bcellS hb'
              have hsz : w5.heap.size ≤ w'.heap.size := hb'.size
              refine wpOp_val (.map (some B)) rfl (by rfl) (by go_simp) ?_
              exact ⟨by simpa using hL, _, _, _, _, _, _, _, _, _, _, rfl, fun h' => hbw ((set_other (by decide)).symm.trans h'), (fun h => (h0 ((set_other (by decide)).symm.trans h))), (fun h => (h1 ((set_other (by decide)).symm.trans h))), (fun h => (h2 ((set_other (by decide)).symm.trans h))), fun _ => rfl, (fun h => (h4 ((set_other (by decide)).symm.trans h))), (fun h => (h5 ((set_other (by decide)).symm.trans h))), (fun h => (h6 ((set_other (by decide)).symm.trans h))), (fun h => (h7 ((set_other (by decide)).symm.trans h))), (fun h => ⟨set_keep (h8 ((set_other (by decide)).symm.trans h)).1, (h8 ((set_other (by decide)).symm.trans h)).2⟩), (fun h => ⟨set_keep (h9 ((set_other (by decide)).symm.trans h)).1, (h9 ((set_other (by decide)).symm.trans h)).2⟩), (fun h => ⟨fun d hd => set_keep ((h10 ((set_other (by decide)).symm.trans h)).1 d hd), (h10 ((set_other (by decide)).symm.trans h)).2⟩)⟩
            · refine wpOp_val (.pointer (some ⟨P, 6, none⟩)) rfl (by rfl) (by go_simp) ?_
              exact ⟨by simpa using hL, _, _, _, _, _, _, _, _, _, _, rfl, fun h' => hbw ((set_other (by decide)).symm.trans h'), (fun h => (h0 ((set_other (by decide)).symm.trans h))), (fun h => (h1 ((set_other (by decide)).symm.trans h))), (fun h => (h2 ((set_other (by decide)).symm.trans h))), (fun h => (h3 ((set_other (by decide)).symm.trans h))), fun _ => rfl, (fun h => (h5 ((set_other (by decide)).symm.trans h))), (fun h => (h6 ((set_other (by decide)).symm.trans h))), (fun h => (h7 ((set_other (by decide)).symm.trans h))), (fun h => ⟨set_keep (h8 ((set_other (by decide)).symm.trans h)).1, (h8 ((set_other (by decide)).symm.trans h)).2⟩), (fun h => ⟨set_keep (h9 ((set_other (by decide)).symm.trans h)).1, (h9 ((set_other (by decide)).symm.trans h)).2⟩), (fun h => ⟨fun d hd => set_keep ((h10 ((set_other (by decide)).symm.trans h)).1 d hd), (h10 ((set_other (by decide)).symm.trans h)).2⟩)⟩
            · obtain rfl := h4 (ready_dep hi 4 (by kernel_rfl))
              refine wpOp_val (.pointer (some ⟨P, 6, none⟩)) rfl (by rfl) (by go_simp) ?_
              exact ⟨by simpa using hL, _, _, _, _, _, _, _, _, _, _, rfl, fun h' => hbw ((set_other (by decide)).symm.trans h'), (fun h => (h0 ((set_other (by decide)).symm.trans h))), (fun h => (h1 ((set_other (by decide)).symm.trans h))), (fun h => (h2 ((set_other (by decide)).symm.trans h))), (fun h => (h3 ((set_other (by decide)).symm.trans h))), (fun h => (h4 ((set_other (by decide)).symm.trans h))), fun _ => rfl, (fun h => (h6 ((set_other (by decide)).symm.trans h))), (fun h => (h7 ((set_other (by decide)).symm.trans h))), (fun h => ⟨set_keep (h8 ((set_other (by decide)).symm.trans h)).1, (h8 ((set_other (by decide)).symm.trans h)).2⟩), (fun h => ⟨set_keep (h9 ((set_other (by decide)).symm.trans h)).1, (h9 ((set_other (by decide)).symm.trans h)).2⟩), (fun h => ⟨fun d hd => set_keep ((h10 ((set_other (by decide)).symm.trans h)).1 d hd), (h10 ((set_other (by decide)).symm.trans h)).2⟩)⟩
            · obtain rfl := h5 (ready_dep hi 5 (by kernel_rfl))
              refine wpOp_val (.pointer (some ⟨P, 6, none⟩)) rfl (by rfl) (by go_simp) ?_
              exact ⟨by simpa using hL, _, _, _, _, _, _, _, _, _, _, rfl, fun h' => hbw ((set_other (by decide)).symm.trans h'), (fun h => (h0 ((set_other (by decide)).symm.trans h))), (fun h => (h1 ((set_other (by decide)).symm.trans h))), (fun h => (h2 ((set_other (by decide)).symm.trans h))), (fun h => (h3 ((set_other (by decide)).symm.trans h))), (fun h => (h4 ((set_other (by decide)).symm.trans h))), (fun h => (h5 ((set_other (by decide)).symm.trans h))), fun _ => rfl, (fun h => (h7 ((set_other (by decide)).symm.trans h))), (fun h => ⟨set_keep (h8 ((set_other (by decide)).symm.trans h)).1, (h8 ((set_other (by decide)).symm.trans h)).2⟩), (fun h => ⟨set_keep (h9 ((set_other (by decide)).symm.trans h)).1, (h9 ((set_other (by decide)).symm.trans h)).2⟩), (fun h => ⟨fun d hd => set_keep ((h10 ((set_other (by decide)).symm.trans h)).1 d hd), (h10 ((set_other (by decide)).symm.trans h)).2⟩)⟩
            · obtain rfl := h6 (ready_dep hi 6 (by kernel_rfl))
              have hk0 : L.getD 10 false = false := by
                cases hq : L.getD 10 false with
                | false => rfl
                | true => exact absurd ((h10 hq).1 7 (by decide)) (by rw [hni]; simp)
              have hb' := hbw hk0
              have hc' := bcellS hb'
              have hsz : w5.heap.size ≤ w'.heap.size := hb'.size
              refine wpOp_val (.slice (some ⟨g, off, none⟩) (t.length + 1) c) rfl (by rfl) (by go_simp) ?_
              exact ⟨by simpa using hL, _, _, _, _, _, _, _, _, _, _, rfl, fun h' => hbw ((set_other (by decide)).symm.trans h'), (fun h => (h0 ((set_other (by decide)).symm.trans h))), (fun h => (h1 ((set_other (by decide)).symm.trans h))), (fun h => (h2 ((set_other (by decide)).symm.trans h))), (fun h => (h3 ((set_other (by decide)).symm.trans h))), (fun h => (h4 ((set_other (by decide)).symm.trans h))), (fun h => (h5 ((set_other (by decide)).symm.trans h))), (fun h => (h6 ((set_other (by decide)).symm.trans h))), fun _ => rfl, (fun h => ⟨set_keep (h8 ((set_other (by decide)).symm.trans h)).1, (h8 ((set_other (by decide)).symm.trans h)).2⟩), (fun h => ⟨set_keep (h9 ((set_other (by decide)).symm.trans h)).1, (h9 ((set_other (by decide)).symm.trans h)).2⟩), (fun h => ⟨fun d hd => set_keep ((h10 ((set_other (by decide)).symm.trans h)).1 d hd), (h10 ((set_other (by decide)).symm.trans h)).2⟩)⟩
            · obtain rfl := h7 (ready_dep hi 7 (by kernel_rfl))
              refine wpOp_val (.pointer (some ⟨g, off, none⟩)) rfl (by rfl) (by go_simp) ?_
              exact ⟨by simpa using hL, _, _, _, _, _, _, _, _, _, _, rfl, fun h' => hbw ((set_other (by decide)).symm.trans h'), (fun h => (h0 ((set_other (by decide)).symm.trans h))), (fun h => (h1 ((set_other (by decide)).symm.trans h))), (fun h => (h2 ((set_other (by decide)).symm.trans h))), (fun h => (h3 ((set_other (by decide)).symm.trans h))), (fun h => (h4 ((set_other (by decide)).symm.trans h))), (fun h => (h5 ((set_other (by decide)).symm.trans h))), (fun h => (h6 ((set_other (by decide)).symm.trans h))), (fun h => (h7 ((set_other (by decide)).symm.trans h))), fun _ => ⟨set_keep (ready_dep hi 7 (by kernel_rfl)), rfl⟩, (fun h => ⟨set_keep (h9 ((set_other (by decide)).symm.trans h)).1, (h9 ((set_other (by decide)).symm.trans h)).2⟩), (fun h => ⟨fun d hd => set_keep ((h10 ((set_other (by decide)).symm.trans h)).1 d hd), (h10 ((set_other (by decide)).symm.trans h)).2⟩)⟩
            · have hk0 : L.getD 10 false = false := by
                cases hq : L.getD 10 false with
                | false => rfl
                | true => exact absurd ((h10 hq).1 9 (by decide)) (by rw [hni]; simp)
              have hb' := hbw hk0
              have hc' := bcellS hb'
              have hsz : w5.heap.size ≤ w'.heap.size := hb'.size
              have d8 := h8 (ready_dep hi 8 (by kernel_rfl))
              obtain ⟨d7, rfl⟩ := d8
              refine wpOp_val (lkV x) rfl (by rfl) (by go_simp) ?_
              exact ⟨by simpa using hL, _, _, _, _, _, _, _, _, _, _, rfl, fun h' => hbw ((set_other (by decide)).symm.trans h'), (fun h => (h0 ((set_other (by decide)).symm.trans h))), (fun h => (h1 ((set_other (by decide)).symm.trans h))), (fun h => (h2 ((set_other (by decide)).symm.trans h))), (fun h => (h3 ((set_other (by decide)).symm.trans h))), (fun h => (h4 ((set_other (by decide)).symm.trans h))), (fun h => (h5 ((set_other (by decide)).symm.trans h))), (fun h => (h6 ((set_other (by decide)).symm.trans h))), (fun h => (h7 ((set_other (by decide)).symm.trans h))), (fun h => ⟨set_keep (h8 ((set_other (by decide)).symm.trans h)).1, (h8 ((set_other (by decide)).symm.trans h)).2⟩), fun _ => ⟨set_keep d7, rfl⟩, (fun h => ⟨fun d hd => set_keep ((h10 ((set_other (by decide)).symm.trans h)).1 d hd), (h10 ((set_other (by decide)).symm.trans h)).2⟩)⟩
            · obtain rfl := h3 (ready_dep hi 3 (by kernel_rfl))
              have hk0 : L.getD 10 false = false := hni
              have hb' := hbw hk0
              have hc' := bcellS hb'
              have hsz : w5.heap.size ≤ w'.heap.size := hb'.size
              obtain ⟨d7, rfl⟩ := h9 (ready_dep hi 9 (by kernel_rfl))
              have hA := HA5.out.call hb' (Nat.le_refl _)
              refine wpOp_wp rfl (by rfl) (wp_g_del (.tmp 46) (.tmp 52) 100 71 rfl 4 lk_keyed Try.underlying100 rfl hA.set_ (lkV x) rfl hkx ?_)
              intro w2 hm2 hg2
              exact ⟨by simpa using hL, _, _, _, _, _, _, _, _, _, _, rfl, (fun h' => by rw [set_same (by omega)] at h'; cases h'), (fun h => (h0 ((set_other (by decide)).symm.trans h))), (fun h => (h1 ((set_other (by decide)).symm.trans h))), (fun h => (h2 ((set_other (by decide)).symm.trans h))), (fun h => (h3 ((set_other (by decide)).symm.trans h))), (fun h => (h4 ((set_other (by decide)).symm.trans h))), (fun h => (h5 ((set_other (by decide)).symm.trans h))), (fun h => (h6 ((set_other (by decide)).symm.trans h))), (fun h => (h7 ((set_other (by decide)).symm.trans h))), (fun h => ⟨set_keep (h8 ((set_other (by decide)).symm.trans h)).1, (h8 ((set_other (by decide)).symm.trans h)).2⟩), (fun h => ⟨set_keep (h9 ((set_other (by decide)).symm.trans h)).1, (h9 ((set_other (by decide)).symm.trans h)).2⟩), fun _ => ⟨fun d hd => set_keep (by rcases (by simpa using hd : d = 3 ∨ d = 7 ∨ d = 9) with rfl | rfl | rfl <;> (first | exact ready_dep hi 3 (by kernel_rfl) | exact ready_dep hi 9 (by kernel_rfl) | exact d7)), hA.setMap (.inr (.inl rfl)) hm2 hg2⟩⟩
          · rintro L a w' ⟨hL, u43, u44, u45, u46, u47, u48, u49, u50, u51, u52, rfl, hbw, h0, h1, h2, h3, h4, h5, h6, h7, h8, h9, h10⟩ hr
            have hall := all_listed hL (by kernel_rfl) hr
            obtain rfl := h0 (hall 0 (by decide))
            obtain rfl := h1 (hall 1 (by decide))
            obtain rfl := h2 (hall 2 (by decide))
            obtain rfl := h3 (hall 3 (by decide))
            obtain rfl := h4 (hall 4 (by decide))
            obtain rfl := h5 (hall 5 (by decide))
            obtain rfl := h6 (hall 6 (by decide))
            obtain rfl := h7 (hall 7 (by decide))
            have g8 := h8 (hall 8 (by decide))
            have g9 := h9 (hall 9 (by decide))
            have g10 := (h10 (hall 10 (by decide))).2
            clear hall hr hL hbw h0 h1 h2 h3 h4 h5 h6 h7
            try dsimp only
            obtain ⟨w6, hw6⟩ : ∃ w6 : World, w6 = w' := ⟨_, rfl⟩
            rw [← hw6] at g10 ⊢
            clear hw6 HA5 t7 q0 q1 s5P f6 t6 g8 g9
            have t6 : w6.cell? ⟨P, 6, none⟩ = some (.slice (some ⟨g, off, none⟩) (t.length + 1) c) := (g10.cell (i := 6) rfl).1
            have f6 := (g10.cell (i := 6) (u := .slice (some ⟨g, off, none⟩) (t.length + 1) c) rfl).2
            have HA6 := Lib.hid g10
            have s6P := row_lt' g10.pl
            clear g10 HR
            go_wp2_with fail
            · refine bodyPost_end (results_none rfl _ _ _) rfl ?_
              have g7 := HA6.out.setPl (.inl rfl) 6 (.slice (some ⟨g, off, none⟩) t.length 0)
              rw [plC_set6] at g7
              obtain rfl : t = [] := by
                cases t with
                | nil => rfl
                | cons a b => rw [List.length_cons] at hct; omega
              refine ⟨rfl, _, g7.pl, ?_, ?_, g7.upd, g7.own⟩
              · rw [HAD2.out]; exact g7.row.none_
              · rw [HAD2.out]; exact ⟨_, g7.set_, lnk_del HND.out HS5.out⟩
            · refine bodyPost_end (results_none rfl _ _ _) rfl ?_
              have g7 := HA6.out.setPl (.inl rfl) 6 (.slice (some ⟨g, off + 2, none⟩) t.length (c - 1))
              rw [plC_set6] at g7
              obtain ⟨g', off', c', e3, -, -, -, -, -, hrow⟩ := g7.row.cons
              injection e3 with e3 _ e4
              injection e3 with e3
              injection e3 with e5 e6 _
              subst e4 e5 e6
              refine ⟨rfl, _, g7.pl, ?_, ?_, g7.upd, g7.own⟩
              · rw [HAD2.out]; exact hrow
              · rw [HAD2.out]; exact ⟨_, g7.set_, lnk_del HND.out HS5.out⟩
        · have HAD2 := Lib.hid (show addM most mem l = x :: t by rw [HAD.out, if_neg (by simpa using hgt)])
          go_wp2_with fail
          refine bodyPost_end (results_none rfl _ _ _) rfl ?_
          have g5 := HA5.out
          refine ⟨rfl, _, g5.pl, ?_, ?_, g5.upd, g5.own⟩
          · rw [HAD2.out]; exact g5.row
          · rw [HAD2.out]; exact ⟨_, g5.set_, HS5.out⟩
end Go.Proofs.Ytehoaenkkmmobaa
