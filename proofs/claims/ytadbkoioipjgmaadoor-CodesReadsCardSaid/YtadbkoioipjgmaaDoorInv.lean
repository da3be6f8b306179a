/-
  A REGION THAT DRAWS ITS ORDER, BY AN INVARIANT: one obligation for each operation, whatever the order.
-/
import Derived.Test.YtadbkoioipjgmaaDoorMem
import Derived.Orders
import Derived.Shelf.Abstract
namespace Go
section
variable {P : Program} {ops : Array Oper} {Q : Exit → Act → World → Prop}
theorem wpAny_inv (J : Array Bool → Act → World → Prop)
    (hs : ∀ (i : Nat) (L : Array Bool) (a : Act) (w : World), J L a w → i ∈ Region.ready .any ops L → wpOp P ops Q i (J (L.setIfInBounds i true)) a w)
    (hd : ∀ (L : Array Bool) (a : Act) (w : World), J L a w → Region.ready .any ops L = [] → Q .normal a w) :
    ∀ (fuel : Nat) (L : Array Bool) (a : Act) (w : World), L.size = ops.size → (L.toList.countP (! ·)) ≤ fuel → J L a w → wpAny P .any ops Q fuel L a w := by
  intro fuel
  induction fuel with
  | zero =>
    intro L a w hL hc hJ
    have hr : Region.ready .any ops L = [] := by
      rw [List.eq_nil_iff_forall_not_mem]
      intro i hi
      have h0 := (mem_ready.1 hi).1
      have hlt : i < L.size := by
        rcases Nat.lt_or_ge i L.size with h' | h'
        · exact h'
        · simp [Array.getElem?_eq_none h'] at h0
      have h1 : 0 < L.toList.countP (! ·) := by
        rw [List.countP_pos_iff]
        exact ⟨L[i], by simp, by simpa [hlt] using h0⟩
      omega
    exact ⟨hr, hd L a w hJ hr⟩
  | succ fuel ih =>
    intro L a w hL hc hJ
    refine ⟨fun hr => hd L a w hJ hr, fun i hi => ?_⟩
    refine wpOp_mono (fun a' w' h' => ih _ a' w' (by simpa using hL) ?_ h') (hs i L a w hJ hi)
    have h0 := (mem_ready.1 hi).1
    have hlt : i < L.size := by
      rcases Nat.lt_or_ge i L.size with h' | h'
      · exact h'
      · simp [Array.getElem?_eq_none h'] at h0
    have hb : L[i] = false := by simpa [hlt] using h0
    have h2 : (L.setIfInBounds i true).toList.countP (! ·) + 1 = L.toList.countP (! ·) := by
      rw [Array.toList_setIfInBounds]
      have e : L.toList = L.toList.take i ++ L[i] :: L.toList.drop (i + 1) := by
        have := List.take_append_drop i L.toList
        rw [List.drop_eq_getElem_cons (by simpa using hlt)] at this
        simpa using this.symm
      have e2 : L.toList.set i true = L.toList.take i ++ true :: L.toList.drop (i + 1) := by
        rw [List.set_eq_take_append_cons_drop, if_pos (by simpa using hlt)]
      rw [e2]
      conv => rhs; rw [e]
      simp [List.countP_append, hb]
      omega
    omega
/-- the rule -/
theorem wp_region_inv {id : Nat} {a : Act} {w : World} (hm : P.follows .mixedOrders = true) (J : Array Bool → Act → World → Prop)
    (h0 : J (Array.replicate ops.size false) a w.drew)
    (hs : ∀ (i : Nat) (L : Array Bool) (a : Act) (w : World), J L a w → i ∈ Region.ready .any ops L → wpOp P ops Q i (J (L.setIfInBounds i true)) a w)
    (hd : ∀ (L : Array Bool) (a : Act) (w : World), J L a w → Region.ready .any ops L = [] → Q .normal a w) : (Code.region id ops true).wp P Q a w :=
  wp_region_any hm (wpAny_inv J hs hd ops.size _ a _ (by simp) (by simp [List.countP_replicate]) h0)
/-- what an operation waits for has come up -/
theorem ready_dep {L : Array Bool} {i : Nat} (hi : i ∈ Region.ready .any ops L) (j : Nat) (hj : ((ops[i]?).map fun o => o.after.any fun e => Region.binds .any e && e.on == j).getD false = true) : L.getD j false = true := by
  obtain ⟨_, o, ho, h⟩ := mem_ready.1 hi
  rw [ho] at hj
  obtain ⟨e, he, hb⟩ := Array.any_eq_true'.1 hj
  simp only [Bool.and_eq_true, beq_iff_eq] at hb
  rw [← hb.2]
  exact h e he hb.1
theorem ready_not' {L : Array Bool} {i : Nat} (hi : i ∈ Region.ready .any ops L) (hL : i < L.size) : L.getD i false = false := by
  have := (mem_ready.1 hi).1
  simpa [hL] using this
theorem ready_lt {L : Array Bool} {i : Nat} (hi : i ∈ Region.ready .any ops L) : i < ops.size := by
  obtain ⟨_, o, ho, _⟩ := mem_ready.1 hi
  exact (Array.getElem?_eq_some_iff.1 ho).1
theorem ready_not {L : Array Bool} {i : Nat} (hi : i ∈ Region.ready .any ops L) : L.getD i true = false := (mem_ready.1 hi).1
theorem wpOp_of {i : Nat} {o : Oper} {K : Act → World → Prop} {a : Act} {w : World} (ho : ops[i]? = some o) (hg : o.guard = none) (h : o.wp P a w K Q) : wpOp P ops Q i K a w := by
  unfold wpOp
  simp only [ho]
  rw [if_pos (by unfold Region.wanted; rw [hg])]
  exact .inl h
/-- a call of a function by its name -/
theorem wp_call_fns {o : Oper} {K : Act → World → Prop} {a : Act} {w : World} {f : FuncId} {xs : Array Operand} {ts : Array TypeId} {vs : Array Value} (ho : o.op = .call { callee := .value (.func f), args := xs, argTypes := ts })
    (hx : xs.map a.eval = vs) (he : Go.Proofs.Enters P f)
    (h : Calls P f vs w fun | .returned v, w'' => K (a.put o.dst v) w'' | .panicked chain, w'' => Q (.panic chain) a w'' | .outgrown, _ => LetsOut Q) : o.wp P a w K Q := by
  unfold Oper.wp execOp
  have he' : (callFunc f vs).run P w = .ok (.enter f vs) w := he _ _
  have hv : a.eval (.func f) = .func (.func f) #[] #[] := rfl
  simp only [ho, resolve, invoke, Sem.run_bind, hx, hv]
  simp [go_sem, he']
  exact h
theorem wp_call_fn {o : Oper} {K : Act → World → Prop} {a : Act} {w : World} {f : FuncId} {x y : Operand} {ts : Array TypeId} {v1 v2 : Value} (ho : o.op = .call { callee := .value (.func f), args := #[x, y], argTypes := ts })
    (hx : a.eval x = v1) (hy : a.eval y = v2) (he : Go.Proofs.Enters P f)
    (h : Calls P f #[v1, v2] w fun | .returned v, w'' => K (a.put o.dst v) w'' | .panicked chain, w'' => Q (.panic chain) a w'' | .outgrown, _ => LetsOut Q) : o.wp P a w K Q :=
  wp_call_fns ho (by simp [hx, hy]) he h
/-- an operation that yields a value and leaves the world -/
theorem wpOp_val {i : Nat} {o : Oper} {K : Act → World → Prop} {a : Act} {w : World} (v : Value) (ho : ops[i]? = some o) (hw : Region.wanted o (yielded ops a.tmps) = true) (hv : (execOp a.eval o).run P w = .ok (.value v) w)
    (h : K (a.put o.dst v) w) : wpOp P ops Q i K a w := by
  unfold wpOp
  simp only [ho]
  rw [if_pos hw]
  unfold Oper.wp
  rw [hv]
  exact .inl h
theorem wpOp_wp {i : Nat} {o : Oper} {K : Act → World → Prop} {a : Act} {w : World} (ho : ops[i]? = some o) (hw : Region.wanted o (yielded ops a.tmps) = true) (h : o.wp P a w K Q) : wpOp P ops Q i K a w := by
  unfold wpOp
  simp only [ho]
  rw [if_pos hw]
  exact .inl h
/-- an operation whose guard says no -/
theorem wpOp_skip {i : Nat} {o : Oper} {K : Act → World → Prop} {a : Act} {w : World} (ho : ops[i]? = some o) (hw : Region.wanted o (yielded ops a.tmps) = false) (h : K (a.put o.dst undef) w) : wpOp P ops Q i K a w := by
  unfold wpOp
  simp only [ho]
  rw [if_neg (by rw [hw]; decide)]
  exact h
theorem set_same {L : Array Bool} {i : Nat} (h : i < L.size) : (L.setIfInBounds i true).getD i false = true := by simp [h]
theorem set_other {L : Array Bool} {i j : Nat} (h : i ≠ j) : (L.setIfInBounds i true).getD j false = L.getD j false := by simp [Array.getElem?_setIfInBounds_ne h]
/-- all have come up -/
theorem all_listed {L : Array Bool} (hL : L.size = ops.size) (hacyc : (List.range ops.size).all (fun i => ((ops[i]?).map fun o => o.after.all fun e => !Region.binds .any e || e.on < i).getD true) = true)
    (hr : Region.ready .any ops L = []) : ∀ i, i < ops.size → L.getD i false = true := by
  intro i
  induction i using Nat.strongRecOn with
  | _ i ih =>
    intro hi
    have hil : i < L.size := by omega
    cases hb : L[i] with
    | true => simp [hil, hb]
    | false =>
      exfalso
      have hmem : i ∈ Region.ready .any ops L := by
        rw [mem_ready]
        refine ⟨by simp [hil, hb], ops[i], Array.getElem?_eq_getElem hi, fun e he hbnd => ?_⟩
        have h1 := List.all_eq_true.1 hacyc i (by simpa using hi)
        rw [Array.getElem?_eq_getElem hi] at h1
        simp only [Option.map_some, Option.getD_some] at h1
        have h2 := Array.all_eq_true_iff_forall_mem.1 h1 e he
        simp only [hbnd, Bool.not_true, Bool.false_or, decide_eq_true_eq] at h2
        exact ih e.on h2 (by omega)
      rw [hr] at hmem
      cases hmem
end
end Go
