/-
  A REGION THAT DRAWS ITS ORDER, INSIDE A ROUND, BY AN INVARIANT.
-/
import Derived.Test.YthegmomjfbcabaaDoorBase
import Derived.Test.YthegmomjfbcabaaDoorLoopD
import Derived.OrdersIn
namespace Go
section
variable {P : Program} {ops : Array Oper} {Q : Exit → Act → World → Prop}
theorem wpIn_of_wp_op {l n : Nat} {o : Oper} {a : Act} {w : World} {K : Act → World → Prop} (hd : ∀ c, o.op ≠ .defer c) (h : o.wp P a w K Q) : o.wpIn (Fence.wide.inRound l) n P a w K Q := by
  refine ⟨fun _ _ => trivial, ?_⟩
  rw [Oper.semAt_eq _ _ _ hd]
  unfold Oper.wp at h
  revert h
  cases (execOp a.eval o).run P w with
  | ok x w' =>
    cases x <;> intro h <;> first
      | exact (h : False).elim
      | exact ⟨fun h' => by simp [Fence.wide] at h', CallsIn.inRound l (callsIn_wide.2 h)⟩
      | exact ⟨fun h' => by simp [Fence.wide] at h', fun c cs _ => (by
          obtain ⟨v, w2, r, s⟩ := h c cs
          exact ⟨v, w2, r, stepsIn_wide.2 s⟩)⟩
      | exact h
  | halt x w' => cases x <;> exact fun h => h
theorem wpAnyIn_inv {l n : Nat} (hnd : ∀ o ∈ ops, ∀ c, o.op ≠ .defer c) (J : Array Bool → Act → World → Prop)
    (hs : ∀ (i : Nat) (L : Array Bool) (a : Act) (w : World), J L a w → i ∈ Region.ready .any ops L → ∃ o, ops[i]? = some o ∧ Region.wanted o (yielded ops a.tmps) = true ∧ o.wp P a w (J (L.setIfInBounds i true)) Q)
    (hd : ∀ (L : Array Bool) (a : Act) (w : World), J L a w → Region.ready .any ops L = [] → Q .normal a w) :
    ∀ (fuel : Nat) (L : Array Bool) (a : Act) (w : World), L.size = ops.size → (L.toList.countP (! ·)) ≤ fuel → J L a w → wpAnyIn (Fence.wide.inRound l) n P .any ops Q fuel L a w := by
  intro fuel
  induction fuel with
  | zero =>
    intro L a w hL hc hJ
    have hr : Region.ready .any ops L = [] := by
      rw [List.eq_nil_iff_forall_not_mem]
      intro i hi
      have h0 := (mem_ready.1 hi).1
      have hlt : i < L.size := by
        rcases Nat.lt_or_ge i L.size with h' | h'
        · exact h'
        · simp [Array.getElem?_eq_none h'] at h0
      have h1 : 0 < L.toList.countP (! ·) := by
        rw [List.countP_pos_iff]
        exact ⟨L[i], by simp, by simpa [hlt] using h0⟩
      omega
    exact ⟨hr, hd L a w hJ hr⟩
  | succ fuel ih =>
    intro L a w hL hc hJ
    refine ⟨fun hr => hd L a w hJ hr, fun i hi => ?_⟩
    obtain ⟨o, ho, hw, hp⟩ := hs i L a w hJ hi
    have h0 := (mem_ready.1 hi).1
    have hlt : i < L.size := by
      rcases Nat.lt_or_ge i L.size with h' | h'
      · exact h'
      · simp [Array.getElem?_eq_none h'] at h0
    have hb : L[i] = false := by simpa [hlt] using h0
    have h2 : (L.setIfInBounds i true).toList.countP (! ·) + 1 = L.toList.countP (! ·) := by
      rw [Array.toList_setIfInBounds]
      have e : L.toList = L.toList.take i ++ L[i] :: L.toList.drop (i + 1) := by
        have := List.take_append_drop i L.toList
        rw [List.drop_eq_getElem_cons (by simpa using hlt)] at this
        simpa using this.symm
      have e2 : L.toList.set i true = L.toList.take i ++ true :: L.toList.drop (i + 1) := by
        rw [List.set_eq_take_append_cons_drop, if_pos (by simpa using hlt)]
      rw [e2]
      conv => rhs; rw [e]
      simp [List.countP_append, hb]
      omega
    unfold wpOpIn
    rw [ho]
    simp only [hw, if_true]
    exact wpIn_of_wp_op (hnd o (Array.mem_of_getElem? ho)) (Oper.wp_mono (fun a' w' h' => ih _ a' w' (by simpa using hL) (by omega) h') hp)
/-- the rule -/
theorem wpIn_region_inv {l n : Nat} {id : Nat} {a : Act} {w : World} (hm : P.follows .mixedOrders = true) (hnd : ∀ o ∈ ops, ∀ c, o.op ≠ .defer c) (J : Array Bool → Act → World → Prop)
    (h0 : J (Array.replicate ops.size false) a w.drew)
    (hs : ∀ (i : Nat) (L : Array Bool) (a : Act) (w : World), J L a w → i ∈ Region.ready .any ops L → ∃ o, ops[i]? = some o ∧ Region.wanted o (yielded ops a.tmps) = true ∧ o.wp P a w (J (L.setIfInBounds i true)) Q)
    (hd : ∀ (L : Array Bool) (a : Act) (w : World), J L a w → Region.ready .any ops L = [] → Q .normal a w) : (Code.region id ops true).wpIn (Fence.wide.inRound l) n P Q a w :=
  wpIn_region_any hm (wpAnyIn_inv hnd J hs hd ops.size _ a _ (by simp) (by simp [List.countP_replicate]) h0)
end
end Go
