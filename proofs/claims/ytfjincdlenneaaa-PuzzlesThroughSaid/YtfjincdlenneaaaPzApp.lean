/-
  APPEND of a list of integers to one that is owned, whatever the source's address (nil too).
-/
import Derived.Test.YtfjincdlenneaaaPzA
import Derived.Laws.AppendOwnNone
namespace Go.Proofs.Ytfjincdlenneaaa
open Go.RowKit Go.Shelf
theorem row_none {w : World} {a : Option Addr} {len cap : Nat} {zs : List Int} (h : IsRow .i64 w a len cap zs) : a = none → len = 0 ∧ cap = 0 := by
  intro e
  rcases h with ⟨_, h1, h2, _⟩ | ⟨x, h1, _⟩
  · exact ⟨h1, h2⟩
  · rw [e] at h1; cases h1
theorem own_cap {w : World} {base : Nat} {u : Value} {x : List Int} (h : w.ownsRow base 3 1 u x.length (x.map I)) : ∃ (A : Option Addr) (c : Nat), u = .slice A x.length c ∧ IntsR w w.heap.size A x ∧ x.length ≤ maxLen ∧ x.length ≤ c := by
  obtain ⟨A, c, e, hi, hm⟩ := own_ints h
  refine ⟨A, c, e, hi, hm, ?_⟩
  rcases h.2 with ⟨h1, h0⟩ | ⟨g, cap, cur, h1, _, _, h2, _⟩
  · omega
  · rw [e] at h1
    injection h1 with _ _ h3
    omega
theorem ints_take {w : World} {B : Nat} {A : Option Addr} {xs : List Int} (h : IntsR w B A xs) (k : Nat) : IntsR w B A (xs.take k) := by
  intro h0
  obtain ⟨ad, e, hb, hc⟩ := h (by rw [List.length_take] at h0; omega)
  refine ⟨ad, e, hb, fun j hj => ?_⟩
  rw [List.length_take] at hj
  rw [hc j (by omega)]
  congr 2
  simp only [nth]
  rw [List.getElem?_take_of_lt (by omega)]
theorem app_src {w : World} {B : Nat} {ad : Addr} {M : List Int} (h : IntsR w B (some ad) M) : (∀ (j : Nat) (u : Value), (M.map I)[j]? = some u → w.cell? (ad.add j) = some u) ∧ ∀ u ∈ M.map I, u.oneCell' = true := by
  constructor
  · intro j u hj
    obtain ⟨h1, e⟩ := List.getElem?_eq_some_iff.1 hj
    rw [List.length_map] at h1
    obtain ⟨ad', hA, hbl, hcc⟩ := h.at_ h1
    injection hA with hA
    have hA' := hA.symm
    subst hA'
    rw [← e, List.getElem_map, ← nth_lt h1]
    exact hcc
  · intro u hu
    obtain ⟨x, _, rfl⟩ := List.mem_map.1 hu
    rfl
theorem wpList_append_ints {ops : Array Oper} {rest : List Oper} {o : Oper} {a : Act} {Q : Exit → Act → World → Prop} {w : World} (hgd : o.guard = none) (s x : Operand)
    (ho : o.op = .call { callee := .builtin .append, args := #[s, x], argTypes := #[29, 29] }) (base : Nat) (v : Value) (L : List Int) (hs : a.eval s = v) (hown : w.ownsRow base 3 1 v L.length (L.map I))
    (A : Option Addr) (c : Nat) (M : List Int) (hx : a.eval x = .slice A M.length c) (hsrc : IntsR w w.heap.size A M) (hA : A = none → M.length = 0 ∧ c = 0) (hlen : (L.length + M.length) * 8 ≤ 140737488355328) (hbase : base ≤ w.heap.size)
    (h : ∀ v' w', w'.ownsRow base 3 1 v' (L ++ M).length ((L ++ M).map I) → Below base w w' → wpList Try.prog ops Q rest (a.put o.dst v') w') : wpList Try.prog ops Q (o :: rest) a w := by
  obtain ⟨i0, hi, hz0, hz1, hz2⟩ := info_parts info_int
  cases A with
  | none =>
    obtain ⟨h1, h2⟩ := hA rfl
    obtain rfl : M = [] := List.eq_nil_of_length_eq_zero h1
    subst h2
    refine wpList_append_own_none hgd s x 29 ho base 3 i0 1 Try.underlying29 hi v L.length (L.map I) hs hown hx (h v w ?_ (Below.refl _ _))
    rw [List.append_nil]
    exact hown
  | some ad =>
    obtain ⟨h1, h2⟩ := app_src hsrc
    have hrow := hown.lt
    refine wpList_append_own w hgd s x 29 ho base 3 i0 (.int .i64 0) 1 8 Try.underlying29 hi hz0 hz1 hz2 rfl (by decide) v L.length (L.map I) hs hown ad M.length c (M.map I) hx (by simp) h1 h2 (by unfold maxLen; omega) hlen hbase fun v' w' g1 g2 _ => h v' w' ?_ ?_
    · rw [List.length_append, List.map_append]
      exact g1
    · exact (Below.refl _ _).grown g2 hbase (fun j hj => (hrow j hj).1)
end Go.Proofs.Ytfjincdlenneaaa
