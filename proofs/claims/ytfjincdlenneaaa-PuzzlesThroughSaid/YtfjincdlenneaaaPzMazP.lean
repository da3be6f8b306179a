/-
  PURE FACTS: mazes: where a ball stops; lists of moves in their order; the search in the order of its queue. Nothing of the program but grids.
-/
import Derived.Test.YtfjincdlenneaaaPzGrd
namespace Go.Proofs.Ytfjincdlenneaaa
/-- how many cells lie ahead of a cell, on the side s -/
def ahd (W H c s : Nat) : Nat := if s = 0 then c / W else if s = 1 then W - 1 - c % W else if s = 2 then H - 1 - c / W else c % W
theorem dm {W q r : Nat} (hr : r < W) : (W * q + r) / W = q ∧ (W * q + r) % W = r := by
  have hW : 0 < W := by omega
  constructor
  · rw [Nat.mul_add_div hW, Nat.div_eq_of_lt hr, Nat.add_zero]
  · rw [Nat.mul_add_mod, Nat.mod_eq_of_lt hr]
theorem nx_ahd {W H c s k : Nat} (hW : 1 ≤ W) (hs : s ≤ 3) (hc : c < W * H) (h : nxO W H c s = some k) : k < W * H ∧ ahd W H c s = ahd W H k s + 1 := by
  obtain ⟨q, r, hr, rfl⟩ : ∃ q r, r < W ∧ c = W * q + r := ⟨c / W, c % W, Nat.mod_lt _ hW, (Nat.div_add_mod c W).symm⟩
  have hq : q < H := Nat.lt_of_mul_lt_mul_left (a := W) (by omega)
  have hd := dm (q := q) hr
  have hle : ∀ j, j < H → W * j + W ≤ W * H := fun j hj => by rw [← Nat.mul_succ]; exact Nat.mul_le_mul_left W hj
  unfold nxO at h
  rw [hd.1, hd.2] at h
  obtain rfl | rfl | rfl | rfl : s = 0 ∨ s = 1 ∨ s = 2 ∨ s = 3 := by omega
  · rw [if_pos rfl] at h
    by_cases h0 : 0 < q
    · rw [if_pos h0] at h
      obtain rfl := Option.some.inj h
      obtain ⟨p, rfl⟩ : ∃ p, q = p + 1 := ⟨q - 1, by omega⟩
      have e : W * (p + 1) + r - W = W * p + r := by rw [Nat.mul_succ]; omega
      rw [e]
      have := hle p (by omega)
      refine ⟨by omega, ?_⟩
      simp only [ahd, if_pos]
      rw [hd.1, (dm hr).1]
    · rw [if_neg h0] at h; cases h
  · rw [if_neg (by decide), if_pos rfl] at h
    by_cases h0 : r + 1 < W
    · rw [if_pos h0] at h
      obtain rfl := Option.some.inj h
      have := hle q hq
      refine ⟨by omega, ?_⟩
      simp only [ahd, if_pos, if_neg (show ¬ (1 = 0) by decide)]
      rw [hd.2, Nat.add_assoc, (dm h0).2]
      omega
    · rw [if_neg h0] at h; cases h
  · rw [if_neg (by decide), if_neg (by decide), if_pos rfl] at h
    by_cases h0 : q + 1 < H
    · rw [if_pos h0] at h
      obtain rfl := Option.some.inj h
      have := hle (q + 1) h0
      have e : W * q + r + W = W * (q + 1) + r := by rw [Nat.mul_succ]; omega
      rw [e]
      refine ⟨by omega, ?_⟩
      simp only [ahd, if_pos, if_neg (show ¬ (2 = 0) by decide), if_neg (show ¬ (2 = 1) by decide)]
      rw [hd.1, (dm hr).1]
      omega
    · rw [if_neg h0] at h; cases h
  · rw [if_neg (by decide), if_neg (by decide), if_neg (by decide)] at h
    by_cases h0 : 0 < r
    · rw [if_pos h0] at h
      obtain rfl := Option.some.inj h
      obtain ⟨p, rfl⟩ : ∃ p, r = p + 1 := ⟨r - 1, by omega⟩
      refine ⟨by omega, ?_⟩
      simp only [ahd, if_neg (show ¬ (3 = 0) by decide), if_neg (show ¬ (3 = 1) by decide), if_neg (show ¬ (3 = 2) by decide)]
      rw [hd.2, show W * q + (p + 1) - 1 = W * q + p by omega, (dm (show p < W by omega)).2]
    · rw [if_neg h0] at h; cases h
/-- where a ball stops, that rolls over at most so many cells -/
def rolN (W H : Nat) (wall : Nat → Bool) (s : Nat) : Nat → Nat → Nat
  | 0, c => c
  | f + 1, c => match nxO W H c s with | some k => if wall k then c else rolN W H wall s f k | none => c
def rolF (W H : Nat) (wall : Nat → Bool) (c s : Nat) : Nat := rolN W H wall s (ahd W H c s) c
theorem rol_go {W H c s k : Nat} {wall : Nat → Bool} (hW : 1 ≤ W) (hs : s ≤ 3) (hc : c < W * H) (h : nxO W H c s = some k) (hw : wall k = false) : rolF W H wall c s = rolF W H wall k s := by
  rw [rolF, (nx_ahd hW hs hc h).2, rolN, h]
  simp only [hw]
  rfl
theorem rol_none {W H c s : Nat} {wall : Nat → Bool} (h : nxO W H c s = none) : rolF W H wall c s = c := by
  rw [rolF]
  cases ahd W H c s with
  | zero => rfl
  | succ f => rw [rolN, h]
theorem rol_wall {W H c s k : Nat} {wall : Nat → Bool} (h : nxO W H c s = some k) (hw : wall k = true) : rolF W H wall c s = c := by
  rw [rolF]
  cases ahd W H c s with
  | zero => rfl
  | succ f => rw [rolN, h]; simp only [hw]; rfl
theorem rolN_in {W H s : Nat} {wall : Nat → Bool} (hW : 1 ≤ W) (hs : s ≤ 3) : ∀ f c, c < W * H → wall c = false → rolN W H wall s f c < W * H ∧ wall (rolN W H wall s f c) = false := by
  intro f
  induction f with
  | zero => exact fun c h1 h2 => ⟨h1, h2⟩
  | succ f ih =>
    intro c h1 h2
    rw [rolN]
    cases hn : nxO W H c s with
    | none => exact ⟨h1, h2⟩
    | some k =>
      cases hw : wall k
      · simp only [hw]
        exact ih k (nx_ahd hW hs h1 hn).1 hw
      · simp only [hw]
        exact ⟨h1, h2⟩
theorem rol_in {W H c s : Nat} {wall : Nat → Bool} (hW : 1 ≤ W) (hs : s ≤ 3) (hc : c < W * H) (hw : wall c = false) : rolF W H wall c s < W * H ∧ wall (rolF W H wall c s) = false := rolN_in hW hs _ c hc hw
/-- behind some moves -/
def wlk (W H : Nat) (wall : Nat → Bool) (c : Nat) (p : List Int) : Nat := p.foldl (fun c s => rolF W H wall c s.toNat) c
theorem wlk_snoc (W H : Nat) (wall : Nat → Bool) (c : Nat) (p : List Int) (s : Int) : wlk W H wall c (p ++ [s]) = rolF W H wall (wlk W H wall c p) s.toNat := by simp [wlk]
theorem wlk_cons (W H : Nat) (wall : Nat → Bool) (c : Nat) (p : List Int) (s : Int) : wlk W H wall c (s :: p) = wlk W H wall (rolF W H wall c s.toNat) p := rfl
/-- moves -/
def Mv (p : List Int) : Prop := ∀ x ∈ p, 0 ≤ x ∧ x ≤ 3
theorem Mv.snoc {p : List Int} {s : Int} : Mv (p ++ [s]) ↔ Mv p ∧ 0 ≤ s ∧ s ≤ 3 := by
  simp only [Mv, List.mem_append, List.mem_singleton]
  exact ⟨fun h => ⟨fun x hx => h x (.inl hx), h s (.inr rfl)⟩, fun h x hx => hx.elim (h.1 x) (fun e => e ▸ h.2)⟩
theorem Mv.nil : Mv [] := fun x hx => by simp at hx
theorem snoc_ind {P : List Int → Prop} (h0 : P []) (h1 : ∀ p s, P p → P (p ++ [s])) (p : List Int) : P p := by
  rw [← List.reverse_reverse p]
  induction p.reverse with
  | nil => exact h0
  | cons x r ih => rw [List.reverse_cons]; exact h1 _ _ ih
theorem wlk_in {W H c : Nat} {wall : Nat → Bool} (hW : 1 ≤ W) (hc : c < W * H) (hw : wall c = false) (p : List Int) : Mv p → wlk W H wall c p < W * H ∧ wall (wlk W H wall c p) = false := by
  induction p using snoc_ind with
  | h0 => exact fun _ => ⟨hc, hw⟩
  | h1 p s ih =>
    intro h
    have h' := Mv.snoc.1 h
    have := ih h'.1
    rw [wlk_snoc]
    exact rol_in hW (by omega) this.1 this.2
/-- the number of a list of moves: a shorter one has the lesser, and of two that are as long the one that comes before -/
def cod (p : List Int) : Nat := p.foldl (fun n s => 8 * n + s.toNat) 1
theorem cod_snoc (p : List Int) (s : Int) : cod (p ++ [s]) = 8 * cod p + s.toNat := by simp [cod]
theorem cod_len (p : List Int) : Mv p → 8 ^ p.length ≤ cod p ∧ cod p < 2 * 8 ^ p.length := by
  induction p using snoc_ind with
  | h0 => exact fun _ => ⟨Nat.le_refl 1, by decide⟩
  | h1 p s ih =>
    intro h
    have h' := Mv.snoc.1 h
    have := ih h'.1
    rw [cod_snoc, List.length_append, List.length_singleton, Nat.pow_succ]
    omega
theorem cod_short {p q : List Int} (hp : Mv p) (hq : Mv q) (h : p.length < q.length) : cod p < cod q := by
  have h1 := cod_len p hp
  have h2 := cod_len q hq
  have h3 : 8 ^ (p.length + 1) ≤ 8 ^ q.length := Nat.pow_le_pow_right (by decide) h
  rw [Nat.pow_succ] at h3
  omega
theorem cod_le_len {p q : List Int} (hp : Mv p) (hq : Mv q) (h : cod p ≤ cod q) : p.length ≤ q.length := by
  rcases Nat.lt_or_ge q.length p.length with h1 | h1
  · have := cod_short hq hp h1; omega
  · exact h1
theorem cod_inj (p : List Int) : ∀ q, Mv p → Mv q → cod p = cod q → p = q := by
  induction p using snoc_ind with
  | h0 =>
    intro q hp hq e
    have := cod_le_len hq hp (by omega)
    exact (List.eq_nil_of_length_eq_zero (by simpa using this)).symm
  | h1 p s ih =>
    intro q hp hq e
    have hl1 := cod_le_len hp hq (by omega)
    have hne : q ≠ [] := by intro e'; subst e'; simp at hl1
    rw [← List.dropLast_concat_getLast hne] at hq e ⊢
    generalize q.dropLast = q' at *
    generalize q.getLast hne = t at *
    have h1 := Mv.snoc.1 hp
    have h2 := Mv.snoc.1 hq
    rw [cod_snoc, cod_snoc] at e
    obtain rfl := ih q' h1.1 h2.1 (by omega)
    obtain rfl : s = t := by omega
    rfl
/-- two numbers, of which one is less, stay so whatever is put behind -/
theorem nodup_len : ∀ (N : Nat) (l : List Nat), l.Nodup → (∀ x ∈ l, x < N) → l.length ≤ N := by
  intro N
  induction N with
  | zero =>
    intro l _ h
    cases l with
    | nil => exact Nat.le_refl _
    | cons x r => exact absurd (h x (by simp)) (by omega)
  | succ N ih =>
    intro l hn h
    have h1 := ih (l.erase N) (hn.erase N) (fun x hx => by
      have h2 := h x (List.mem_of_mem_erase hx)
      have h3 := (hn.mem_erase_iff.1 hx).1
      omega)
    rw [List.length_erase] at h1
    split at h1 <;> omega
def cdR (R : Nat → Option (List Int)) (c : Nat) : Nat := cod ((R c).getD [])
theorem cdR_some {R : Nat → Option (List Int)} {c : Nat} {p : List Int} (h : R c = some p) : cdR R c = cod p := by rw [cdR, h]; rfl
def updR (R : Nat → Option (List Int)) (k : Nat) (p : List Int) : Nat → Option (List Int) := fun c => if c = k then some p else R c
theorem updR_self (R : Nat → Option (List Int)) (k : Nat) (p : List Int) : updR R k p k = some p := by simp [updR]
theorem updR_other {R : Nat → Option (List Int)} {k c : Nat} {p : List Int} (h : c ≠ k) : updR R k p c = R c := by simp [updR, h]
/-- the search: D is done, h is looked at on the sides below s, Q waits -/
structure Sch (W H : Nat) (wall : Nat → Bool) (fr : Nat) (D : List Nat) (h : Nat) (Q : List Nat) (R : Nat → Option (List Int)) (ph : List Int) (s : Nat) : Prop where
  hd : R h = some ph
  start : R fr = some []
  path : ∀ c p, R c = some p → Mv p ∧ wlk W H wall fr p = c ∧ c < W * H ∧ wall c = false
  mem : ∀ c, (R c).isSome = true ↔ c ∈ D ++ h :: Q
  nodup : (D ++ h :: Q).Nodup
  sorted : (h :: Q).Pairwise (fun a b => cdR R a < cdR R b)
  closed : ∀ c, c ∈ D → ∀ t, t ≤ 3 → ∃ p', R (rolF W H wall c t) = some p' ∧ cod p' ≤ 8 * cdR R c + t
  low : ∀ c p, R c = some p → cod p < 8 * cod ph + s
  part : ∀ t, t < s → ∃ p', R (rolF W H wall h t) = some p' ∧ cod p' ≤ 8 * cod ph + t
  long : ∀ c p, R c = some p → p.length ≤ D.length + 1
  hlong : ph.length ≤ D.length
section
variable {W H : Nat} {wall : Nat → Bool} {fr h s : Nat} {D Q : List Nat} {R : Nat → Option (List Int)} {ph : List Int}
theorem Sch.first (hc : fr < W * H) (hw : wall fr = false) : Sch W H wall fr [] fr [] (updR (fun _ => none) fr []) [] 0 where
  hd := updR_self _ _ _
  start := updR_self _ _ _
  path := fun c p e => by
    by_cases hcf : c = fr
    · subst hcf
      rw [updR_self] at e
      obtain rfl := Option.some.inj e
      exact ⟨Mv.nil, rfl, hc, hw⟩
    · rw [updR_other hcf] at e; cases e
  mem := fun c => by
    by_cases hcf : c = fr
    · subst hcf; simp [updR_self]
    · simp [updR_other hcf, hcf]
  nodup := by simp
  sorted := by simp
  closed := fun c hcm => by simp at hcm
  low := fun c p e => by
    by_cases hcf : c = fr
    · subst hcf
      rw [updR_self] at e
      obtain rfl := Option.some.inj e
      decide
    · rw [updR_other hcf] at e; cases e
  part := fun t ht => by omega
  long := fun c p e => by
    by_cases hcf : c = fr
    · subst hcf
      rw [updR_self] at e
      obtain rfl := Option.some.inj e
      simp
    · rw [updR_other hcf] at e; cases e
  hlong := Nat.le_refl 0
theorem Sch.found (S : Sch W H wall fr D h Q R ph s) {p' : List Int} (e : R (rolF W H wall h s) = some p') : Sch W H wall fr D h Q R ph (s + 1) where
  hd := S.hd
  start := S.start
  path := S.path
  mem := S.mem
  nodup := S.nodup
  sorted := S.sorted
  closed := S.closed
  low := fun c p h1 => by have := S.low c p h1; omega
  part := fun t ht => by
    rcases Nat.lt_succ_iff_lt_or_eq.1 ht with h1 | rfl
    · exact S.part t h1
    · exact ⟨p', e, by have := S.low _ _ e; omega⟩
  long := S.long
  hlong := S.hlong
theorem Sch.fresh (hW : 1 ≤ W) (S : Sch W H wall fr D h Q R ph s) (hs : s ≤ 3) (e : R (rolF W H wall h s) = none) : Sch W H wall fr D h (Q ++ [rolF W H wall h s]) (updR R (rolF W H wall h s) (ph ++ [(s : Int)])) ph (s + 1) := by
  have hh := S.path _ _ S.hd
  have hin := rol_in hW hs hh.2.2.1 hh.2.2.2
  have hm : rolF W H wall h s ∉ D ++ h :: Q := fun hx => by
    have := (S.mem _).2 hx
    rw [e] at this; cases this
  have hcod : cod (ph ++ [(s : Int)]) = 8 * cod ph + s := by rw [cod_snoc]; rfl
  have hne : ∀ c p, R c = some p → c ≠ rolF W H wall h s := fun c p h1 h2 => by rw [← h2, h1] at e; cases e
  have hold : ∀ c p, R c = some p → updR R (rolF W H wall h s) (ph ++ [(s : Int)]) c = some p := fun c p h1 => by rw [updR_other (hne c p h1)]; exact h1
  have hcd : ∀ c, c ∈ D ++ h :: Q → cdR (updR R (rolF W H wall h s) (ph ++ [(s : Int)])) c = cdR R c := fun c hc => by
    obtain ⟨p, hp⟩ := Option.isSome_iff_exists.1 ((S.mem c).2 hc)
    rw [cdR_some hp, cdR_some (hold c p hp)]
  have hcases : ∀ c p, updR R (rolF W H wall h s) (ph ++ [(s : Int)]) c = some p → (c = rolF W H wall h s ∧ p = ph ++ [(s : Int)]) ∨ R c = some p := fun c p h1 => by
    by_cases hc : c = rolF W H wall h s
    · subst hc
      rw [updR_self] at h1
      exact .inl ⟨rfl, (Option.some.inj h1).symm⟩
    · rw [updR_other hc] at h1
      exact .inr h1
  exact {
    hd := hold _ _ S.hd
    start := hold _ _ S.start
    path := fun c p h1 => by
      rcases hcases c p h1 with ⟨rfl, rfl⟩ | h2
      · refine ⟨Mv.snoc.2 ⟨hh.1, by omega, by omega⟩, ?_, hin.1, hin.2⟩
        rw [wlk_snoc, hh.2.1]; rfl
      · exact S.path c p h2
    mem := fun c => by
      by_cases hc : c = rolF W H wall h s
      · subst hc
        rw [updR_self]; simp
      · rw [updR_other hc, S.mem c]
        simp [hc]
    nodup := by
      rw [show D ++ h :: (Q ++ [rolF W H wall h s]) = (D ++ h :: Q) ++ [rolF W H wall h s] by simp]
      rw [List.nodup_append]
      refine ⟨S.nodup, by simp, fun a ha b hb e' => ?_⟩
      rw [List.mem_singleton.1 hb] at e'
      exact hm (e' ▸ ha)
    sorted := by
      rw [show h :: (Q ++ [rolF W H wall h s]) = (h :: Q) ++ [rolF W H wall h s] by simp]
      rw [List.pairwise_append]
      refine ⟨?_, by simp, fun a ha b hb => ?_⟩
      · refine List.Pairwise.imp_of_mem (fun {a b} ha hb hlt => ?_) S.sorted
        rw [hcd a (List.mem_append_right _ ha), hcd b (List.mem_append_right _ hb)]
        exact hlt
      · rw [List.mem_singleton.1 hb, hcd a (List.mem_append_right _ ha), cdR_some (updR_self _ _ _), hcod]
        obtain ⟨p, hp⟩ := Option.isSome_iff_exists.1 ((S.mem a).2 (List.mem_append_right _ ha))
        rw [cdR_some hp]
        exact S.low a p hp
    closed := fun c hc t ht => by
      obtain ⟨p', h1, h2⟩ := S.closed c hc t ht
      exact ⟨p', hold _ _ h1, by rw [hcd c (List.mem_append_left _ hc)]; exact h2⟩
    low := fun c p h1 => by
      rcases hcases c p h1 with ⟨rfl, rfl⟩ | h2
      · rw [hcod]; omega
      · have := S.low c p h2; omega
    part := fun t ht => by
      rcases Nat.lt_succ_iff_lt_or_eq.1 ht with h1 | rfl
      · obtain ⟨p', h2, h3⟩ := S.part t h1
        exact ⟨p', hold _ _ h2, h3⟩
      · exact ⟨_, updR_self _ _ _, by rw [hcod]; omega⟩
    long := fun c p h1 => by
      rcases hcases c p h1 with ⟨rfl, rfl⟩ | h2
      · have := S.hlong
        simp
        exact this
      · exact S.long c p h2
    hlong := S.hlong }
theorem Sch.next {h2 : Nat} (S : Sch W H wall fr D h (h2 :: Q) R ph 4) : ∃ p2, R h2 = some p2 ∧ Sch W H wall fr (D ++ [h]) h2 Q R p2 0 := by
  obtain ⟨p2, hp2⟩ := Option.isSome_iff_exists.1 ((S.mem h2).2 (by simp))
  have hlt : cod ph < cod p2 := by
    have := (List.pairwise_cons.1 S.sorted).1 h2 (by simp)
    rwa [cdR_some S.hd, cdR_some hp2] at this
  exact ⟨p2, hp2, {
    hd := hp2
    start := S.start
    path := S.path
    mem := fun c => by rw [S.mem c]; simp
    nodup := by have := S.nodup; simpa using this
    sorted := (List.pairwise_cons.1 S.sorted).2
    closed := fun c hc t ht => by
      rcases List.mem_append.1 hc with h1 | h1
      · exact S.closed c h1 t ht
      · rw [List.mem_singleton.1 h1]
        obtain ⟨p', h3, h4⟩ := S.part t (by omega)
        exact ⟨p', h3, by rw [cdR_some S.hd]; exact h4⟩
    low := fun c p h1 => by have := S.low c p h1; omega
    part := fun t ht => by omega
    long := fun c p h1 => by have := S.long c p h1; simp; omega
    hlong := by have := S.long h2 p2 hp2; simpa using this }⟩
theorem Sch.most (S : Sch W H wall fr D h Q R ph s) : D.length + Q.length + 1 ≤ W * H := by
  have := nodup_len (W * H) (D ++ h :: Q) S.nodup (fun x hx => by
    obtain ⟨p, hp⟩ := Option.isSome_iff_exists.1 ((S.mem x).2 hx)
    exact (S.path x p hp).2.2.1)
  simp at this
  omega
end
/-- what is found: all cells in which a ball can come to lie, each with the first of the shortest lists of moves -/
structure Fnd (W H : Nat) (wall : Nat → Bool) (fr : Nat) (R : Nat → Option (List Int)) : Prop where
  path : ∀ c p, R c = some p → Mv p ∧ wlk W H wall fr p = c ∧ c < W * H ∧ wall c = false
  least : ∀ q, Mv q → ∃ p, R (wlk W H wall fr q) = some p ∧ cod p ≤ cod q
  len : ∀ c p, R c = some p → p.length ≤ W * H
theorem Sch.last {W H : Nat} {wall : Nat → Bool} {fr h : Nat} {D : List Nat} {R : Nat → Option (List Int)} {ph : List Int} (S : Sch W H wall fr D h [] R ph 4) : Fnd W H wall fr R where
  path := S.path
  len := fun c p h1 => by have := S.long c p h1; have := S.most; simp at this; omega
  least := fun q => by
    induction q using snoc_ind with
    | h0 => exact fun _ => ⟨[], S.start, Nat.le_refl _⟩
    | h1 q s ih =>
      intro hq
      have h' := Mv.snoc.1 hq
      obtain ⟨p, h1, h2⟩ := ih h'.1
      rw [wlk_snoc, cod_snoc]
      have hm := (S.mem (wlk W H wall fr q)).1 (by rw [h1]; rfl)
      rcases List.mem_append.1 hm with h3 | h3
      · obtain ⟨p', h4, h5⟩ := S.closed _ h3 s.toNat (by omega)
        rw [cdR_some h1] at h5
        exact ⟨p', h4, by omega⟩
      · have e := List.mem_singleton.1 h3
        obtain ⟨p', h4, h5⟩ := S.part s.toNat (by omega)
        rw [e] at h1 ⊢
        rw [S.hd] at h1
        obtain rfl := Option.some.inj h1
        exact ⟨p', h4, by omega⟩
/-- it is one -/
theorem Fnd.unique {W H : Nat} {wall : Nat → Bool} {fr : Nat} {R R' : Nat → Option (List Int)} (h : Fnd W H wall fr R) (h' : Fnd W H wall fr R') : R = R' := by
  have key : ∀ {R R' : Nat → Option (List Int)}, Fnd W H wall fr R → Fnd W H wall fr R' → ∀ c p, R c = some p → R' c = some p := by
    intro R R' h h' c p hp
    have h1 := h.path c p hp
    obtain ⟨p', h2, h3⟩ := h'.least p h1.1
    rw [h1.2.1] at h2
    have h4 := h'.path c p' h2
    obtain ⟨p'', h5, h6⟩ := h.least p' h4.1
    rw [h4.2.1, hp] at h5
    obtain rfl := Option.some.inj h5
    rw [h2, cod_inj p' p h4.1 h1.1 (by omega)]
  funext c
  cases hc : R c with
  | some p => exact (key h h' c p hc).symm
  | none =>
    cases hc' : R' c with
    | none => rfl
    | some p => rw [key h' h c p hc'] at hc; cases hc
end Go.Proofs.Ytfjincdlenneaaa
