/-
  PURE FACTS: distances in a maze, as the document's own answers reckon them.
-/
import Derived.Test.YtfjincdlenneaaaPzMazE
namespace Go.Proofs.Ytfjincdlenneaaa
theorem cod_from (p : List Int) : ∀ n, p.foldl (fun n s => 8 * n + s.toNat) n + 8 ^ p.length = n * 8 ^ p.length + cod p := by
  induction p using snoc_ind with
  | h0 => intro n; simp [cod]
  | h1 p s ih =>
    intro n
    have h := ih n
    rw [cod_snoc, List.foldl_append, List.length_append, List.length_singleton, Nat.pow_succ]
    simp only [List.foldl_cons, List.foldl_nil]
    have e : n * (8 ^ p.length * 8) = 8 * (n * 8 ^ p.length) := by rw [← Nat.mul_assoc, Nat.mul_comm]
    rw [e]
    omega
theorem cod_cons (s : Int) (p : List Int) : cod (s :: p) + 8 ^ p.length = (8 + s.toNat) * 8 ^ p.length + cod p := by
  have := cod_from p (8 + s.toNat)
  rw [← this]
  rfl
theorem Mv.cons {s : Int} {p : List Int} : Mv (s :: p) ↔ (0 ≤ s ∧ s ≤ 3) ∧ Mv p := by
  simp [Mv]
theorem cod_tail {s : Int} {p q : List Int} (hs : 0 ≤ s ∧ s ≤ 3) (hp : Mv p) (hq : Mv q) (h : cod q < cod p) : cod (s :: q) < cod (s :: p) := by
  have hl := cod_le_len hq hp (by omega)
  rcases Nat.lt_or_ge q.length p.length with h1 | h1
  · exact cod_short (Mv.cons.2 ⟨hs, hq⟩) (Mv.cons.2 ⟨hs, hp⟩) (by simpa using h1)
  · have e : q.length = p.length := by omega
    have h2 := cod_cons s q
    have h3 := cod_cons s p
    rw [e] at h2
    omega
theorem cod_front {s x : Int} {p q : List Int} (hx : 0 ≤ x) (hxs : x < s) (hp : Mv p) (hq : Mv q) (he : q.length = p.length) : cod (x :: q) < cod (s :: p) := by
  have h2 := cod_cons x q
  have h3 := cod_cons s p
  have h4 := cod_len p hp
  have h5 := cod_len q hq
  rw [he] at h2 h5
  have h6 : (8 + x.toNat) * 8 ^ p.length + 8 ^ p.length ≤ (8 + s.toNat) * 8 ^ p.length := by
    rw [← Nat.succ_mul]
    exact Nat.mul_le_mul_right _ (by omega)
  omega
section
variable {W H : Nat} {wall : Nat → Bool} {fr t : Nat}
/-- behind its first move the best list is the best one -/
theorem Best.tail {s : Int} {p : List Int} (h : Best W H wall fr t (s :: p)) : Best W H wall (rolF W H wall fr s.toNat) t p := by
  have hm := Mv.cons.1 h.1
  refine ⟨hm.2, by have := h.2.1; rwa [wlk_cons] at this, fun q hq hw => ?_⟩
  rcases Nat.lt_or_ge (cod q) (cod p) with h1 | h1
  · have h2 := h.2.2 (s :: q) (Mv.cons.2 ⟨hm.1, hq⟩) (by rw [wlk_cons]; exact hw)
    have := cod_tail hm.1 hm.2 hq h1
    omega
  · exact h1
/-- a lower first move leads to no list that is as long -/
theorem Best.front {s : Int} {p q : List Int} {x : Nat} (h : Best W H wall fr t (s :: p)) (hx : x < s.toNat) (hq : Best W H wall (rolF W H wall fr x) t q) : q.length ≠ p.length := fun e => by
  have hm := Mv.cons.1 h.1
  have h2 := h.2.2 ((x : Int) :: q) (Mv.cons.2 ⟨⟨by omega, by omega⟩, hq.1⟩) (by rw [wlk_cons]; exact hq.2.1)
  have := cod_front (s := s) (p := p) (x := (x : Int)) (by omega) (by omega) hm.2 hq.1 e
  omega
theorem Best.short {p q : List Int} (h : Best W H wall fr t p) (hq : Mv q) (hw : wlk W H wall fr q = t) : p.length ≤ q.length := cod_le_len h.1 hq (h.2.2 q hq hw)
/-- how many moves a cell is away from the end, -1: no way -/
noncomputable def dstI (W H : Nat) (wall : Nat → Bool) (t c : Nat) : Int := if wall c then -1 else match escO W H wall c t with | some p => p.length | none => -1
theorem dst_some {c : Nat} {p : List Int} (hw : wall c = false) (h : escO W H wall c t = some p) : dstI W H wall t c = p.length := by rw [dstI, hw, h]; rfl
theorem dst_none {c : Nat} (h : escO W H wall c t = none) : dstI W H wall t c = -1 := by rw [dstI, h]; simp
theorem dst_wall {c : Nat} (h : wall c = true) : dstI W H wall t c = -1 := by rw [dstI, h]; rfl
theorem dst_ge (c : Nat) : -1 ≤ dstI W H wall t c := by
  rw [dstI]
  split
  · exact Int.le_refl _
  · split <;> omega
theorem dst_nat {c k : Nat} (h : dstI W H wall t c = k) : wall c = false ∧ ∃ p, escO W H wall c t = some p ∧ p.length = k := by
  cases hw : wall c
  · cases he : escO W H wall c t with
    | none => rw [dst_none he] at h; omega
    | some p => rw [dst_some hw he] at h; exact ⟨rfl, p, rfl, by omega⟩
  · rw [dst_wall hw] at h; omega
theorem dst_end (hw : wall t = false) : dstI W H wall t t = 0 := by
  have hb : Best W H wall t t [] := ⟨Mv.nil, rfl, fun q hq _ => by have := cod_len q hq; have h1 : 0 < 8 ^ q.length := Nat.pow_pos (by decide); show 1 ≤ cod q; omega⟩
  rw [dst_some hw (esc_best hb)]; rfl
theorem dst_zero {c : Nat} (h : dstI W H wall t c = 0) : c = t := by
  obtain ⟨_, p, h1, h2⟩ := dst_nat (k := 0) h
  have h3 := esc_some h1
  obtain rfl := List.eq_nil_of_length_eq_zero h2
  exact h3.2.1
/-- one move nearer -/
theorem dst_step (hW : 1 ≤ W) {c k : Nat} (hc : c < W * H) (h : dstI W H wall t c = (k + 1 : Nat)) : ∃ x, x ≤ 3 ∧ dstI W H wall t (rolF W H wall c x) = k := by
  obtain ⟨hw, p, h1, h2⟩ := dst_nat h
  cases p with
  | nil => simp at h2
  | cons s p =>
    have h3 := esc_some h1
    have hm := Mv.cons.1 h3.1
    have hin := rol_in hW (show s.toNat ≤ 3 by omega) hc hw
    refine ⟨s.toNat, by omega, ?_⟩
    rw [dst_some hin.2 (esc_best h3.tail)]
    simp at h2
    omega
theorem dst_near {c k x : Nat} (hw : wall c = false) (hx : x ≤ 3) (h : dstI W H wall t (rolF W H wall c x) = k) : ∃ m : Nat, dstI W H wall t c = m ∧ m ≤ k + 1 := by
  obtain ⟨_, p, h1, h2⟩ := dst_nat h
  have h3 := esc_some h1
  have hq : Mv ((x : Int) :: p) := Mv.cons.2 ⟨⟨by omega, by omega⟩, h3.1⟩
  have hwk : wlk W H wall c ((x : Int) :: p) = t := by rw [wlk_cons]; exact h3.2.1
  obtain ⟨q, hb⟩ := best_of hq hwk
  refine ⟨q.length, dst_some hw (esc_best hb), ?_⟩
  have := hb.short hq hwk
  simp at this
  omega
/-- no best list has as many moves as there are cells -/
theorem best_len (hW : 1 ≤ W) (p : List Int) : ∀ c, c < W * H → wall c = false → Best W H wall c t p → ∃ l : List Nat, l.length = p.length + 1 ∧ l.Nodup ∧ ∀ x ∈ l, x < W * H ∧ ∃ q, Best W H wall x t q ∧ q.length ≤ p.length := by
  induction p with
  | nil => exact fun c hc hw hb => ⟨[c], rfl, by simp, fun x hx => by rw [List.mem_singleton.1 hx]; exact ⟨hc, [], hb, Nat.le_refl _⟩⟩
  | cons s p ih =>
    intro c hc hw hb
    have hm := Mv.cons.1 hb.1
    have hin := rol_in hW (show s.toNat ≤ 3 by omega) hc hw
    obtain ⟨l, h1, h2, h3⟩ := ih _ hin.1 hin.2 hb.tail
    refine ⟨c :: l, by simp [h1], List.nodup_cons.2 ⟨fun hcl => ?_, h2⟩, fun x hx => ?_⟩
    · obtain ⟨_, q, hq, hl⟩ := h3 c hcl
      rw [hq.unique hb] at hl
      simp at hl
      omega
    · rcases List.mem_cons.1 hx with rfl | hx
      · exact ⟨hc, _, hb, Nat.le_refl _⟩
      · obtain ⟨h4, q, h5, h6⟩ := h3 x hx
        exact ⟨h4, q, h5, by simp; omega⟩
theorem Best.few (hW : 1 ≤ W) {c : Nat} {p : List Int} (hc : c < W * H) (hw : wall c = false) (hb : Best W H wall c t p) : p.length + 1 ≤ W * H := by
  obtain ⟨l, h1, h2, h3⟩ := best_len hW p c hc hw hb
  rw [← h1]
  exact nodup_len _ l h2 fun x hx => (h3 x hx).1
theorem dst_lt (hW : 1 ≤ W) {c : Nat} (hc : c < W * H) : dstI W H wall t c < (W * H : Nat) := by
  cases hw : wall c
  · cases he : escO W H wall c t with
    | none => rw [dst_none he]; omega
    | some p =>
      rw [dst_some hw he]
      have := (esc_some he).few hW hc hw
      omega
  · rw [dst_wall hw]; omega
end
/-- what is known of the distances behind so many steps; of the cells below j behind one more -/
noncomputable def outI (W H : Nat) (wall : Nat → Bool) (t S j c : Nat) : Int := if dstI W H wall t c ≤ (if c < j then (S : Int) + 1 else S) then dstI W H wall t c else -1
section
variable {W H : Nat} {wall : Nat → Bool} {t S j c : Nat}
theorem out_old (h : j ≤ c) : outI W H wall t S j c = if dstI W H wall t c ≤ S then dstI W H wall t c else -1 := by
  have e : ¬ c < j := by omega
  simp only [outI, if_neg e]
theorem out_new (h : c < j) : outI W H wall t S j c = if dstI W H wall t c ≤ (S : Int) + 1 then dstI W H wall t c else -1 := by
  simp only [outI, if_pos h]
theorem out_cases : (c < j ∧ outI W H wall t S j c = if dstI W H wall t c ≤ (S : Int) + 1 then dstI W H wall t c else -1) ∨ (j ≤ c ∧ outI W H wall t S j c = if dstI W H wall t c ≤ S then dstI W H wall t c else -1) := by
  rcases Nat.lt_or_ge c j with h | h
  · exact .inl ⟨h, out_new h⟩
  · exact .inr ⟨h, out_old h⟩
theorem out_ge : -1 ≤ outI W H wall t S j c := by
  have := dst_ge (W := W) (H := H) (wall := wall) (t := t) c
  rcases out_cases (W := W) (H := H) (wall := wall) (t := t) (S := S) (j := j) (c := c) with ⟨_, e⟩ | ⟨_, e⟩ <;> rw [e] <;> split <;> omega
theorem out_le (h : c < W * H) (hW : 1 ≤ W) : outI W H wall t S j c < (W * H : Nat) := by
  have := dst_lt (W := W) (H := H) (wall := wall) (t := t) hW h
  rcases out_cases (W := W) (H := H) (wall := wall) (t := t) (S := S) (j := j) (c := c) with ⟨_, e⟩ | ⟨_, e⟩ <;> rw [e] <;> split <;> omega
/-- a cell that shows the step is so far away -/
theorem out_is : outI W H wall t S j c = (S : Int) ↔ dstI W H wall t c = (S : Int) := by
  rcases out_cases (W := W) (H := H) (wall := wall) (t := t) (S := S) (j := j) (c := c) with ⟨_, e⟩ | ⟨_, e⟩ <;> rw [e] <;> split <;> omega
theorem out_next (N : Nat) (c : Nat) (hc : c < N) : outI W H wall t S N c = outI W H wall t (S + 1) 0 c := by
  rw [out_new hc, out_old (Nat.zero_le c)]
  rfl
theorem out_other (h : c ≠ j) : outI W H wall t S (j + 1) c = outI W H wall t S j c := by
  rcases Nat.lt_or_ge c j with h1 | h1
  · rw [out_new h1, out_new (by omega)]
  · rw [out_old h1, out_old (by omega)]
/-- the cell j: known already, or a wall -/
theorem out_known (h : 0 ≤ outI W H wall t S j j) : outI W H wall t S (j + 1) j = outI W H wall t S j j := by
  rw [out_old (Nat.le_refl j)] at h ⊢
  rw [out_new (Nat.lt_succ_self j)]
  split at h
  · rename_i h1
    rw [if_pos (by omega), if_pos h1]
  · omega
theorem out_wall (h : wall j = true) : outI W H wall t S (j + 1) j = outI W H wall t S j j := by
  rw [out_new (Nat.lt_succ_self j), out_old (Nat.le_refl j), dst_wall h, if_pos (by omega), if_pos (by omega)]
/-- one of its sides leads to a cell of this step -/
theorem out_hit {x : Nat} (hw : wall j = false) (hn : outI W H wall t S j j < 0) (hx : x ≤ 3) (h : dstI W H wall t (rolF W H wall j x) = (S : Int)) : outI W H wall t S (j + 1) j = (S : Int) + 1 := by
  obtain ⟨m, h1, h2⟩ := dst_near hw hx h
  rw [out_old (Nat.le_refl j), h1] at hn
  have h3 : m = S + 1 := by
    split at hn <;> omega
  rw [out_new (Nat.lt_succ_self j), h1, if_pos (by omega)]
  omega
/-- none does -/
theorem out_miss (hW : 1 ≤ W) (hc : j < W * H) (h : ∀ x, x ≤ 3 → dstI W H wall t (rolF W H wall j x) ≠ (S : Int)) : outI W H wall t S (j + 1) j = outI W H wall t S j j := by
  have hd := dst_ge (W := W) (H := H) (wall := wall) (t := t) j
  rw [out_old (Nat.le_refl j)]
  rw [out_new (Nat.lt_succ_self j)]
  by_cases h1 : dstI W H wall t j ≤ S
  · rw [if_pos h1, if_pos (by omega)]
  · rw [if_neg h1]
    by_cases h2 : dstI W H wall t j ≤ (S : Int) + 1
    · obtain ⟨x, hx, h3⟩ := dst_step hW hc (k := S) (show dstI W H wall t j = ((S + 1 : Nat) : Int) by omega)
      exact absurd h3 (h x hx)
    · rw [if_neg h2]
theorem out_start (hw : wall t = false) (c : Nat) : outI W H wall t 0 0 c = if c = t then 0 else -1 := by
  rw [out_old (Nat.zero_le c)]
  have hd := dst_ge (W := W) (H := H) (wall := wall) (t := t) c
  by_cases h : c = t
  · subst h
    rw [dst_end hw]; simp
  · rw [if_neg h]
    by_cases h1 : dstI W H wall t c ≤ ((0 : Nat) : Int)
    · rw [if_pos h1]
      have : dstI W H wall t c ≠ 0 := fun e => h (dst_zero e)
      omega
    · rw [if_neg h1]
theorem out_end (hW : 1 ≤ W) (N : Nat) (hN : N = W * H) (c : Nat) (hc : c < N) : outI W H wall t N 0 c = dstI W H wall t c := by
  have := dst_lt (W := W) (H := H) (wall := wall) (t := t) hW (c := c) (by omega)
  rw [out_old (Nat.zero_le c), if_pos (by omega)]
end
/-- where a ball can come to lie, behind so many rounds over all cells: of the cells below j one more -/
structure Lie (W H : Nat) (wall : Nat → Bool) (fr S j x : Nat) (L : Nat → Bool) : Prop where
  from_ : ∀ c, L c = true → ∃ q, Mv q ∧ wlk W H wall fr q = c
  old : ∀ q, Mv q → q.length ≤ S → L (wlk W H wall fr q) = true
  done : ∀ q, Mv q → q.length ≤ S → wlk W H wall fr q < j → ∀ y, y ≤ 3 → L (rolF W H wall (wlk W H wall fr q) y) = true
  now : L j = true → ∀ y, y < x → L (rolF W H wall j y) = true
section
variable {W H : Nat} {wall : Nat → Bool} {fr S j x : Nat} {L : Nat → Bool}
def updB (L : Nat → Bool) (k : Nat) : Nat → Bool := fun c => if c = k then true else L c
theorem updB_mono {L : Nat → Bool} {k c : Nat} (h : L c = true) : updB L k c = true := by simp [updB, h]
theorem Lie.start : Lie W H wall fr 0 0 0 (updB (fun _ => false) fr) where
  from_ := fun c h => ⟨[], Mv.nil, by simpa [updB, wlk] using (Eq.symm (by simpa [updB] using h : c = fr))⟩
  old := fun q _ hl => by
    obtain rfl := List.eq_nil_of_length_eq_zero (by omega : q.length = 0)
    simp [updB, wlk]
  done := fun q _ _ h => by omega
  now := fun _ y h => by omega
theorem Lie.roll (h : Lie W H wall fr S j x L) (hL : L j = true) (hx : x ≤ 3) : Lie W H wall fr S j (x + 1) (updB L (rolF W H wall j x)) where
  from_ := fun c hc => by
    by_cases e : c = rolF W H wall j x
    · obtain ⟨q, h1, h2⟩ := h.from_ j hL
      exact ⟨q ++ [(x : Int)], Mv.snoc.2 ⟨h1, by omega, by omega⟩, by rw [wlk_snoc, h2, e]; rfl⟩
    · exact h.from_ c (by simpa [updB, e] using hc)
  old := fun q h1 h2 => updB_mono (h.old q h1 h2)
  done := fun q h1 h2 h3 y h4 => updB_mono (h.done q h1 h2 h3 y h4)
  now := fun _ y hy => by
    rcases Nat.lt_succ_iff_lt_or_eq.1 hy with h1 | rfl
    · exact updB_mono (h.now hL y h1)
    · simp [updB]
theorem Lie.next (h : Lie W H wall fr S j 4 L) : Lie W H wall fr S (j + 1) 0 L where
  from_ := h.from_
  old := h.old
  done := fun q h1 h2 h3 y h4 => by
    rcases Nat.lt_succ_iff_lt_or_eq.1 h3 with h5 | h5
    · exact h.done q h1 h2 h5 y h4
    · have := h.old q h1 h2
      rw [h5] at this ⊢
      exact h.now this y (by omega)
  now := fun _ y hy => by omega
theorem Lie.dry (h : Lie W H wall fr S j x L) (hL : L j = false) : Lie W H wall fr S (j + 1) 0 L where
  from_ := h.from_
  old := h.old
  done := fun q h1 h2 h3 y h4 => by
    rcases Nat.lt_succ_iff_lt_or_eq.1 h3 with h5 | h5
    · exact h.done q h1 h2 h5 y h4
    · have := h.old q h1 h2
      rw [h5, hL] at this
      cases this
  now := fun _ y hy => by omega
theorem Lie.round (h : Lie W H wall fr S (W * H) 0 L) (hin : ∀ q, Mv q → wlk W H wall fr q < W * H) : Lie W H wall fr (S + 1) 0 0 L where
  from_ := h.from_
  old := fun q h1 h2 => by
    rcases Nat.lt_or_ge S q.length with h3 | h3
    · have hne : q ≠ [] := by intro e; subst e; simp at h3
      have hd : q.dropLast.length = S := by rw [List.length_dropLast]; omega
      have hq := List.dropLast_concat_getLast hne
      rw [← hq] at h1 ⊢
      have hm := Mv.snoc.1 h1
      rw [wlk_snoc]
      exact h.done _ hm.1 (by omega) (hin _ hm.1) _ (by omega)
    · exact h.old q h1 h3
  done := fun q _ _ h => by omega
  now := fun _ y h => by omega
theorem Lie.all (hW : 1 ≤ W) (hc : fr < W * H) (hw : wall fr = false) (h : Lie W H wall fr (W * H) 0 0 L) (c : Nat) : L c = (escO W H wall fr c).isSome := by
  cases hL : L c
  · cases he : escO W H wall fr c with
    | none => rfl
    | some p =>
      have hb := esc_some he
      have := h.old p hb.1 (by have := hb.few hW hc hw; omega)
      rw [hb.2.1, hL] at this
      cases this
  · obtain ⟨q, h1, h2⟩ := h.from_ c hL
    exact (esc_isSome.2 ⟨q, h1, h2⟩).symm
end
end Go.Proofs.Ytfjincdlenneaaa
