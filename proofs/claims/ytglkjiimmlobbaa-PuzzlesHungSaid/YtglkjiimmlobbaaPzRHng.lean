/-
  CONTRACTS of the document's own answers: hangings.
-/
import Derived.Test.YtglkjiimmlobbaaPzHngP
import Derived.Test.YtglkjiimmlobbaaPzApp
import Derived.Laws.AppendOwnNone
namespace Go.Proofs.Ytglkjiimmlobbaa
open Go.RowKit Go.Shelf
theorem por_kind {M n : Int} {p : Por} (h : porM M n p = true) : p.kind = 1 ∨ p.kind = 2 ∨ p.kind = 3 ∨ p.kind = 4 := by
  rw [porM] at h
  by_cases h1 : p.kind = 1
  · exact .inl h1
  · rw [if_neg h1] at h
    by_cases h2 : p.kind = 2 ∨ p.kind = 3
    · rcases h2 with h2 | h2
      · exact .inr (.inl h2)
      · exact .inr (.inr (.inl h2))
    · rw [if_neg h2] at h
      by_cases h4 : p.kind = 4
      · exact .inr (.inr (.inr h4))
      · rw [if_neg h4] at h; cases h
theorem own_src {w : World} {b e n cap g : Nat} {xs : List Value} (h : w.ownsRow b e 1 (.slice (some ⟨g, 0, none⟩) n cap) n xs) : ∀ (j : Nat) (u : Value), xs[j]? = some u → w.cell? ((⟨g, 0, none⟩ : Addr).add j) = some u := by
  intro j u hj
  obtain ⟨h1, h2⟩ := h
  rcases h2 with ⟨h2, -⟩ | ⟨g', cap', cur, h2, h3, h4, h5, h6, h7, h8⟩
  · cases h2
  · injection h2 with e1 _ _
    injection e1 with e1
    injection e1 with e1 _ _
    subst e1
    have hadd : (⟨g, 0, none⟩ : Addr).add j = ⟨g, j, none⟩ := by unfold Addr.add; split <;> simp_all
    rw [hadd]
    have hg' : w.heap[g]? = some (.cells cur.toList.toArray e (0, 0)) := by simpa using h4
    have hc := cell_of_row w g j _ _ _ hg'
    have hjn : j < n := by
      have := (List.getElem?_eq_some_iff.1 hj).1
      omega
    refine (hc.trans ?_)
    rw [← h8, List.getElem?_take_of_lt (by omega)] at hj
    simpa using hj
theorem own_one {w : World} {b n : Nat} {v : Value} {xs : List Value} (h : w.ownsRow b 3 1 v n xs) : v.oneCell' = true := by
  rcases h.2 with ⟨rfl, -⟩ | ⟨g, cap, cur, rfl, -⟩ <;> rfl
theorem own_nil {w : World} {b n : Nat} {Ah : Option Addr} {ch : Nat} {xs : List Value} (h : w.ownsRow b 3 1 (.slice Ah n ch) n xs) : Ah = none → n = 0 ∧ ch = 0 := by
  intro e
  rcases h.2 with ⟨h1, h2⟩ | ⟨g, cap, cur, h1, -⟩
  · injection h1 with _ h3 h4; exact ⟨h2, h4⟩
  · rw [e] at h1; cases h1
/-- lists in two grounds: the outer row's, the elements' -/
def ListsB (w : World) (bo be : Nat) (v : Value) (xss : List (List Int)) : Prop :=
  ∃ vs : List Value, w.ownsRow bo 29 1 v xss.length vs ∧ ∀ j (h : j < xss.length), ∃ u, vs[j]? = some u ∧ w.ownsRow be 3 1 u xss[j].length (xss[j].map I)
theorem ListsB.nil (w : World) (bo be : Nat) : ListsB w bo be (.slice none 0 0) [] := ⟨[], World.ownsRow_nil _ _ _ _, fun j h => absurd h (Nat.not_lt_zero j)⟩
theorem ListsB.grown {w w' : World} {bo be : Nat} {v : Value} {xss : List (List Int)} (h : ListsB w bo be v xss) (hg : w.grownBy w' none) : ListsB w' bo be v xss := by
  obtain ⟨vs, h1, h2⟩ := h
  refine ⟨vs, own_grown h1 hg, fun j hj => ?_⟩
  obtain ⟨u, e, h3⟩ := h2 j hj
  exact ⟨u, e, own_grown h3 hg⟩
theorem ListsB.rebase {w : World} {b bo be : Nat} {v : Value} {xss : List (List Int)} (h : ListsB w bo be v xss) (hb : b ≤ bo) : ListsB w b be v xss := by
  obtain ⟨vs, h1, h2⟩ := h
  exact ⟨vs, own_base h1 hb, h2⟩
theorem ListsB.lists {w : World} {b bo be : Nat} {v : Value} {xss : List (List Int)} (h : ListsB w bo be v xss) (hb : b ≤ bo) (he : b ≤ be) : Lists w b v xss := by
  obtain ⟨vs, h1, h2⟩ := h
  refine ⟨vs, own_base h1 hb, fun j hj => ?_⟩
  obtain ⟨u, e, h3⟩ := h2 j hj
  exact ⟨u, e, own_base h3 he⟩
/-- one number in a block of its own -/
def OneI (w : World) (lo : Nat) (u : Value) (p : Int) : Prop := ∃ bo : Nat, u = .slice (some ⟨bo, 0, none⟩) 1 1 ∧ lo ≤ bo ∧ w.heap[bo]? = some (.cells #[I p] 3 (0, 0))
theorem OneI.grown {w w' : World} {lo : Nat} {u : Value} {p : Int} (h : OneI w lo u p) (hg : w.grownBy w' none) : OneI w' lo u p := by
  obtain ⟨bo, h1, h2, h3⟩ := h
  exact ⟨bo, h1, h2, (hg.block bo (Array.getElem?_eq_some_iff.1 h3).1 (by simp)).trans h3⟩
theorem wp_append_ints {o : Oper} {a : Act} {K : Act → World → Prop} {Q : Exit → Act → World → Prop} {w : World} (s x : Operand)
    (ho : o.op = .call { callee := .builtin .append, args := #[s, x], argTypes := #[29, 29] }) (base : Nat) (v : Value) (L : List Int) (hs : a.eval s = v) (hown : w.ownsRow base 3 1 v L.length (L.map I))
    (A : Option Addr) (c : Nat) (M : List Int) (hx : a.eval x = .slice A M.length c) (hsrc : IntsR w w.heap.size A M) (hA : A = none → M.length = 0 ∧ c = 0) (hlen : (L.length + M.length) * 8 ≤ 140737488355328) (hbase : base ≤ w.heap.size)
    (h : ∀ v' w', w'.ownsRow base 3 1 v' (L ++ M).length ((L ++ M).map I) → Below base w w' → w.grownBy w' v.ownBlock → K (a.put o.dst v') w') : o.wp Try.prog a w K Q := by
  obtain ⟨i0, hi, hz0, hz1, hz2⟩ := info_parts info_int
  cases A with
  | none =>
    obtain ⟨h1, h2⟩ := hA rfl
    obtain rfl : M = [] := List.eq_nil_of_length_eq_zero h1
    subst h2
    have hrun := run_append_owned_none (P := Try.prog) (w := w) base 29 o.type 3 i0 1 Try.underlying29 hi v L.length (L.map I) hown
    unfold Oper.wp
    simp [execOp, ho, resolve, invoke, builtin, hs, hx, hrun, Result.andThen]
    exact h v w (by rw [List.append_nil]; exact hown) (Below.refl _ _) (World.grownBy.refl _ _)
  | some ad =>
    obtain ⟨h1, h2⟩ := app_src hsrc
    have hrow := hown.lt
    refine wp_append_own w s x 29 ho base 3 i0 (.int .i64 0) 1 8 Try.underlying29 hi hz0 hz1 hz2 rfl (by decide) v L.length (L.map I) hs hown ad M.length c (M.map I) hx (by simp) h1 h2 (by unfold maxLen; omega) hlen hbase fun v' w' g1 g2 _ => h v' w' ?_ ?_ g2
    · rw [List.length_append, List.map_append]
      exact g1
    · exact (Below.refl _ _).grown g2 hbase (fun j hj => (hrow j hj).1)
theorem wp_append_lists {o : Oper} {a : Act} {K : Act → World → Prop} {Q : Exit → Act → World → Prop} {w : World} (s x : Operand)
    (ho : o.op = .call { callee := .builtin .append, args := #[s, x], argTypes := #[57, 57] }) (bo be b2 : Nat) (v : Value) (xss : List (List Int)) (hs : a.eval s = v) (hl : ListsB w bo be v xss)
    (u : Value) (yss : List (List Int)) (hx : a.eval x = u) (hu : ListsB w b2 be u yss) (hlen : xss.length + yss.length ≤ 100000) (hbase : bo ≤ w.heap.size)
    (h : ∀ v' w', ListsB w' bo be v' (xss ++ yss) → Below bo w w' → K (a.put o.dst v') w') : o.wp Try.prog a w K Q := by
  obtain ⟨i1, hi1, hy0, hy1, hy2⟩ := info_parts info_sl
  obtain ⟨vs, hown, hin⟩ := hl
  obtain ⟨us, hou, hin2⟩ := hu
  have hlv : vs.length = xss.length := by have := hown.1; omega
  have hlu : us.length = yss.length := by have := hou.1; omega
  have hrow := hown.lt
  rcases hou.2 with ⟨rfl, h0⟩ | ⟨g, cap, cur, rfl, -⟩
  · have hrun := run_append_owned_none (P := Try.prog) (w := w) bo 57 o.type 29 i1 1 Try.underlying57 hi1 v _ vs hown
    unfold Oper.wp
    simp [execOp, ho, resolve, invoke, builtin, hs, hx, hrun, Result.andThen]
    exact h v w (by rw [List.eq_nil_of_length_eq_zero h0, List.append_nil]; exact ⟨vs, hown, hin⟩) (Below.refl _ _)
  · refine wp_append_own w s x 57 ho bo 29 i1 (.slice none 0 0) 1 24 Try.underlying57 hi1 hy0 hy1 hy2 rfl (by decide) v _ vs hs hown ⟨g, 0, none⟩ yss.length cap us hx (by omega) (own_src hou) ?_ (by unfold maxLen; omega) (by omega) hbase fun v' w' g1 g2 _ => h v' w' ?_ ?_
    · intro y hy
      obtain ⟨j, hj, e1⟩ := List.getElem_of_mem hy
      obtain ⟨u', e, h3⟩ := hin2 j (by omega)
      have e2 : some y = some u' := by rw [← e1, ← e]; exact (List.getElem?_eq_getElem hj).symm
      rw [Option.some.inj e2]; exact own_one h3
    · refine ⟨vs ++ us, by rw [List.length_append]; exact g1, fun j hj => ?_⟩
      by_cases hlt : j < xss.length
      · obtain ⟨y, e, h3⟩ := hin j hlt
        rw [List.getElem_append_left hlt]
        exact ⟨y, by rw [List.getElem?_append_left (by omega)]; exact e, h3.kept g2 (own_apart hown h3 ne_types)⟩
      · have hj2 : j - xss.length < yss.length := by rw [List.length_append] at hj; omega
        obtain ⟨y, e, h3⟩ := hin2 (j - xss.length) hj2
        rw [List.getElem_append_right (by omega)]
        exact ⟨y, by rw [List.getElem?_append_right (by omega), hlv]; exact e, h3.kept g2 (own_apart hown h3 ne_types)⟩
    · exact (Below.refl _ _).grown g2 hbase (fun j hj => (hrow j hj).1)
theorem wpList_append_lists {ops : Array Oper} {rest : List Oper} {o : Oper} {a : Act} {Q : Exit → Act → World → Prop} {w : World} (hgd : o.guard = none) (s x : Operand)
    (ho : o.op = .call { callee := .builtin .append, args := #[s, x], argTypes := #[57, 57] }) (bo be b2 : Nat) (v : Value) (xss : List (List Int)) (hs : a.eval s = v) (hl : ListsB w bo be v xss)
    (u : Value) (yss : List (List Int)) (hx : a.eval x = u) (hu : ListsB w b2 be u yss) (hlen : xss.length + yss.length ≤ 100000) (hbase : bo ≤ w.heap.size)
    (h : ∀ v' w', ListsB w' bo be v' (xss ++ yss) → Below bo w w' → wpList Try.prog ops Q rest (a.put o.dst v') w') : wpList Try.prog ops Q (o :: rest) a w := by
  refine wpList_plain hgd fun K hK => wp_append_lists s x ho bo be b2 v xss hs hl u yss hx hu hlen hbase fun v' w' h1 h2 => hK _ _ (h v' w' h1 h2)
theorem fl_most (q : List Int → Bool) (f n : Nat) (h : List Int) (hn : n ≤ 6) (hf : f ≤ 6) : (fl q f n h).length ≤ 50000 := by
  refine Nat.le_trans (List.length_filter_le _ _) (Nat.le_trans (exts_most f n h) (Nat.le_trans (Nat.pow_le_pow_left hn f) ?_))
  have h : f = 0 ∨ f = 1 ∨ f = 2 ∨ f = 3 ∨ f = 4 ∨ f = 5 ∨ f = 6 := by omega
  rcases h with rfl | rfl | rfl | rfl | rfl | rfl | rfl <;> decide
theorem pre_most (q : List Int → Bool) (f n : Nat) (h : List Int) (p : Nat) (hn : n ≤ 6) (hf : f + 1 ≤ 6) (hp : p ≤ n) : (pre q f n h p).length ≤ 50000 := by
  have : ∀ d, (pre q f n h p).length ≤ (pre q f n h (p + d)).length := by
    intro d
    induction d with
    | zero => exact Nat.le_refl _
    | succ d ih => rw [← Nat.add_assoc, pre_succ, List.length_append]; omega
  have h2 := this (n - p)
  rw [show p + (n - p) = n by omega, ← fl_succ] at h2
  exact Nat.le_trans h2 (fl_most q (f + 1) n h hn hf)

set_option maxRecDepth 100000 in
set_option maxHeartbeats 4000000 in
theorem rhang_zero (n b0 : Nat) (A : Option Addr) (c : Nat) (ps : List Por) (hn : n ≤ 6) (hpl : ps.length ≤ 20) (hv : ps.all (porM ((n : Int) - 1) n) = true) (h : List Int) (Ah : Option Addr) (ch : Nat) (w : World) (hh : h.length = n) (hp : PorR w w.heap.size A ps)
    (hown : w.ownsRow b0 3 1 (.slice Ah h.length ch) h.length (h.map I)) (_hb0 : b0 ≤ w.heap.size) :
    Calls Try.prog 116 #[I n, .slice A ps.length c, .slice Ah h.length ch] w fun e w' => ∃ v, e = .returned v ∧ ListsB w' w.heap.size b0 v (fl (allT' ps) 0 n h) ∧ Below w.heap.size w w' := by
  have hi : IntsR w w.heap.size Ah h := by
    obtain ⟨A', c', e, hi, -⟩ := own_ints hown
    injection e with e _ _
    rw [e]; exact hi
  have e1 : ((h.length : Int) == (n : Int)) = true := by simp; omega
  have e2 : (h.length == n) = true := by simp; omega
  have HH := Lib.hid hh
  have HV := Lib.hid (fun x (hx : x ∈ ps) => por_kind (List.all_eq_true.1 hv x hx))
  have HO := Lib.hid hown
  clear hh hv hown
  go_enter Try.func116, Try.ntmps116
  go_wp2_with fail
  go_loopw [7] (fun i wr => ∃ k : Nat, k ≤ ps.length ∧ i = .int .i64 k ∧ Hid ((ps.take k).all (fun p => truB p h) = true) ∧ Below w.heap.size w wr) (fun i _ => ps.length - (intOf i).toNat)
  case atStart => exact ⟨0, Nat.zero_le _, rfl, Lib.hid rfl, Below.refl _ _⟩
  case round =>
    obtain ⟨k, hk, rfl, HA, hB⟩ := hrel
    by_cases hlt : k < ps.length
    · obtain ⟨gb, go, rfl, hb, d0, d1, d2, d3, d4⟩ := (por_call hB hp).at_ hlt
      have hkind := HV.out _ (List.getElem_mem hlt)
      obtain ⟨p, hpe⟩ : ∃ p, p = ps[k] := ⟨_, rfl⟩
      rw [← hpe] at d0 d1 d2 d3 d4 hkind
      have hcall := true_any p Ah ch h wr (ints_call hB hi) (by have := HH.out; omega) hkind
      have HPE := Lib.hid hpe
      clear hpe hkind
      cases hq : truB p h
      · rw [hq] at hcall
        have HN := Lib.hid (show allT' ps h = false from not_allL (fun p => truB p h) ps k hlt (by rw [← HPE.out]; exact hq))
        have HF := Lib.hid (show fl (allT' ps) 0 n h = [] by rw [fl_zero, HN.out]; rfl)
        clear hq
        go_wp2_with fail
        refine hcall.mono ?_
        rintro e w2 ⟨rfl, hb2⟩
        clear hcall
        go_wp2
        go_ret
        exact ⟨_, rfl, by rw [HF.out]; exact ListsB.nil _ _ _, hB.trans (hb2.mono hB.size)⟩
      · rw [hq] at hcall
        have HN := Lib.hid (all_take_snocL (fun p => truB p h) ps k hlt HA.out (by rw [← HPE.out]; exact hq))
        clear hq
        go_wp2_with fail
        refine hcall.mono ?_
        rintro e w2 ⟨rfl, hb2⟩
        clear hcall
        go_wp2
        go_roundw
        case rel => exact ⟨k + 1, by omega, by go_num, HN, hB.trans (hb2.mono hB.size)⟩
        case measure => simp [intOf]; omega
    · obtain rfl : k = ps.length := by omega
      have HN := Lib.hid (show allT' ps h = true by have h := HA.out; rw [List.take_length] at h; exact h)
      have HF := Lib.hid (show fl (allT' ps) 0 n h = [h] by rw [fl_zero, HN.out]; rfl)
      have hsr := hB.size
      clear hi
      go_wp2_with fail
      go_ret
      obtain ⟨w2, hw2, hs2, r2, hb2⟩ := one_box wr (.cells #[.slice Ah h.length ch] 29)
      rw [← hw2]
      refine ⟨_, rfl, ?_, hB.trans (hb2.mono hB.size)⟩
      rw [HF.out]
      refine ⟨[.slice Ah h.length ch], ⟨rfl, .inr ⟨wr.heap.size, 1, _, rfl, by omega, r2, Nat.le_refl _, by decide, rfl, rfl⟩⟩, fun j hj => ?_⟩
      have hj0 : j = 0 := by simpa using hj
      subst hj0
      exact ⟨_, rfl, own_grown HO.out (grown_of_below (hB.trans (hb2.mono hB.size)) (Nat.le_refl _))⟩
set_option maxRecDepth 100000 in
set_option maxHeartbeats 4000000 in
theorem rhang_any (n : Nat) (A : Option Addr) (c : Nat) (ps : List Por) (hn : n ≤ 6) (hpl : ps.length ≤ 20) (hv : ps.all (porM ((n : Int) - 1) n) = true) : ∀ (f b0 : Nat) (h : List Int) (Ah : Option Addr) (ch : Nat) (w : World), h.length + f = n → PorR w w.heap.size A ps →
    w.ownsRow b0 3 1 (.slice Ah h.length ch) h.length (h.map I) → b0 ≤ w.heap.size →
    Calls Try.prog 116 #[I n, .slice A ps.length c, .slice Ah h.length ch] w fun e w' => ∃ v, e = .returned v ∧ ListsB w' w.heap.size b0 v (fl (allT' ps) f n h) ∧ Below w.heap.size w w' := by
  intro f
  induction f with
  | zero => exact fun b0 h Ah ch w hh hp hown hb0 => rhang_zero n b0 A c ps hn hpl hv h Ah ch w (by omega) hp hown hb0
  | succ f ih =>
    intro b0 h Ah ch w hh hp hown hb0
    have hi : IntsR w w.heap.size Ah h := by
      obtain ⟨A', c', e, hi, -⟩ := own_ints hown
      injection e with e _ _
      rw [e]; exact hi
    have HNI := Lib.hid (own_nil hown)
    have e1 : ((h.length : Int) == (n : Int)) = false := by simp; omega
    have e2 : (h.length == n) = false := by simp; omega
    have hhn : h.length < n := by omega
    have HH := Lib.hid hh
    have HIH := Lib.hid ih
    have HPR := Lib.hid hp
    have HF := Lib.hid (fl_succ (allT' ps) f n h)
    have hf6 : f + 1 ≤ 6 := by omega
    clear hh hv hown ih hp
    go_enter Try.func116, Try.ntmps116
    go_wp2_with fail
    go_loopw [8, 9] (fun v i wr => ∃ p : Nat, p ≤ n ∧ i = .int .i64 p ∧ ListsB wr w.heap.size b0 v (pre (allT' ps) f n h p) ∧ Below w.heap.size w wr) (fun _ i _ => n - (intOf i).toNat)
    case atStart => exact ⟨0, Nat.zero_le _, rfl, ListsB.nil _ _ _, Below.refl _ _⟩
    case round =>
      obtain ⟨p, hp, rfl, hLs, hB⟩ := hrel
      obtain ⟨v, hv⟩ : ∃ v : Value, v = u8 := ⟨_, rfl⟩
      subst hv
      by_cases hlt : p < n
      · have hir := ints_call hB hi
        have hcall := place_any Ah ch h (p : Int) wr hir (by omega)
        have hid := idxI_has h (p : Int)
        have hsr := hB.size
        generalize idxI h (p : Int) = ix at hcall hid
        cases hq : h.contains (p : Int)
        · rw [hq] at hid
          have g1 : decide (ix < 0) = true := by simp at hid; simp; omega
          have HC := Lib.hid (show chl (allT' ps) f n h p = fl (allT' ps) f n (h ++ [(p : Int)]) by rw [chl, hq]; rfl)
          obtain ⟨i0, hi0', hz0, hz1, hz2⟩ := info_parts info_int
          have HP1 := Lib.hid (show pre (allT' ps) f n h (p + 1) = pre (allT' ps) f n h p ++ fl (allT' ps) f n (h ++ [(p : Int)]) by rw [pre_succ, HC.out])
          have HLS := Lib.hid hLs
          have hpm := pre_most (allT' ps) f n h p hn hf6 hp
          have hcm := fl_most (allT' ps) f n (h ++ [(p : Int)]) hn (by omega)
          clear hid hq hLs
          go_upto_region 13 with (go_at_call 124; refine hcall.mono ?_; rintro e w' ⟨rfl, hww⟩; rw [hww]; clear hww)
          clear hcall
          have hs0 : wr.heap.size ≤ wr.heap.size := Nat.le_refl _
          go_wp2_with (at_builtin; refine wpList_append_ints rfl _ _ rfl wr.heap.size (.slice none 0 0) [] rfl (World.ownsRow_nil _ _ _ _) Ah ch h rfl hir (fun e => HNI.out e) (by simp; omega) (Nat.le_refl _) ?_)
          intro v1 w1 hown1 hb1
          have hs1 := hb1.size
          have hown2 : w1.ownsRow wr.heap.size 3 1 v1 h.length (h.map I) := by simpa using hown1
          clear hown1
          go_wp2_with (at_builtin; refine wpList_append_own _ rfl _ _ 29 rfl wr.heap.size 3 i0 (.int .i64 0) 1 8 Try.underlying29 hi0' hz0 hz1 hz2 rfl (by decide) v1 h.length (h.map I) rfl (hown2.alloc _) ⟨w1.heap.size, 0, none⟩ 1 1 [I p] rfl rfl ?c1 ?c2 ?c3 ?c4 ?c5 ?_)
          case c1 =>
            intro j u hj
            match j, hj with
            | 0, hj => simp at hj; subst hj; simp [Addr.add]
          case c2 => intro u hu; simp at hu; subst hu; rfl
          case c3 => unfold maxLen; omega
          case c4 => omega
          case c5 => simp; omega
          intro v2 w2 hown3 hgrow2 _
          have hrow1 := hown2.lt
          have hb2 : Below wr.heap.size wr w2 := (hb1.alloc hs1 _).grown hgrow2 (by simp; omega) (fun j hj => (hrow1 j hj).1)
          have hlen : (h ++ [(p : Int)]).length = h.length + 1 := by simp
          have hown4 : w2.ownsRow wr.heap.size 3 1 v2 (h ++ [(p : Int)]).length ((h ++ [(p : Int)]).map I) := by rw [hlen, List.map_append]; exact hown3
          obtain ⟨A2, c2, rfl, -, -⟩ := own_ints hown4
          have hs2 := hb2.size
          have hih := HIH.out b0 (h ++ [(p : Int)]) A2 c2 w2 (by rw [hlen]; have := HH.out; omega) (por_call (hB.trans (hb2.mono hsr)) HPR.out) (own_base hown4 (by omega)) (by omega)
          rw [hlen] at hih
          clear hown2 hown3 hgrow2 hrow1 hown4 hb1 hlen hir hs0
          go_wp2_with fail
          refine hih.mono ?_
          rintro e w3 ⟨v3, rfl, hL3, hb3⟩
          have hB3 : Below wr.heap.size wr w3 := hb2.trans (hb3.mono hs2)
          have hB4 : Below w.heap.size w w3 := hB.trans (hB3.mono hsr)
          have hLv := HLS.out.grown (grown_of_below hB3 (Nat.le_refl _))
          have hs3 := hB4.size
          clear hih hb2 hb3 hB3
          go_wp2_with (at_builtin; refine wpList_append_lists rfl _ _ rfl w.heap.size b0 _ v _ rfl hLv v3 _ rfl hL3 (by omega) hs3 ?_)
          intro v4 w4 hl4 hb4
          have HN := Lib.hid (show ListsB w4 w.heap.size b0 v4 (pre (allT' ps) f n h (p + 1)) by rw [HP1.out]; exact hl4)
          have hB5 := hB4.trans hb4
          clear hl4 hb4 hLv hL3
          go_wp2
          go_roundw
          case rel => exact ⟨p + 1, by omega, by go_num, HN.out, hB5⟩
          case measure => simp [intOf]; omega
        · rw [hq] at hid
          have g1 : decide (ix < 0) = false := by simp at hid; simp; omega
          have HC := Lib.hid (show pre (allT' ps) f n h (p + 1) = pre (allT' ps) f n h p by rw [pre_succ, chl, hq]; simp)
          clear hid hq
          go_wp2_with (go_at_call 124; refine hcall.mono ?_; rintro e w' ⟨rfl, hww⟩; rw [hww]; clear hww)
          go_roundw
          case rel => exact ⟨p + 1, by omega, by go_num, by rw [HC.out]; exact hLs, hB⟩
          case measure => simp [intOf]; omega
      · obtain rfl : p = n := by omega
        go_wp2_with fail
        go_ret
        exact ⟨_, rfl, by rw [HF.out]; exact hLs, hB⟩
end Go.Proofs.Ytglkjiimmlobbaa
