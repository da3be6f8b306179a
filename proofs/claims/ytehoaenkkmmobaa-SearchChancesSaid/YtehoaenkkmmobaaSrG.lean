/-
  LAYER 6: CONTRACT: slices.DeleteFunc at links.
-/
import Derived.Test.YtehoaenkkmmobaaSrF
namespace Go.Proofs.Ytehoaenkkmmobaa
open Go.RowKit Go.Shelf
set_option maxRecDepth 100000 in
theorem run_clear_lk (w : World) (ty : TypeId) (b o n c N : Nat) (F : Nat → Value) (hn : 0 < n) (hR : RowAt w b 71 F N) (hN : o + n * 2 ≤ N) :
    ∃ w', (Builtin.clear_ #[101] ty #[.slice (some ⟨b, o, none⟩) n c]).run Try.prog w = .ok (.tuple #[]) w' ∧ w.grownBy w' (some b) ∧ ∃ F', RowAt w' b 71 F' N ∧ ∀ x, x < o → F' x = F x := by
  obtain ⟨vs, hvs⟩ : ∃ vs, vs = (Builtin.zeroCells (zeroL).cells n).toList := ⟨_, rfl⟩
  have hl : vs.length = n * 2 := by rw [hvs]; simp [Builtin.zeroCells, Value.cells]
  have h1 : ∀ v ∈ vs, v.oneCell' = true := by
    intro v hv
    rw [hvs] at hv
    simp only [Builtin.zeroCells, Value.cells, Array.toList_map, List.mem_map] at hv
    obtain ⟨i, -, rfl⟩ := hv
    have : i % 2 = 0 ∨ i % 2 = 1 := by omega
    rcases this with h | h <;> simp [h] <;> rfl
  have hst := run_storeCells_at Try.prog b o 71 vs 0 (rowF F N) w hR (by rw [rowF_size, hl]; omega) h1
  simp only [Nat.add_zero] at hst
  obtain ⟨m, rfl⟩ : ∃ m, n = m + 1 := ⟨n - 1, by omega⟩
  have hz := zeroLk w
  obtain ⟨arr, harr⟩ : ∃ arr, arr = ((rowF F N).toList.take o ++ vs ++ (rowF F N).toList.drop (o + vs.length)).toArray := ⟨_, rfl⟩
  have hcl : (rowF F N).toList.length = N := by simp [rowF]
  have hsz : arr.size = N := by
    rw [harr]
    simp only [List.size_toArray, List.length_append, List.length_take, List.length_drop, hcl, hl]
    omega
  rw [← harr] at hst
  refine ⟨w.setRow b arr, ?_, ⟨rfl, rfl, rfl, by simp [World.setRow], fun k _ hk => setRow_other w b k _ (fun e => hk (by rw [e]))⟩, fun x => arr.getD x undef, ?_, ?_⟩
  · rw [hvs] at hst
    simp [Builtin.clear_, run_underlying Try.underlying101, hz, hst]
  · have := setRow_heap w b (rowF F N) arr 71 _ hR
    rw [RowAt, this]
    congr 2
    apply Array.ext_getElem?
    intro i
    rw [rowF_get]
    by_cases h : i < N
    · rw [if_pos h]
      simp [Array.getD, hsz, h]
    · rw [if_neg h, Array.getElem?_eq_none (by omega)]
  · intro x hx
    have hx' : x < N := by omega
    have : arr[x]? = some (F x) := by
      rw [harr, List.getElem?_toArray, List.append_assoc, List.getElem?_append_left (by rw [List.length_take, hcl]; omega), List.getElem?_take_of_lt (by omega), Array.getElem?_toList, rowF_at F hx']
    simp [Array.getD_eq_getD_getElem?, this]
theorem wpList_clear_lk {ops : Array Oper} {rest : List Oper} {o : Oper} {a : Act} {Q : Exit → Act → World → Prop} {w : World} (hg : o.guard = none) (s : Operand) (hop : o.op = .call { callee := .builtin .clear, args := #[s], argTypes := #[101] })
    (b off n c N : Nat) (F : Nat → Value) (hs : a.eval s = .slice (some ⟨b, off, none⟩) n c) (hn : 0 < n) (hR : RowAt w b 71 F N) (hN : off + n * 2 ≤ N)
    (hK : ∀ w' F', w.grownBy w' (some b) → RowAt w' b 71 F' N → (∀ x, x < off → F' x = F x) → wpList Try.prog ops Q rest (a.put o.dst (.tuple #[])) w') : wpList Try.prog ops Q (o :: rest) a w := by
  refine wpList_plain hg fun K' hK' => ?_
  obtain ⟨w', hrun, r1, F', r2, r3⟩ := run_clear_lk w o.type b off n c N F hn hR hN
  unfold Oper.wp
  simp [execOp, hop, resolve, invoke, builtin, hs, hrun, Result.andThen]
  exact hK' _ _ (hK w' F' r1 r2 r3)
theorem weak2 {a b : World} {row : Option Nat} (h : a.grownBy b none) : a.grownBy b row := ⟨h.os, h.tape, h.output, h.size, fun k h1 _ => h.block k h1 (by simp)⟩
theorem LC.congr {F F' : Nat → Value} {off : Nat} {d d' : Array Lk} (h : LC F off d) (hs : d'.size ≤ d.size) (e : ∀ x, x < off + d'.size * 2 → F' x = F x) (ed : ∀ j, j < d'.size → d'[j]! = d[j]!) : LC F' off d' := fun j hj => by
  rw [e _ (by omega), e _ (by omega), ed j hj]
  exact h j (by omega)
set_option maxRecDepth 100000 in
set_option maxHeartbeats 4000000 in
theorem deleteLk_any (g : Nat) (lb : Array Value) (eg : ∀ args w, (callFunc g args).run Try.prog w = .ok (.enter g args) w) (p : Lk → Bool) (b off c N : Nat) (F : Nat → Value) (d : Array Lk) (w : World)
    (hp : ∀ (W : World) (x : Lk), w.grownBy W (some b) → Calls Try.prog g (#[lkV x] ++ lb) W fun e w' => e = .returned (.bool (p x)) ∧ W.grownBy w' none)
    (hR : RowAt w b 71 F N) (hlc : LC F off d) (hN : off + c * 2 ≤ N) (hdc : d.size ≤ c) (hd : d.size ≤ 1000000) :
    Calls Try.prog 109 #[.slice (some ⟨b, off, none⟩) d.size c, .func (.func g) #[] lb] w fun e w' => ∃ F', e = .returned (.slice (some ⟨b, off, none⟩) (d.toList.filter fun x => !p x).length c) ∧ w.grownBy w' (some b) ∧ RowAt w' b 71 F' N ∧ LC F' off (d.toList.filter fun x => !p x).toArray := by
  have hIF := indexLk_any g lb eg p b off c N F d w (fun W x h => hp W x (weak2 h)) hR hlc (by omega) hd
  obtain ⟨kp, HK⟩ : ∃ kp : Nat → Bool, Hid (kp = fun j => !p d[j]!) := ⟨_, Lib.hid rfl⟩
  have hfil : (d.toList.filter fun x => !p x) = Go.Lib.keptUpTo kp d d.size := by rw [HK.out]; exact (Go.Lib.keptUpTo_filter (fun x => !p x) d).symm
  rw [hfil]
  have HR := Lib.hid hR
  have HL := Lib.hid hlc
  have HP := Lib.hid hp
  clear hR hlc hp hfil
  go_enter Try.func109, Try.ntmps109
  go_upto_region 2 with (go_at_call 116; refine hIF.mono ?_; rintro e w1 ⟨r, rfl, hr, hg1⟩)
  rcases hr with ⟨rfl, hall⟩ | ⟨k0, rfl, hk0, ht, hall⟩
  · have hkeep : ∀ j, j < d.size → kp j = true := fun j hj => by rw [HK.out]; show (!p d[j]!) = true; rw [hall j hj]; rfl
    have e3 : Go.Lib.keptUpTo kp d d.size = d.toList := by
      have := Go.Lib.keptUpTo_filter (fun x => !p x) d
      rw [HK.out, this, List.filter_eq_self]
      intro x hx
      obtain ⟨j, hj, e⟩ := List.getElem_of_mem hx
      have hj' : j < d.size := by simpa using hj
      have := hall j hj'
      rw [getElem!_pos d j hj'] at this
      rw [← e]
      simp [this]
    have E3 := Lib.hid e3
    clear hIF hall hkeep e3
    go_wp2
    go_ret
    rw [E3.out]
    exact ⟨F, by simp, weak2 hg1, HR.out.kept hg1 (by simp), by simpa using HL.out⟩
  · have hkeep : ∀ j, j < k0 → kp j = true := fun j hj => by rw [HK.out]; show (!p d[j]!) = true; rw [hall j hj]; rfl
    have hdrop : kp k0 = false := by rw [HK.out]; show (!p d[k0]!) = false; rw [ht]; rfl
    have hne1 : ((k0 : Int) == -1) = false := beq_eq_false_iff_ne.2 (by omega)
    have HI := Lib.hid (Go.Lib.KeptInv.start (kp := kp) (d := d) (k0 := k0) hkeep hdrop)
    have hg1' : w.grownBy w1 (some b) := weak2 hg1
    have hR1 := Lib.hid (HR.out.kept hg1 (by simp))
    clear hIF hall hkeep hdrop ht
    go_wp2_with fail
    go_loopw [5, 6] (fun s5 s6 wr => ∃ (i j : Nat) (dk : Array Lk) (F' : Nat → Value), s5 = .int .i64 i ∧ s6 = .int .i64 j ∧ j ≤ d.size ∧ w.grownBy wr (some b) ∧ Hid (RowAt wr b 71 F' N) ∧ Hid (LC F' off dk) ∧ Hid (Go.Lib.KeptInv kp d j i dk)) (fun _ s6 _ => d.size - (intOf s6).toNat)
    case atStart => exact ⟨k0, k0 + 1, d, F, rfl, by go_num, by omega, hg1', hR1, HL, HI⟩
    case round =>
      obtain ⟨i, j, dk, F', rfl, rfl, hjd, hgw, hR', hL', I2⟩ := hrel
      obtain ⟨wo, hwo⟩ : ∃ wo : World, wo = wr := ⟨_, rfl⟩
      rw [← hwo] at hgw hR'
      rw [← hwo]
      clear hwo hR1 hg1' hg1 HI
      have hij := I2.out.lt
      have hds := Lib.hid I2.out.size
      by_cases hlt : j < d.size
      · obtain ⟨e0, e1⟩ := hL'.out j (by rw [hds.out]; exact hlt)
        rw [I2.out.high j (by omega)] at e0 e1
        have c0 : wo.cell? ⟨b, off + j * 2, none⟩ = some (I d[j]!.1) := (hR'.out.at_ (by omega)).trans (by rw [e0])
        have c1 : wo.cell? ⟨b, off + j * 2 + 1, none⟩ = some (I d[j]!.2) := (hR'.out.at_ (by omega)).trans (by rw [e1])
        obtain ⟨x, hx⟩ : ∃ x, x = d[j]! := ⟨_, rfl⟩
        rw [← hx] at c0 c1
        have HX := Lib.hid hx
        clear e0 e1 hx
        obtain ⟨wa, hwa, hsa, ya, -⟩ := one_box wo (.cells #[I x.1, I x.2] 71)
        have hga : wo.grownBy wa none := by rw [hwa]; exact World.grownBy_alloc _ _ _
        have a0 : wa.cell? ⟨wo.heap.size, 0, none⟩ = some (I x.1) := cell_of_row wa _ 0 _ _ _ ya
        have a1 : wa.cell? ⟨wo.heap.size, 1, none⟩ = some (I x.2) := cell_of_row wa _ 1 _ _ _ ya
        have hgwa := grown_trans hgw (weak2 hga)
        have hcall := HP.out wa x hgwa
        go_upto_region 8 with fail
        rw [← hwa]
        clear hwa ya c0 c1
        cases hq : p x with
        | true =>
          have HQ := Lib.hid hq
          rw [hq] at hcall
          clear hq
          go_wp2_with (go_at_fn g; refine hcall.mono ?_; rintro e w2 ⟨rfl, hb'⟩)
          go_roundw
          case rel => exact ⟨i, j + 1, dk, F', rfl, by go_num, by omega, grown_trans hgwa (weak2 hb'), Lib.hid ((hR'.out.kept hga (by simp)).kept hb' (by simp)), hL', Lib.hid (I2.out.skip (by rw [HK.out]; show (!p d[j]!) = false; rw [← HX.out, HQ.out]; rfl))⟩
          case measure => simp [intOf]; omega
        | false =>
          have HQ := Lib.hid hq
          rw [hq] at hcall
          clear hq
          go_upto_region 9 with (go_at_fn g; refine hcall.mono ?_; rintro e w2 ⟨rfl, hb'⟩)
          have hR2 := (hR'.out.kept hga (by simp)).kept hb' (by simp)
          have a0 := hb'.cell a0 (by simp)
          have a1 := hb'.cell a1 (by simp)
          have g0 := hR2.at_ (i := off + i * 2) (by omega)
          have g1 := hR2.at_ (i := off + i * 2 + 1) (by omega)
          have f0 := hR2.free (off + i * 2)
          have f1 := hR2.free (off + i * 2 + 1)
          have hR3 := Lib.hid (hR2.set2 (off + i * 2) x)
          have hL3 := Lib.hid (hL'.out.set (i := i) (by rw [hds.out]; omega) x)
          have hI3 := Lib.hid (I2.out.keep hlt (by rw [HK.out]; show (!p d[j]!) = true; rw [← HX.out, HQ.out]; rfl))
          have hg3 := grown_trans (grown_trans hgwa (weak2 hb')) (grown_setCells w2 b (off + i * 2) x)
          clear hR2 hcall
          generalize F' (off + i * 2) = v0 at g0
          generalize F' (off + i * 2 + 1) = v1 at g1
          go_wp2_with fail
          go_roundw
          case rel => exact ⟨i + 1, j + 1, _, _, by go_num, by go_num, by omega, hg3, hR3, hL3, by rw [HX.out]; exact hI3⟩
          case measure => simp [intOf]; omega
      · obtain rfl : j = d.size := by omega
        have hle : i < d.size := hij
        go_upto_region 12 with (refine wpList_clear_lk rfl _ rfl b (off + i * 2) (d.size - i) (c - i) N F' rfl (by omega) hR'.out (by omega) ?_; intro w4 F4 hg4 hR4 hF4)
        have HR4 := Lib.hid hR4
        have HF4 := Lib.hid hF4
        have hg5 := grown_trans hgw hg4
        clear hR4 hF4 hg4
        go_wp2_with fail
        go_ret
        have hI := I2.out
        have hlen := hI.len
        refine ⟨F4, by rw [hlen]; rfl, hg5, HR4.out, hL'.out.congr (by simp [hlen]; rw [hds.out]; omega) (fun x hx => HF4.out x (by simp [hlen] at hx; exact hx)) (fun k hk => ?_)⟩
        have hk' : k < i := by simpa [hlen] using hk
        have := hI.low k hk'
        rw [getElem!_pos _ k hk]
        simp only [List.getElem_toArray]
        rw [List.getElem?_eq_getElem (by rw [hlen]; exact hk')] at this
        exact Option.some.inj this
end Go.Proofs.Ytehoaenkkmmobaa
