
/-
  Layer 19's program: payloads, and Bytes, which ranges over it.
-/
import Derived.Test.YtiappeagdnkedaaCtlObj
import Derived.Test.YtiappeagdnkedaaRange
import Derived.WalkKit
import Derived.OwnWalkIn
import Derived.TacticsInMore
import Derived.LoopNIn
import Derived.LoopIn
import Derived.WalkMore
import Derived.Shelf.Abstract
namespace Go.Proofs.Ytiappeagdnkedaa
set_option maxRecDepth 20000
open Go.RowKit Go.Shelf
attribute [local go_sem] Oper.semAt_some

theorem own_block19 {w w' : World} {base n size : Nat} {e : TypeId} {v : Value} {xs : List Value} (h : w.ownsRow base e size v n xs) (hb : ∀ g, v.ownBlock = some g → w'.heap[g]? = w.heap[g]?) : w'.ownsRow base e size v n xs := by
  obtain ⟨h1, h2⟩ := h
  refine ⟨h1, h2.imp_right ?_⟩
  rintro ⟨g, cap, cur, rfl, hgb, hh, h3⟩
  exact ⟨g, cap, cur, rfl, hgb, (hb g rfl).trans hh, h3⟩
/-- where a frame of a row lies -/
theorem own_at19 {w : World} {base N cap : Nat} {a : Option Addr} {e : TypeId} {ps : List (Fr × Value)} (h : w.ownsRow base e 4 (.slice a N cap) N (flat ps)) {k : Nat} (hk : k < N) : ∃ b off, a = some ⟨b, off, none⟩ ∧ b < w.heap.size ∧ ∀ p, ps[k]? = some p → frAt w b (off + k * 4) p.1 p.2 := by
  obtain ⟨hlen, h2⟩ := id h
  rcases h2 with ⟨e, h3⟩ | ⟨g, cap', cur, e, hgb, hh, h3⟩
  · simp only [Value.slice.injEq] at e
    omega
  · simp only [Value.slice.injEq] at e
    obtain ⟨rfl, -, rfl⟩ := e
    refine ⟨g, 0, rfl, (Array.getElem?_eq_some_iff.1 hh).1, fun p hp => ?_⟩
    have hf := flat_at ps k p hp
    have hc := fun (j : Nat) (hj : j < 4) => World.ownsRow.cellAt h (k * 4 + j) (by omega)
    rw [Nat.zero_add]
    exact ⟨(hc 0 (by decide)).trans (hf 0 (by decide)), (hc 1 (by decide)).trans (hf 1 (by decide)), (hc 2 (by decide)).trans (hf 2 (by decide)), (hc 3 (by decide)).trans (hf 3 (by decide))⟩
/-- what a round may turn: not the row that is gone through -/
def KeepRw19 (v : Value) (A B : World) : Prop := A.heap.size ≤ B.heap.size ∧ ∀ g, v.ownBlock = some g → B.heap[g]? = A.heap[g]?
theorem KeepRw19.refl (v : Value) (A : World) : KeepRw19 v A A := ⟨Nat.le_refl _, fun _ _ => rfl⟩
theorem KeepRw19.trans {v : Value} {A B C : World} (h : KeepRw19 v A B) (k : KeepRw19 v B C) : KeepRw19 v A C := ⟨Nat.le_trans h.1 k.1, fun g hg => (k.2 g hg).trans (h.2 g hg)⟩
def encPy (p : Fr × Value) : Array Value := #[p.2]
def NextPy (ps pre : List (Fr × Value)) (p : Fr × Value) (_ : World) : Prop := ps[pre.length]? = some p
def AllPy (ps xs : List (Fr × Value)) : Prop := xs = ps
def SomePy (ps xs : List (Fr × Value)) : Prop := ∃ m, m < ps.length ∧ xs = ps.take (m + 1)

set_option maxHeartbeats 2000000 in
theorem pays_iter (n l Bb T : Nat) (v : Value) (ps : List (Fr × Value)) (q : Q19) (J Jx : List (Fr × Value) → World → Prop) (hJg : Grows J)
    (hY : ∀ pre p W1, J pre W1 → NextPy ps pre p W1 → pre.length < ps.length → YieldAt Fence.wide (n - 1) Try.prog l (encPy p) W1 fun e W' =>
      (e = .returned (.bool true) ∧ J (pre ++ [p]) W' ∧ KeepRw19 v W1 W') ∨ (e = .returned (.bool false) ∧ Jx (pre ++ [p]) W'))
    (W : World) (hb : W.heap[Bb]? = some (.cells #[.pointer (some ⟨T, 0, none⟩)] 25 (0, 0))) (hT : CqO W T v ps q) (hl : ps.length ≤ 1000) (h0 : J [] W) :
    CallsIn Fence.wide n Try.prog 26 #[.func (.yield l) #[] #[], .pointer (some ⟨Bb, 0, none⟩)] W fun e W' => (∃ v, e = .returned v) ∧ ((∃ xs, AllPy ps xs ∧ J xs W') ∨ ∃ pre, SomePy ps pre ∧ Jx pre W') := by
  obtain ⟨a, cap, rfl, _⟩ := owned_shape hT.row
  refine callsIn_of_wp Try.func26 rfl trivial ?_ rfl
  simp only [Try.ntmps26, List.size_toArray, List.length_cons, List.length_nil, Nat.reduceAdd, Nat.reduceSub, Array.replicate_succ, Array.replicate_zero, List.push_toArray, List.append_toArray, List.nil_append, List.cons_append]
  have cb := blk_cell (j := 0) hb rfl
  obtain ⟨c0, c1, c2, c3⟩ := hT.blk.cells
  have HT := Lib.hid hT
  gi_wp2
  gi_loopw [10] (fun i wr => ∃ k : Nat, i = .int .i64 k ∧ k ≤ ps.length ∧ J (ps.take k) wr ∧ KeepRw19 (.slice a ps.length cap) W wr) (fun i _ => ps.length - (intOf i).toNat)
  case atStart => exact ⟨0, rfl, Nat.zero_le _, by simpa using h0, KeepRw19.refl _ _⟩
  case round =>
    clear hb hT h0 cb c0 c1 c2 c3
    obtain ⟨k, rfl, hk, hJ, hK⟩ := hrel
    by_cases hlt : k < ps.length
    · obtain ⟨p, hp⟩ : ∃ p, ps[k]? = some p := ⟨ps[k], List.getElem?_eq_getElem hlt⟩
      obtain ⟨bk, off, rfl, hbl, hcell⟩ := own_at19 (own_block19 (w' := wr) HT.out.row hK.2) hlt
      obtain ⟨c0, c1, c2, c3⟩ := hcell p hp
      have hpm := List.mem_of_getElem? hp
      obtain ⟨F, pv⟩ := p
      obtain ⟨pa, pc, hpv, _⟩ := HT.out.pay _ hpm
      dsimp only at hpv c0 c1 c2 c3
      subst hpv
      have hA : Below wr.heap.size wr (wr.alloc (.cells #[.int .i64 F.kind, .int .i64 F.flags, .int .i64 F.stream, .slice pa F.pay.length pc] 34)) := (Below.refl wr.heap.size wr).alloc (Nat.le_refl _) _
      have hJ2 := hJg _ _ _ hJ hA
      have hl : (ps.take k).length = k := by rw [List.length_take]; omega
      have hK2 : KeepRw19 (.slice (some ⟨bk, off, none⟩) ps.length cap) wr (wr.alloc (.cells #[.int .i64 F.kind, .int .i64 F.flags, .int .i64 F.stream, .slice pa F.pay.length pc] 34)) := ⟨by simp, fun g hg => Below.heap_alloc _ _ _ (by cases hg; exact hbl)⟩
      obtain ⟨fn, tmps, assign, body, hy, hR⟩ := hY _ (F, .slice pa F.pay.length pc) _ hJ2 (show ps[(ps.take k).length]? = some _ by rw [hl]; exact hp) (by omega)
      have HF := Lib.hid hp
      have HTk := Lib.hid (show ps.take k ++ [(F, .slice pa F.pay.length pc)] = ps.take (k + 1) by rw [List.take_add_one, hp]; rfl)
      unfold encPy at hy
      dsimp only at hy
      clear hcell hJ hJ2 hl hp hpm hA
      gi_wp2
      refine ⟨fun h => by simp [Fence.wide] at h, ?_⟩
      refine hR.mono ?_
      rintro e W5 (⟨rfl, hJ5, hk5⟩ | ⟨rfl, hJx5⟩)
      · gi_wp2
        go_roundw
        case rel => exact ⟨k + 1, by go_num, by omega, by rw [← HTk.out]; exact hJ5, hK.trans (hK2.trans hk5)⟩
        case measure => simp [intOf]; omega
      · gi_wp2
        refine bodyPost_ret (results_none rfl _ _ _) rfl ?_
        exact ⟨⟨_, rfl⟩, .inr ⟨_, ⟨k, hlt, HTk.out⟩, hJx5⟩⟩
    · obtain rfl : k = ps.length := by omega
      gi_wp2
      go_end0
      refine ⟨⟨_, rfl⟩, .inl ⟨_, ?_, hJ⟩⟩
      show _ = _
      rw [List.take_of_length_le (Nat.le_refl _)]
theorem pays_seq (n Bb T : Nat) (v : Value) (ps : List (Fr × Value)) (q : Q19) (w : World) (hb : w.heap[Bb]? = some (.cells #[.pointer (some ⟨T, 0, none⟩)] 25 (0, 0))) (hT : CqO w T v ps q) (hl : ps.length ≤ 1000) :
    SeqP Try.prog n 26 #[.pointer (some ⟨Bb, 0, none⟩)] encPy (NextPy ps) (KeepRw19 v) (AllPy ps) (SomePy ps) ps.length w := fun l J Jx W hW hJg _ hY h0 =>
  pays_iter n l Bb T v ps q J Jx hJg hY W ((hW.block Bb (Array.getElem?_eq_some_iff.1 hb).1).trans hb) (hT.below hW) hl h0
theorem pays_any (T : Nat) (w : World) : Calls Try.prog 24 #[.pointer (some ⟨T, 0, none⟩)] w fun e w' => e = .returned (.func (.func 26) #[] #[.pointer (some ⟨w.heap.size, 0, none⟩)]) ∧ w' = w.alloc (.cells #[.pointer (some ⟨T, 0, none⟩)] 25) := by
  go_enter Try.func24, Try.ntmps24
  go_wp2_with fail
  go_ret
  exact ⟨rfl, rfl⟩

/-- what Bytes' sum holds when these have come -/
def SumAt (S base : Nat) (w : World) (xs : List (Fr × Value)) (W : World) : Prop := W.heap[S]? = some (.cells #[.int .i64 (sumPay (xs.map (·.1)) : Nat)] 3 (0, 0)) ∧ Below w.heap.size w W ∧ base ≤ W.heap.size ∧ sumPay (xs.map (·.1)) ≤ xs.length * 100000
theorem SumAt.grows (S base : Nat) (w : World) : Grows (SumAt S base w) := by
  rintro s A W ⟨h1, h2, h3, h4⟩ hg
  exact ⟨(hg.block _ (Array.getElem?_eq_some_iff.1 h1).1).trans h1, h2.trans (hg.mono h2.size), Nat.le_trans h3 hg.size, h4⟩
theorem SumAt.turns {S base : Nat} {w : World} (hS : S < base) (hw : w.heap.size ≤ base) : Turns base (SumAt S base w) := by
  rintro s A l o o' ⟨h1, h2, h3, h4⟩ hl hlo hoc
  exact ⟨(World.putObj_heap_other (by omega)).trans h1, h2.trans (below_put A o o' (by omega) hlo), by rw [World.putObj_size]; exact h3, h4⟩
set_option maxHeartbeats 2000000 in
theorem bytes19_any (T : Nat) (v : Value) (ps : List (Fr × Value)) (q : Q19) (w : World) (h : CqO w T v ps q) (hl : ps.length ≤ 1000) (hp : ∀ p ∈ ps, p.1.pay.length ≤ 100000) :
    Calls Try.prog 17 #[.pointer (some ⟨T, 0, none⟩)] w fun e w' => e = .returned (.int .i64 (sumPay q.l : Nat)) ∧ Below w.heap.size w w' := by
  have hv0 : ∀ g, v.ownBlock = some g → g < w.heap.size := fun g hg => (h.row.lt g hg).2
  refine (callsIn_wide (n := 4)).1 ?_
  refine callsIn_of_wp_marks Try.func17 rfl trivial ?_ rfl
  simp only [Try.ntmps17, List.size_toArray, List.length_cons, List.length_nil, Nat.reduceAdd, Nat.reduceSub, Array.replicate_succ, Array.replicate_zero, List.push_toArray, List.append_toArray, List.nil_append, List.cons_append]
  refine wpIn_wide.2 ?_
  go_wp2_with (go_at_call 24; refine (pays_any T _).mono ?_; rintro e w' ⟨rfl, rfl⟩)
  refine (wpIn_wide (n := 4)).1 ?_
  gi_wp2
  have k0 : ((w.alloc (.cells #[.int .i64 0] 3)).alloc (.cells #[.pointer (some ⟨T, 0, none⟩)] 25)).heap[w.heap.size]? = some (.cells #[.int .i64 0] 3 (0, 0)) := (Below.heap_alloc _ _ _ (by simp)).trans (heap_alloc_new _ _)
  have k1 : ((w.alloc (.cells #[.int .i64 0] 3)).alloc (.cells #[.pointer (some ⟨T, 0, none⟩)] 25)).heap[w.heap.size + 1]? = some (.cells #[.pointer (some ⟨T, 0, none⟩)] 25 (0, 0)) := by
    have := heap_alloc_new (w.alloc (.cells #[.int .i64 0] 3)) (.cells #[.pointer (some ⟨T, 0, none⟩)] 25)
    simpa using this
  have hB2 : Below w.heap.size w ((w.alloc (.cells #[.int .i64 0] 3)).alloc (.cells #[.pointer (some ⟨T, 0, none⟩)] 25)) := ((Below.refl _ w).alloc (Nat.le_refl _) _).alloc (by simp) _
  have hs2 : ((w.alloc (.cells #[.int .i64 0] 3)).alloc (.cells #[.pointer (some ⟨T, 0, none⟩)] 25)).heap.size = w.heap.size + 2 := by simp
  obtain ⟨W2, hW2⟩ : ∃ W2, (w.alloc (.cells #[.int .i64 0] 3)).alloc (.cells #[.pointer (some ⟨T, 0, none⟩)] 25) = W2 := ⟨_, rfl⟩
  rw [hW2] at k0 k1 hB2 hs2 ⊢
  have HS := Lib.hid hs2
  clear hW2 hs2
  have hT2 := h.below hB2
  refine range_seqP (gf := 26) (lb := #[.pointer (some ⟨w.heap.size + 1, 0, none⟩)]) rfl (enters_of Try.func26 (by kernel_rfl) rfl)
    (pays_seq _ _ T v ps q W2 k1 hT2 hl) (fun _ => rfl)
    (fun h k => h.trans k)
    (fun W l o o' hl hlo _ => ⟨by rw [World.putObj_size]; exact Nat.le_refl _, fun g hg => World.putObj_heap_other (by have := hv0 g hg; have := HS.out; omega)⟩)
    (SumAt w.heap.size W2.heap.size w)
    (fun _ _ _ => False)
    (fun pre x a' W => ∃ pa pc, x.2 = .slice pa x.1.pay.length pc ∧ x.1.pay.length ≤ 100000 ∧ a' = { tmps := #[.pointer (some ⟨T, 0, none⟩), undef, .int .i64 0, .pointer (some ⟨w.heap.size, 0, none⟩), x.2, .pointer (some ⟨T, 0, none⟩), .bool false, .pointer (some ⟨T, 0, none⟩), .func (.func 26) #[] #[.pointer (some ⟨w.heap.size + 1, 0, none⟩)], x.2, undef, undef, undef, undef, undef], defers := [] })
    (SumAt.grows _ _ _) (SumAt.turns (by have := HS.out; omega) (by have := HS.out; omega))
    (by rintro c s A W h; exact h.elim)
    (by rintro c s A l o o' h; exact h.elim)
    ?tTurn ⟨k0, hB2, Nat.le_refl _, Nat.zero_le _⟩ ?tAssign ?tBody ?tDone ?tStop
  case tTurn =>
    rintro pre x a' _ A l o o' h hl hlo ho
    exact h
  case tAssign =>
    rintro l pre x W K hI hY hK
    have hxm : x ∈ ps := List.mem_of_getElem? hY
    obtain ⟨pa, pc, hpv, _⟩ := h.pay x hxm
    dsimp only [encPy]
    gi_wp2
    refine hK _ _ ⟨Nat.le_refl _, fun _ _ _ h _ => h⟩ (KeepRw19.refl _ _) hI ⟨pa, pc, hpv, hp x hxm, ?_⟩
    rw [hpv]
  case tBody =>
    rintro l pre ⟨F, pv⟩ a' W ⟨h1, h2, h3, h4⟩ ⟨pa, pc, hpv, hpl, rfl⟩ hlen
    dsimp only at hpv hpl
    subst hpv
    obtain ⟨z, hz⟩ : ∃ z, sumPay (pre.map (·.1)) = z := ⟨_, rfl⟩
    rw [hz] at h1 h4
    have hz1 : z ≤ 100000000 := Nat.le_trans h4 (by have : pre.length ≤ 1000 := by omega
                                                    omega)
    have hz2 : ((pre ++ [(F, Value.slice pa F.pay.length pc)]).map (·.1)) = pre.map (·.1) ++ [F] := by simp
    have HE := Lib.hid (show sumPay ((pre ++ [(F, Value.slice pa F.pay.length pc)]).map (·.1)) = z + F.pay.length by rw [hz2, sumPay_append, hz]; simp [sumPay])
    have HI := Lib.hid (And.intro h1 (And.intro h2 (And.intro h3 (And.intro h4 hpl))))
    have c0 := blk_cell (j := 0) h1 rfl
    have f0 := blk_free (j := 0) h1
    have l0 := (Array.getElem?_eq_some_iff.1 h1).1
    clear h1 h2 h3 h4 hz hz2
    gi_wp2
    obtain ⟨h1, h2, h3, h4, hpl⟩ := HI.out
    refine ⟨(KeepsOthers.setCell _ _ _).from _, ⟨by simp [World.setCell], fun g hg => Below.heap_setCell _ _ _ _ (by have := hv0 g hg; show g ≠ w.heap.size; omega)⟩, ?_, h2.setCell (p := ⟨w.heap.size, 0, none⟩) (Nat.le_refl _) _, by simpa [World.setCell] using h3, ?_⟩
    · rw [HE.out]
      have := heap_setCell_same W w.heap.size 0 _ _ (.int .i64 ((z : Int) + F.pay.length)) h1
      simpa using this
    · rw [HE.out]
      simp only [List.length_append, List.length_cons, List.length_nil]
      omega
  case tDone =>
    rintro D xs W hD hcame ⟨h1, h2, h3, h4⟩ hDk
    obtain rfl : xs = ps := hcame
    have HE := Lib.hid (show sumPay q.l = sumPay (xs.map (·.1)) by rw [h.e])
    have c0 := blk_cell (j := 0) h1 rfl
    have HB := Lib.hid h2
    clear h1 h2 h3 h4
    gi_wp2
    go_wp2_with fail
    refine ⟨by simp, .inl ⟨_, _, rfl, run_takeDeferred hDk, ?_⟩⟩
    refine ⟨_, results_tmp rfl _ _ _, by rw [HE.out]; rfl, HB.out.trans (below_put _ _ _ (by have := HS.out; omega) hDk)⟩
  case tStop =>
    rintro D c pre W hD hcame h
    exact h.elim
end Go.Proofs.Ytiappeagdnkedaa
