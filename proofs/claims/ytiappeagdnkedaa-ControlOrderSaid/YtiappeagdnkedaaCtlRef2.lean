
/-
  Layer 19's reference: Pop, Bytes, Begin.
-/
import Derived.Test.YtiappeagdnkedaaCtlRef
import Derived.Test.YtiappeagdnkedaaFrStore
import Derived.Test.YtiappeagdnkedaaBuilds
import Derived.Deep.LoopGhost
namespace Go.Proofs.Ytiappeagdnkedaa
set_option maxRecDepth 20000
open Go.RowKit

theorem Try.sliceFr19 : Try.prog.underlying 42 = some (.slice (Try.prog.elem 42)) := by kernel_rfl
theorem Try.sizeFr19 (w : World) : (sizeOf (Try.prog.elem 42)).run Try.prog w = .ok 4 w := by kernel_rfl
/-- 'v[1:]' of frames -/
theorem SlF.rest {w : World} {a : Option Addr} {n cap : Nat} {p : Fr × Value} {ps : List (Fr × Value)} (h : SlF w (.slice a n cap) (p :: ps)) :
    ∃ v, (∀ (kl : IntKind) (w1 : World), (Instr.slice 42 (.slice a n cap) (some (.int kl 1)) none none).run Try.prog w1 = .ok v w1) ∧ SlF w v ps ∧ (∃ a' c', v = .slice a' ps.length c') ∧ ∀ g, v.ownBlock = some g → (Value.slice a n cap).ownBlock = some g := by
  obtain ⟨h1, a', cap', e, hc1, hc2, h3⟩ := h
  simp only [Value.slice.injEq] at e
  obtain ⟨rfl, rfl, rfl⟩ := e
  simp only [List.length_cons] at hc1 h3
  rcases h3 with ⟨h3, _⟩ | ⟨b, off, rfl, hb, hc⟩
  · omega
  have hs : sliced (some ⟨b, off, none⟩) 1 (ps.length + 1) cap 4 = .slice (if cap = 1 then some ⟨b, off, none⟩ else some ⟨b, off + 4, none⟩) ps.length (cap - 1) := by
    unfold sliced
    split <;> rename_i h
    · simp
    · simp [Go.WideShapes.add_plain]
  refine ⟨_, fun kl w1 => by rw [run_slice_l w1 _ _ _ _ Try.sliceFr19 kl 1 (by decide) (by simp; omega), Try.sizeFr19]; exact rfl, ?_, ?_, ?_⟩
  · show SlF w (sliced (some ⟨b, off, none⟩) 1 (ps.length + 1) cap 4) ps
    rw [hs]
    refine ⟨fun q hq => h1 q (List.mem_cons_of_mem _ hq), _, _, rfl, by omega, by omega, ?_⟩
    by_cases hcap : cap = 1
    · rw [if_pos hcap]
      exact .inl ⟨by omega, fun e => by cases e⟩
    · rw [if_neg hcap]
      exact .inr ⟨b, off + 4, rfl, hb, fun i q hi => by
        have := hc (i + 1) q (by simpa using hi)
        rwa [show off + (i + 1) * 4 = off + 4 + i * 4 by omega] at this⟩
  · show ∃ a' c', sliced (some ⟨b, off, none⟩) 1 (ps.length + 1) cap 4 = .slice a' ps.length c'
    rw [hs]
    exact ⟨_, _, rfl⟩
  · intro g hg
    have hg' : (sliced (some ⟨b, off, none⟩) 1 (ps.length + 1) cap 4).ownBlock = some g := hg
    rw [hs] at hg'
    split at hg' <;> exact hg'
theorem rbegin19_any (room : Int) (w : World) : Calls Try.prog 8 #[.int .i64 room] w fun e w' => e = .returned (.pointer (some ⟨w.heap.size, 0, none⟩)) ∧ RqObj w' w.heap.size (.slice none 0 0) [] ⟨room, [], false⟩ ∧ Below w.heap.size w w' := by
  go_enter Try.func8, Try.ntmps8
  go_wp2_with fail
  go_ret
  exact ⟨rfl, ⟨heap_alloc_new w _, SlF.nil _, rfl, (fun g hg => by cases hg), (fun p hp => by cases hp)⟩, (Below.refl _ _).alloc (Nat.le_refl _) _⟩
set_option maxHeartbeats 1000000 in
theorem rbytes19_any (R : Nat) (lv : Value) (ps : List (Fr × Value)) (q : Q19) (w : World) (h : RqObj w R lv ps q) (hl : ps.length ≤ 1000) (hp : ∀ p ∈ ps, p.1.pay.length ≤ 100000) :
    Calls Try.prog 18 #[.pointer (some ⟨R, 0, none⟩)] w fun e w' => e = .returned (.int .i64 (sumPay q.l : Nat)) ∧ w' = w := by
  obtain ⟨al, cl, elv, hcl1, hcl2, _⟩ := id h.l.2
  obtain ⟨N, hN⟩ : ∃ N, N = ps.length := ⟨_, rfl⟩
  rw [← hN] at elv hl
  subst elv
  have HN := Lib.hid hN
  have HH := Lib.hid h
  have HP := Lib.hid hp
  obtain ⟨f0, f1, f2, f3⟩ := h.blk.cells
  clear hN h hp
  go_enter Try.func18, Try.ntmps18
  go_wp2_with fail
  go_loopg [3, 4] N (fun m s3 s4 wr => ∃ k : Nat, k + m = N ∧ s4 = .int .i64 k ∧ (∃ n : Nat, s3 = .int .i64 n ∧ Hid (n = sumPay ((ps.take k).map (·.1)) ∧ n ≤ k * 100000)) ∧ wr = w)
  case atStart => exact ⟨0, by omega, rfl, ⟨0, rfl, Lib.hid ⟨by simp [sumPay], by omega⟩⟩, rfl⟩
  case round =>
    obtain ⟨k, hkq, rfl, ⟨n, rfl, HS⟩, rfl⟩ := hrel
    have HKQ := Lib.hid hkq
    have hk : k ≤ N := by omega
    clear hkq
    by_cases hlt : k < N
    · obtain ⟨p, hp⟩ : ∃ p, ps[k]? = some p := ⟨ps[k]'(by rw [← HN.out]; exact hlt), List.getElem?_eq_getElem (by rw [← HN.out]; exact hlt)⟩
      obtain ⟨hfp, a', c', e', _, _, h3⟩ := HH.out.l
      simp only [Value.slice.injEq] at e'
      obtain ⟨rfl, -, rfl⟩ := e'
      rcases h3 with ⟨h3, _⟩ | ⟨b, off, rfl, hbl, hcell⟩
      · exfalso; rw [← HN.out] at h3; omega
      obtain ⟨g0, g1, g2, g3⟩ := hcell k p hp
      have hpm := List.mem_of_getElem? hp
      have hpl := HP.out p hpm
      obtain ⟨pa, pc, hpv, _⟩ := hfp p hpm
      rw [hpv] at g3
      have HE := Lib.hid (show sumPay ((ps.take (k + 1)).map (·.1)) = n + p.1.pay.length from by
        rw [List.take_add_one, hp, List.map_append, sumPay_append, HS.out.1]
        simp [sumPay])
      have hn2 : n ≤ 100000000 := by have := HS.out.2; omega
      have HS2 := Lib.hid (show n ≤ k * 100000 ∧ p.1.pay.length ≤ 100000 from ⟨HS.out.2, hpl⟩)
      clear hcell hp hpm hpv hfp
      go_wp2_with fail
      go_roundg (N - (k + 1))
      case measure => have := HKQ.out; omega
      case rel => exact ⟨k + 1, by omega, by go_num, ⟨n + p.1.pay.length, by go_num, Lib.hid ⟨HE.out.symm, by have := HS2.out; omega⟩⟩, rfl⟩
    · obtain rfl : k = N := by omega
      have HE := Lib.hid (show sumPay q.l = n from by rw [HH.out.e, HS.out.1, List.take_of_length_le (by rw [HN.out]; exact Nat.le_refl _)])
      clear hlt hk
      go_wp2_with fail
      go_ret
      exact ⟨by rw [HE.out]; rfl, rfl⟩
set_option maxHeartbeats 4000000 in
theorem rpop19_any (R : Nat) (lv : Value) (ps : List (Fr × Value)) (q : Q19) (w : World) (h : RqObj w R lv ps q) (hl : ps.length ≤ 100000) :
    Calls Try.prog 10 #[.pointer (some ⟨R, 0, none⟩)] w fun e w' =>
      ∃ fv lv', e = .returned (.tuple #[fv, .bool (popB q)]) ∧ FrV w' fv (popF q) ∧ RqObj w' R lv' (ps.drop 1) (popQ q) ∧ Turn (fun k => k = R) w w' ∧ FromL w w' lv lv' := by
  obtain ⟨room, ql, ended⟩ := q
  have hql : ql = ps.map (·.1) := h.e
  subst hql
  obtain ⟨g, hg⟩ : ∃ g, w.heap.size = g := ⟨_, rfl⟩
  obtain ⟨W1, hW1⟩ : ∃ W1, w.alloc (.cells #[.int .i64 0, .int .i64 0, .int .i64 0, .slice none 0 0] 34) = W1 := ⟨_, rfl⟩
  have HB1 := Lib.hid (show Below w.heap.size w W1 ∧ W1.heap[g]? = some (.cells #[.int .i64 0, .int .i64 0, .int .i64 0, .slice none 0 0] 34 (0, 0)) ∧ R < g ∧ w.heap.size = g ∧ W1.heap.size = g + 1 from by
    rw [← hW1, ← hg]; exact ⟨(Below.refl _ _).alloc (Nat.le_refl _) _, heap_alloc_new _ _, h.blk.lt, rfl, by simp⟩)
  have HR := Lib.hid (h.below HB1.out.1)
  have HOld := Lib.hid (show ∀ k, lv.ownBlock = some k → k < g from fun k hk => by rw [← hg]; exact (h.nl k hk).2)
  obtain ⟨f0, f1, f2, f3⟩ := HR.out.blk.cells
  dsimp only at f0 f2
  cases ps with
  | nil =>
    obtain ⟨al, cl, elv, _⟩ := id h.l.2
    rw [List.length_nil] at elv
    subst elv
    clear h hl
    go_enter Try.func10, Try.ntmps10
    go_wp2_with (refine store_fr13 rfl (.tmp 2) (.tmp 11) rfl g Fr.zero none 0 0 _ rfl rfl HB1.out.2.1 rfl ?_)
    simp only [Fr.zero]
    have HZ := Lib.hid (show Below w.heap.size w (W1.setRow g #[.int .i64 0, .int .i64 0, .int .i64 0, .slice none 0 0]) ∧ (W1.setRow g #[.int .i64 0, .int .i64 0, .int .i64 0, .slice none 0 0]).heap[g]? = some (.cells #[.int .i64 0, .int .i64 0, .int .i64 0, .slice none 0 0] 34 (0, 0)) from ⟨below_setRow HB1.out.1 (by rw [HB1.out.2.2.2.1]; exact Nat.le_refl _) _, setRow_heap _ _ _ _ _ _ HB1.out.2.1⟩)
    have HR2 := Lib.hid (HR.out.turn (Turn.of_grown (setRow_grown W1 g #[.int .i64 0, .int .i64 0, .int .i64 0, .slice none 0 0])) (by have := HB1.out.2.2.1; omega) (fun k hk e => by have h1 := (HOld.out k hk); omega) (fun p hp => by cases hp))
    refine bodyPost_ret (results_row_tmp1 rfl _ _ g 34 #[.int .i64 0, .int .i64 0, .int .i64 0, .slice none 0 0] (0, 0) _ rfl HZ.out.2 Try.underlying34 rfl (by kernel_rfl)) rfl ?_
    exact ⟨_, _, rfl, FrV.zero _, HR2.out, Turn.of_below HZ.out.1, fun g hg => .inl hg⟩
  | cons p ps =>
    obtain ⟨F, pv⟩ := p
    obtain ⟨N, hN⟩ : ∃ N, ((F, pv) :: ps).length = N := ⟨_, rfl⟩
    obtain ⟨al, cl, elv, _⟩ := id h.l.2
    rw [hN] at elv hl
    subst elv
    have hN0 : 0 < N := by rw [← hN]; simp
    have d0 : ((N : Int) == 0) = false := by rw [beq_eq_false_iff_ne]; omega
    obtain ⟨ap, cp, hpv, _⟩ := id (HR.out.l.1 (F, pv) List.mem_cons_self)
    dsimp only at hpv
    subst hpv
    have HPay := Lib.hid (show Sl .u8 w (.slice ap F.pay.length cp) F.pay ∧ (F.pay ≠ [] → ∀ k, (Value.slice ap F.pay.length cp).ownBlock = some k → k ≠ R) from ⟨h.l.1 (F, .slice ap F.pay.length cp) List.mem_cons_self, h.np (F, .slice ap F.pay.length cp) List.mem_cons_self⟩)
    obtain ⟨vr, hrun, hvr, ⟨ar, cr, rfl⟩, hvo⟩ := HR.out.l.rest
    have HVr := Lib.hid (And.intro hvr hvo)
    have HPs := Lib.hid (show ∀ q ∈ ps, Sl .u8 w q.2 q.1.pay from fun q hq => h.l.1 q (List.mem_cons_of_mem _ hq))
    have HNp := Lib.hid (show ∀ q ∈ ps, q.1.pay ≠ [] → ∀ k, q.2.ownBlock = some k → k ≠ R from fun q hq => h.np q (List.mem_cons_of_mem _ hq))
    obtain ⟨_, a', c', e', _, _, h3⟩ := HR.out.l
    simp only [Value.slice.injEq] at e'
    obtain ⟨rfl, -, rfl⟩ := e'
    rcases h3 with ⟨h3, _⟩ | ⟨b, off, rfl, hbl, hcell⟩
    · exact absurd h3 (by simp)
    obtain ⟨x0, x1, x2, x3⟩ := hcell 0 _ rfl
    dsimp only at x0 x1 x2 x3
    simp only [Nat.zero_mul, Nat.add_zero] at x0 x1 x2 x3
    obtain ⟨C, hC⟩ : ∃ C, W1.heap.size = C := ⟨_, rfl⟩
    obtain ⟨W2, hW2⟩ : ∃ W2, W1.alloc (.cells #[.int .i64 0, .int .i64 0, .int .i64 0, .slice none 0 0] 34) = W2 := ⟨_, rfl⟩
    have HB2 := Lib.hid (show Below W1.heap.size W1 W2 ∧ W2.heap[C]? = some (.cells #[.int .i64 0, .int .i64 0, .int .i64 0, .slice none 0 0] 34 (0, 0)) from by
      rw [← hW2, ← hC]; exact ⟨(Below.refl _ _).alloc (Nat.le_refl _) _, heap_alloc_new _ _⟩)
    obtain ⟨W3, hW3⟩ : ∃ W3, W2.setRow C #[.int .i64 F.kind, .int .i64 F.flags, .int .i64 F.stream, .slice ap F.pay.length cp] = W3 := ⟨_, rfl⟩
    have HB3 := Lib.hid (show Below W1.heap.size W1 W3 ∧ W3.heap[C]? = some (.cells #[.int .i64 F.kind, .int .i64 F.flags, .int .i64 F.stream, .slice ap F.pay.length cp] 34 (0, 0)) from by
      rw [← hW3]; exact ⟨below_setRow HB2.out.1 (by rw [hC]; exact Nat.le_refl _) _, setRow_heap _ _ _ _ _ _ HB2.out.2⟩)
    have HR3 := Lib.hid (HR.out.below HB3.out.1)
    obtain ⟨j0, j1, j2, j3⟩ := HR3.out.blk.cells
    have jf := HR3.out.blk.free 1
    dsimp only at j0 j2
    obtain ⟨W4, hW4⟩ : ∃ W4, W3.setCell ⟨R, 1, none⟩ (.slice ar ps.length cr) = W4 := ⟨_, rfl⟩
    have HRg := Lib.hid (show R < g ∧ g < C ∧ w.heap.size = g from ⟨HB1.out.2.2.1, by rw [← hC, HB1.out.2.2.2.2]; omega, hg⟩)
    have HT4 := Lib.hid (show Turn (fun k => k = R) W3 W4 from by rw [← hW4]; exact turn_set19 _ _ _)
    have HG4 := Lib.hid (show W4.heap[g]? = some (.cells #[.int .i64 0, .int .i64 0, .int .i64 0, .slice none 0 0] 34 (0, 0)) ∧ W4.heap[C]? = some (.cells #[.int .i64 F.kind, .int .i64 F.flags, .int .i64 F.stream, .slice ap F.pay.length cp] 34 (0, 0)) from
      ⟨HT4.out.obj ((HB3.out.1.block g (by rw [HB1.out.2.2.2.2]; omega)).trans HB1.out.2.1) (by have := HRg.out; omega), HT4.out.obj HB3.out.2 (by have := HRg.out; omega)⟩)
    have HR4 := Lib.hid (show RqObj W4 R (.slice ar ps.length cr) ps ⟨room, ps.map (·.1), ended⟩ from by
      rw [← hW4]
      exact RqObj.setL (q := ⟨room, ((F, Value.slice ap F.pay.length cp) :: ps).map (·.1), ended⟩) HR3.out.blk (HVr.out.1.below HB3.out.1) (fun k hk => by
        have h1 := HVr.out.2 k hk
        exact ⟨(HR.out.nl k h1).1, Nat.lt_of_lt_of_le (HR.out.nl k h1).2 HB3.out.1.size⟩) HNp.out)
    have y0 := blk_cell (j := 0) HG4.out.2 rfl
    have y1 := blk_cell (j := 1) HG4.out.2 rfl
    have y2 := blk_cell (j := 2) HG4.out.2 rfl
    have y3 := blk_cell (j := 3) HG4.out.2 rfl
    have y4 := (Array.getElem?_eq_some_iff.1 HG4.out.2).1
    clear h hl hcell hN hvr hvo
    go_enter Try.func10, Try.ntmps10
    go_wp2_with (first
      | (refine store_fr13 rfl (.tmp 4) (.tmp 17) rfl C F ap F.pay.length cp _ rfl rfl HB2.out.2 rfl ?_)
      | (refine store_fr13 rfl (.tmp 2) (.tmp 26) rfl g F ap F.pay.length cp _ rfl rfl HG4.out.1 rfl ?_))
    have HZ := Lib.hid (setRow_heap _ _ _ #[.int .i64 F.kind, .int .i64 F.flags, .int .i64 F.stream, .slice ap F.pay.length cp] _ _ HG4.out.1)
    have HTz := Lib.hid (show Turn (fun k => k = g) W4 (W4.setRow g #[.int .i64 F.kind, .int .i64 F.flags, .int .i64 F.stream, .slice ap F.pay.length cp]) from Turn.of_grown (setRow_grown _ _ _))
    have HTw := Lib.hid (show Turn (fun k => k = R) w W4 from ((Turn.of_below HB1.out.1).trans (Turn.of_below (HB3.out.1))).trans HT4.out)
    generalize W4.setRow g #[.int .i64 F.kind, .int .i64 F.flags, .int .i64 F.stream, .slice ap F.pay.length cp] = W5 at HZ HTz ⊢
    refine bodyPost_ret (results_row_tmp1 rfl _ _ g 34 #[.int .i64 F.kind, .int .i64 F.flags, .int .i64 F.stream, .slice ap F.pay.length cp] (0, 0) _ rfl HZ.out Try.underlying34 rfl (by kernel_rfl)) rfl ?_
    have hz := HRg.out
    have ht : Turn (fun k => k = R) w W5 := HTw.out.trans' HTz.out (fun k hk e => by have e' : k = g := e; omega)
    have hbz : Below w.heap.size W4 W5 := ⟨HTz.out.1, HTz.out.2.1, HTz.out.2.2.1, HTz.out.size, fun k hk => HTz.out.2.2.2.2 k (Nat.lt_of_lt_of_le hk HTw.out.size) (fun e => by have e' : k = g := e; omega)⟩
    have hnl : ∀ k, (Value.slice ar ps.length cr).ownBlock = some k → ¬ k = g := fun k hk e => by have h1 := HOld.out k (HVr.out.2 k hk); omega
    have r1 : RqObj W5 R (.slice ar ps.length cr) ps ⟨room, ps.map (·.1), ended⟩ :=
      ⟨HTz.out.obj HR4.out.blk (by omega), HR4.out.l.turnP HTz.out hnl (fun q hq => (HR4.out.l.1 q hq).later19 (HPs.out q hq) hbz), HR4.out.e, fun k hk => ⟨(HR4.out.nl k hk).1, Nat.lt_of_lt_of_le (HR4.out.nl k hk).2 HTz.out.size⟩, HR4.out.np⟩
    have r2 : FrV W5 (.agg #[.int .i64 F.kind, .int .i64 F.flags, .int .i64 F.stream, .slice ap F.pay.length cp]) F := ⟨_, rfl, HPay.out.1.turn0 ht HPay.out.2⟩
    have r3 : FromL w W5 (.slice (some ⟨b, off, none⟩) N cl) (.slice ar ps.length cr) := fun k hk => .inl (HVr.out.2 k hk)
    first
    | exact ⟨_, _, rfl, r2, r1, ht, r3⟩
    | exact ⟨_, rfl, r2, _, r1, ht, r3⟩
end Go.Proofs.Ytiappeagdnkedaa
