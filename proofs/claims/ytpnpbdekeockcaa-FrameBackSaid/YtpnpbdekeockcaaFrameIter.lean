/-
  frame.frames: what it ranges over.
-/
import Derived.Test.YtpnpbdekeockcaaFrameNext
import Derived.Test.YtpnpbdekeockcaaFrameList
import Derived.Test.YtpnpbdekeockcaaRange
import Derived.WalkKit
import Derived.OwnWalkIn
import Derived.TacticsInMore
import Derived.LoopNIn
import Derived.LoopIn
namespace Go.Proofs.Ytpnpbdekeockcaa
open Go.RowKit
attribute [local go_sem] Oper.semAt_some

/-- what is handed on: a frame, its payload's address and room, the error -/
structure It where
  f : Fr
  ao : Option Addr
  cp : Nat
  err : Int
def It.pv (x : It) : Value := .slice x.ao x.f.pay.length x.cp
def It.fv (x : It) : Value := .agg #[.int .i64 x.f.kind, .int .i64 x.f.flags, .int .i64 x.f.stream, .slice x.ao x.f.pay.length x.cp]
def It.holds (t : TypeId) (x : It) (W : World) : Prop := x.f.pay.length ≤ 1000000 ∧ Sl .u8 W x.pv x.f.pay ∧ Ty W t x.pv
/-- how many bytes they have -/
def cnt (xs : List It) : Nat := xs.foldl (fun c x => c + (9 + x.f.pay.length)) 0
theorem cnt_snoc (xs : List It) (x : It) : cnt (xs ++ [x]) = cnt xs + (9 + x.f.pay.length) := by simp [cnt, List.foldl_append]
/-- these have come, and are frames, up to byte m -/
def Coh (most : Int) (zs : List Int) (xs : List It) (m : Nat) : Prop := m ≤ zs.length ∧ 9 * xs.length ≤ m ∧ m = cnt xs ∧ (∀ x ∈ xs, x.err = 0) ∧ allOf most zs = joinA (xs.map (·.f)) m (allOf most (zs.drop m))
/-- all have come: to the end; or the last one is none -/
def AllCame (most : Int) (zs : List Int) (xs : List It) : Prop := Coh most zs xs zs.length ∨ ∃ ini x m, xs = ini ++ [x] ∧ Coh most zs ini m ∧ m < zs.length ∧ x.err = nextE (zs.drop m) most ∧ x.err ≠ 0
/-- a round has said 'no more' -/
def SomeCame (most : Int) (zs : List Int) (xs : List It) : Prop := ∃ ini x m, xs = ini ++ [x] ∧ Coh most zs ini m ∧ m < zs.length ∧ x.err = nextE (zs.drop m) most

theorem frames_any (v : Value) (most : Int) (w : World) (ao : Option Addr) (n c : Nat) (hv : v = .slice ao n c) :
    Calls Try.prog 23 #[v, .int .i64 most] w fun e w' => e = .returned (.func (.func 28) #[] #[.pointer (some ⟨w.heap.size, 0, none⟩), .pointer (some ⟨w.heap.size + 1, 0, none⟩)]) ∧ w' = (w.alloc (.cells #[v] 23)).alloc (.cells #[.int .i64 most] 3) := by
  subst hv
  go_enter Try.func23, Try.ntmps23
  go_wp2
  go_ret
  exact ⟨rfl, rfl⟩

set_option maxHeartbeats 1000000 in
theorem iter_any (n : Nat) (l Bb Bm n₀ : Nat) (v : Value) (zs : List Int) (most : Int) (J Jx : List It → World → Prop) (hJg : Grows J)
    (hY : ∀ pre x W1, J pre W1 → It.holds 5 x W1 → pre.length < zs.length → YieldAt Fence.wide (n - 1) Try.prog l #[x.fv, .int .i64 x.err] W1 fun e W' =>
      (e = .returned (.bool true) ∧ J (pre ++ [x]) W' ∧ (Below n₀ W1 W' ∧ W'.heap[Bb]? = W1.heap[Bb]? ∧ W'.heap[Bm]? = W1.heap[Bm]?)) ∨ (e = .returned (.bool false) ∧ Jx (pre ++ [x]) W'))
    (W0 W : World) (hn0 : W0.heap.size = n₀) (hv : Sl .u8 W0 v zs) (hz : zs.length ≤ 1000000) (hW0 : Below n₀ W0 W) (hb : W.heap[Bb]? = some (.cells #[v] 23 (0, 0))) (hm : W.heap[Bm]? = some (.cells #[.int .i64 most] 3 (0, 0))) (h0 : J [] W) :
    CallsIn Fence.wide n Try.prog 28 #[.func (.yield l) #[] #[], .pointer (some ⟨Bb, 0, none⟩), .pointer (some ⟨Bm, 0, none⟩)] W fun e W' => (∃ v, e = .returned v) ∧ ((∃ xs, AllCame most zs xs ∧ J xs W') ∨ ∃ pre, SomeCame most zs pre ∧ Jx pre W') := by
  subst hn0
  obtain ⟨a, cap, rfl, _⟩ := id hv
  refine callsIn_of_wp Try.func28 rfl trivial ?_ rfl
  simp only [Try.ntmps28, List.size_toArray, List.length_cons, List.length_nil, Nat.reduceAdd, Nat.reduceSub, Array.replicate_succ, Array.replicate_zero, List.push_toArray, List.append_toArray, List.nil_append, List.cons_append]
  gi_wp2
  gi_loopw [4] (fun i wr => ∃ (m : Nat) (xs : List It), i = .int .i64 m ∧ Hid (Coh most zs xs m) ∧ J xs wr ∧ Below W0.heap.size W0 wr ∧ wr.heap[Bb]? = some (.cells #[.slice a zs.length cap] 23 (0, 0)) ∧ wr.heap[Bm]? = some (.cells #[.int .i64 most] 3 (0, 0)))
    (fun i _ => zs.length - (intOf i).toNat)
  case atStart => exact ⟨0, [], rfl, (by show Coh _ _ _ _; exact ⟨Nat.zero_le _, by simp, rfl, fun x hx => by simp at hx, by simp [joinA]⟩), h0, hW0, hb, hm⟩
  case round =>
    clear hb hm hW0 h0
    obtain ⟨m, xs, rfl, HC, hJ, hB, hbb, hbm⟩ := hrel
    have hmle := HC.out.1
    have cb := blk_cell (j := 0) hbb rfl
    have cm := blk_cell (j := 0) hbm rfl
    by_cases hlt : m < zs.length
    · have hvr := hv.below hB
      obtain ⟨vd, hrd, hvd⟩ := hvr.from_ Try.sliceB Try.sizeB (m : Int) (by omega) (by omega)
      rw [Int.toNat_natCast] at hvd
      obtain ⟨F, hF⟩ : ∃ F, F = nextF (zs.drop m) most := ⟨_, rfl⟩
      obtain ⟨N, hN⟩ : ∃ N, N = nextN (zs.drop m) most := ⟨_, rfl⟩
      obtain ⟨E, hE⟩ : ∃ E, E = nextE (zs.drop m) most := ⟨_, rfl⟩
      have HF := Lib.hid hF
      have HN := Lib.hid hN
      have HE := Lib.hid hE
      clear hF hN hE
      gi_wp2
      refine wpIn_wide.2 ?_
      have hltB := (Array.getElem?_eq_some_iff.1 hbb).1
      have hltM := (Array.getElem?_eq_some_iff.1 hbm).1
      refine wp_region_late 10 [13, 14, 15, 16, 17, 12, 18, 19, 20, 5] [[], [], [(0, 13), (1, 14)], [], [(2, 15), (3, 16)], [(4, 17)], [(5, 12)], [(5, 12)], [(5, 12)], []] [7, 8]
        (fun i v w' => match i with
          | 0 => v = .slice a zs.length cap
          | 1 => v = .int .i64 m
          | 2 => v = vd
          | 3 => v = .int .i64 most
          | 4 => ∃ ao cp, v = .tuple #[.agg #[.int .i64 F.kind, .int .i64 F.flags, .int .i64 F.stream, .slice ao F.pay.length cp], .int .i64 N, .int .i64 E] ∧ Sl .u8 w' (.slice ao F.pay.length cp) F.pay ∧ Ty w' 5 (.slice ao F.pay.length cp)
          | 5 => ∃ ao cp, v = .tuple #[.agg #[.int .i64 F.kind, .int .i64 F.flags, .int .i64 F.stream, .slice ao F.pay.length cp], .int .i64 N, .int .i64 E] ∧ Sl .u8 w' (.slice ao F.pay.length cp) F.pay ∧ Ty w' 5 (.slice ao F.pay.length cp)
          | 6 => ∃ ao cp, v = .agg #[.int .i64 F.kind, .int .i64 F.flags, .int .i64 F.stream, .slice ao F.pay.length cp] ∧ Sl .u8 w' (.slice ao F.pay.length cp) F.pay ∧ Ty w' 5 (.slice ao F.pay.length cp)
          | 7 => v = .int .i64 N
          | 8 => v = .int .i64 E
          | 9 => ∃ B, v = .pointer (some ⟨B, 0, none⟩) ∧ wr.heap.size ≤ B ∧ w'.heap[B]? = some (.cells #[.int .i64 0, .int .i64 0, .int .i64 0, .slice none 0 0] 25 (0, 0))
          | _ => True) (by kernel_rfl) (by kernel_rfl) ?tStab ?tOps ?tLate ?tRest
      case tStab =>
        intro i v w3 w4 h hb
        match i, h with
        | 0, h | 1, h | 2, h | 3, h | 7, h | 8, h => exact h
        | 4, ⟨ao, cp, e, h1, h2⟩ => exact ⟨ao, cp, e, h1.below hb, h2.below hb⟩
        | 5, ⟨ao, cp, e, h1, h2⟩ => exact ⟨ao, cp, e, h1.below hb, h2.below hb⟩
        | 6, ⟨ao, cp, e, h1, h2⟩ => exact ⟨ao, cp, e, h1.below hb, h2.below hb⟩
        | 9, ⟨B, e, hle, hh⟩ => exact ⟨B, e, hle, (hb.block B (Array.getElem?_eq_some_iff.1 hh).1).trans hh⟩
        | i + 10, _ => trivial
      case tOps =>
        simp only [List.take_succ_cons, List.take_zero, opsOk]
        refine ⟨?_, ?_, ?_, ?_, ?_, ?_, ?_, ?_, ?_, ?_, trivial⟩
        · intro ρ w3 hc hf ho hB2 hj
          have x0 : ρ (.tmp 1) = .pointer (some ⟨Bb, 0, none⟩) := ho 1 (by decide)
          have cc := blk_cell (j := 0) ((hB2.block Bb hltB).trans hbb) rfl
          simp [gives, go_sem, x0, cc, Below.refl]
        · intro ρ w3 hc hf ho hB2 hj
          have x0 : ρ (.tmp 4) = .int .i64 m := ho 4 (by decide)
          simp [gives, go_sem, x0, Below.refl]
        · intro ρ w3 hc hf ho hB2 hj
          have x0 : ρ (.tmp 13) = .slice a zs.length cap := hj (0, 13) (by simp)
          have x1 : ρ (.tmp 14) = .int .i64 m := hj (1, 14) (by simp)
          simp [gives, go_sem, x0, x1, hrd, Below.refl]
        · intro ρ w3 hc hf ho hB2 hj
          have x0 : ρ (.tmp 2) = .pointer (some ⟨Bm, 0, none⟩) := ho 2 (by decide)
          have cc := blk_cell (j := 0) ((hB2.block Bm hltM).trans hbm) rfl
          simp [gives, go_sem, x0, cc, Below.refl]
        · intro ρ w3 hc hf ho hB2 hj
          have x0 : ρ (.tmp 15) = vd := hj (2, 15) (by simp)
          have x1 : ρ (.tmp 16) = .int .i64 most := hj (3, 16) (by simp)
          simp [gives, go_sem, x0, x1, hf]
          refine (next_any vd (zs.drop m) most _ (hvd.below hB2)).mono ?_
          rintro e w4 ⟨fv, rfl, ⟨pv, rfl, h1, h2⟩, hb4⟩
          rw [← HF.out] at h1 ⊢
          rw [← HN.out, ← HE.out]
          obtain ⟨ao, cp, rfl, _⟩ := id h1
          exact ⟨_, rfl, ⟨ao, cp, rfl, h1, h2⟩, hb4⟩
        · intro ρ w3 hc hf ho hB2 hj
          obtain ⟨ao, cp, x0, h1, h2⟩ := hj (4, 17) (by simp)
          dsimp only at x0
          simp [gives, go_sem, x0, Below.refl]
          exact ⟨ao, cp, ⟨rfl, rfl⟩, h1, h2⟩
        · intro ρ w3 hc hf ho hB2 hj
          obtain ⟨ao, cp, x0, h1, h2⟩ := hj (5, 12) (by simp)
          dsimp only at x0
          simp [gives, go_sem, x0, Below.refl]
          exact ⟨ao, cp, ⟨rfl, rfl⟩, h1, h2⟩
        · intro ρ w3 hc hf ho hB2 hj
          obtain ⟨ao, cp, x0, h1, h2⟩ := hj (5, 12) (by simp)
          dsimp only at x0
          simp [gives, go_sem, x0, Below.refl]
        · intro ρ w3 hc hf ho hB2 hj
          obtain ⟨ao, cp, x0, h1, h2⟩ := hj (5, 12) (by simp)
          dsimp only at x0
          simp [gives, go_sem, x0, Below.refl]
        · intro ρ w3 hc hf ho hB2 hj
          simp [gives, go_sem]
          exact ⟨⟨hB2.size, (Array.getElem?_eq_some_iff.1 (heap_alloc_new w3 _)).2⟩, (Below.refl _ _).alloc (Nat.le_refl _) _⟩
      case tLate =>
        intro i hi _ o ho
        simp only [List.mem_cons, List.not_mem_nil, or_false] at hi
        rcases hi with rfl | rfl
        · obtain rfl := Option.some.inj ho
          intro ρ w3 hc _ _ hj
          obtain ⟨ao, cp, x0, h1, h2⟩ := hj (5, 12) (by simp)
          dsimp only at x0
          exact ⟨_, fun w' => by simp [go_sem, x0], rfl⟩
        · obtain rfl := Option.some.inj ho
          intro ρ w3 hc _ _ hj
          obtain ⟨ao, cp, x0, h1, h2⟩ := hj (5, 12) (by simp)
          dsimp only at x0
          exact ⟨_, fun w' => by simp [go_sem, x0], rfl⟩
      case tRest =>
        intro x w3 hB2 hx
        obtain ⟨ao, cp, x6, h1, h2⟩ := hx 6 (by decide)
        obtain ⟨B, x9, hle, hG3⟩ := hx 9 (by decide)
        have x7 : x 7 = .int .i64 N := hx 7 (by decide)
        have x8 : x 8 = .int .i64 E := hx 8 (by decide)
        simp only [putAll, List.getD_cons_zero, List.getD_cons_succ, Act.put, List.setIfInBounds_toArray, List.set_cons_zero, List.set_cons_succ, List.drop_succ_cons, List.drop_zero]
        rw [x6, x7, x8, x9]
        have g0 := blk_cell (j := 0) hG3 rfl
        have g1 := blk_cell (j := 1) hG3 rfl
        have g2 := blk_cell (j := 2) hG3 rfl
        have g3 := blk_cell (j := 3) hG3 rfl
        have f0 := blk_free (j := 0) hG3
        have f1 := blk_free (j := 1) hG3
        have f2 := blk_free (j := 2) hG3
        have f3 := blk_free (j := 3) hG3
        have HG := Lib.hid hG3
        clear hG3 hx
        go_wp2
        refine Calm.intro ?_
        have hs4 := set4 HG.out (.int .i64 F.kind) (.int .i64 F.flags) (.int .i64 F.stream) (.slice ao F.pay.length cp)
        have hg4 := set4_grown w3 B (.int .i64 F.kind) (.int .i64 F.flags) (.int .i64 F.stream) (.slice ao F.pay.length cp)
        obtain ⟨W4, hW4⟩ : ∃ W4, ((((w3.setCell ⟨B, 0, none⟩ (.int .i64 F.kind)).setCell ⟨B, 1, none⟩ (.int .i64 F.flags)).setCell ⟨B, 2, none⟩ (.int .i64 F.stream)).setCell ⟨B, 3, none⟩ (.slice ao F.pay.length cp)) = W4 := ⟨_, rfl⟩
        rw [hW4] at hs4 hg4 ⊢
        have hne : ∀ g, (Value.slice ao F.pay.length cp).ownBlock = some g → some B ≠ some g := fun g hg e => by
          cases e
          obtain ⟨cs, fr, e2⟩ := h2 B hg
          rw [HG.out] at e2
          simp only [Option.some.injEq, Obj.cells.injEq] at e2
          exact absurd e2.2.1 (by decide)
        have hpl : F.pay.length ≤ 1000000 := by
          rw [HF.out]
          exact Nat.le_trans (nextF_len _ _) (by simp; omega)
        have hY4 : It.holds 5 ⟨F, ao, cp, E⟩ W4 := ⟨hpl, h1.kept hg4 hne, h2.kept hg4 hne⟩
        have hxl : xs.length < zs.length := by have := HC.out.2.1; omega
        have hB4 : Below wr.heap.size wr W4 := hB2.grown hg4 hB2.size (fun k hk => by cases hk; exact hle)
        have hJ4 := hJg _ _ _ hJ hB4
        have hB04 := hB.trans (hB4.mono hB.size)
        have hbb4 := (hB4.block Bb hltB).trans hbb
        have hbm4 := (hB4.block Bm hltM).trans hbm
        have k0 := blk_cell (j := 0) hs4 rfl
        have k1 := blk_cell (j := 1) hs4 rfl
        have k2 := blk_cell (j := 2) hs4 rfl
        have k3 := blk_cell (j := 3) hs4 rfl
        obtain ⟨fn, tmps, assign, body, hy, hR⟩ := hY xs ⟨F, ao, cp, E⟩ W4 hJ4 hY4 hxl
        dsimp only [It.fv] at hy
        clear hW4 hs4 hg4 hne hY4 hB4 hJ4 hJ hbb hbm HG x6 x7 x8 x9 hB2 hB h1 h2 cb cm g0 g1 g2 g3 f0 f1 f2 f3 hvr hrd hvd
        by_cases hE0 : E = 0
        · have HE0 := Lib.hid hE0
          subst hE0
          have hst := next_step HE.out.symm (hv.fit.drop m)
          rw [List.length_drop] at hst
          obtain ⟨k, hk⟩ : ∃ k : Nat, N = (k : Int) := ⟨N.toNat, by have := HN.out; omega⟩
          have hk2 := HN.out
          rw [hk] at hk2
          rw [← hk2, ← HF.out] at hst
          subst hk
          have hmax := hv.len
          unfold maxLen at hmax
          gi_wp2
          refine ⟨fun h => by simp [Fence.wide] at h, ?_⟩
          refine hR.mono ?_
          rintro e W5 (⟨rfl, hJ5, hk5⟩ | ⟨rfl, hJx5⟩)
          · gi_wp2
            go_roundw
            case rel =>
              refine ⟨m + k, xs ++ [⟨F, ao, cp, 0⟩], by go_num, ?_, hJ5, hB04.trans hk5.1, hk5.2.1.trans hbb4, hk5.2.2.trans hbm4⟩
              obtain ⟨c1, c2, c5, c3, c4⟩ := HC.out
              refine (show Coh _ _ _ _ from ⟨by omega, by simp; omega, by rw [cnt_snoc, ← c5]; simp only []; omega, ?_, ?_⟩)
              · intro y hy
                rcases List.mem_append.1 hy with hy | hy
                · exact c3 y hy
                · simp only [List.mem_singleton] at hy; rw [hy]
              · rw [c4, joinA_step hv.fit m _ HE.out.symm, ← hk2, ← HF.out]
                simp
            case measure => simp [intOf]; omega
          · gi_wp2
            refine bodyPost_ret (results_none rfl _ _ _) rfl ?_
            exact ⟨⟨_, rfl⟩, .inr ⟨_, ⟨xs, _, m, rfl, HC.out, hlt, HE.out⟩, hJx5⟩⟩
        · have hd : (E != 0) = true := by simpa using hE0
          gi_wp2
          refine ⟨fun h => by simp [Fence.wide] at h, ?_⟩
          refine hR.mono ?_
          rintro e W5 (⟨rfl, hJ5, hk5⟩ | ⟨rfl, hJx5⟩)
          · gi_wp2
            refine bodyPost_ret (results_none rfl _ _ _) rfl ?_
            exact ⟨⟨_, rfl⟩, .inl ⟨_, .inr ⟨xs, _, m, rfl, HC.out, hlt, HE.out, hE0⟩, hJ5⟩⟩
          · gi_wp2
            refine bodyPost_ret (results_none rfl _ _ _) rfl ?_
            exact ⟨⟨_, rfl⟩, .inr ⟨_, ⟨xs, _, m, rfl, HC.out, hlt, HE.out⟩, hJx5⟩⟩
    · obtain rfl : m = zs.length := by omega
      gi_wp2
      go_end0
      exact ⟨⟨_, rfl⟩, .inl ⟨xs, .inl HC.out, hJ⟩⟩

theorem frames_seq (n Bb Bm : Nat) (v : Value) (zs : List Int) (most : Int) (W0 w : World) (hv : Sl .u8 W0 v zs) (hz : zs.length ≤ 1000000) (hW0 : Below W0.heap.size W0 w) (hb : w.heap[Bb]? = some (.cells #[v] 23 (0, 0))) (hm : w.heap[Bm]? = some (.cells #[.int .i64 most] 3 (0, 0))) :
    SeqY Try.prog n 28 #[.pointer (some ⟨Bb, 0, none⟩), .pointer (some ⟨Bm, 0, none⟩)] (fun x : It => #[x.fv, .int .i64 x.err]) (It.holds 5)
      (fun A B => Below W0.heap.size A B ∧ B.heap[Bb]? = A.heap[Bb]? ∧ B.heap[Bm]? = A.heap[Bm]?) (AllCame most zs) (SomeCame most zs) zs.length w := fun l J Jx W hW hJ _ hY h0 =>
  iter_any n l Bb Bm _ v zs most J Jx hJ hY W0 W rfl hv hz (hW0.trans (hW.mono hW0.size)) ((hW.block Bb (Array.getElem?_eq_some_iff.1 hb).1).trans hb) ((hW.block Bm (Array.getElem?_eq_some_iff.1 hm).1).trans hm) h0

end Go.Proofs.Ytpnpbdekeockcaa
