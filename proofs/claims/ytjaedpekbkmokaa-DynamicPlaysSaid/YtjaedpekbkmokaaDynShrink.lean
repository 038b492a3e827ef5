
/-
  (*dynamic.Table).shrink.
-/
import Derived.Test.YtjaedpekbkmokaaDynIter
import Derived.Test.YtjaedpekbkmokaaDynDel
import Derived.Test.YtjaedpekbkmokaaDynSmall
import Derived.Test.YtjaedpekbkmokaaMoved
import Derived.Test.YtjaedpekbkmokaaBits
import Derived.WalkMore
import Derived.Shelf.Abstract
import Derived.RangeFuncCalls
import Derived.Maps.AppendAt
namespace Go.Proofs.Ytjaedpekbkmokaa
open Go.RowKit Go.Shelf
attribute [local go_sem] Oper.semAt_some

/-- how far the going through has come -/
def ShrAt (w : World) (T base : Nat) (b m : Int) (v : Value) (fs : List Fd) (most : Int) (pre : List Fd) (W : World) : Prop :=
  Hid (pre.length ≤ fs.length ∧ shrinkF most fs = shrinkF most (fs.drop pre.length)) ∧
  W.heap[w.heap.size]? = some (.cells #[.pointer (some ⟨T, 0, none⟩)] 25 (0, 0)) ∧ W.heap[w.heap.size + 1]? = some (.cells #[.int .i64 most] 3 (0, 0)) ∧
  W.heap[w.heap.size + 1 + 1]? = some (.cells #[.int .i64 (pre.length : Nat)] 3 (0, 0)) ∧ TabAt W T b m v (sumF (fs.drop pre.length) : Nat) ∧ RowF W base v fs ∧ Mv T v w W ∧ w.heap.size + 4 ≤ W.heap.size
theorem ShrAt.grows (w : World) (T base : Nat) (b m : Int) (v : Value) (fs : List Fd) (most : Int) : Grows (ShrAt w T base b m v fs most) := by
  rintro s A W ⟨hp, h0, h1, h2, hT, hr, hm, hsz⟩ hg
  have at_ : ∀ {k : Nat} {o : Obj}, A.heap[k]? = some o → W.heap[k]? = some o := fun h => (hg.block _ (Array.getElem?_eq_some_iff.1 h).1).trans h
  exact ⟨hp, at_ h0, at_ h1, at_ h2, hT.below hg, hr.below hg, hm.trans (Mv.of hg) (fun g hg => .inl hg), Nat.le_trans hsz hg.size⟩
theorem ShrAt.turns (w : World) (T base B0 : Nat) (b m : Int) (v : Value) (fs : List Fd) (most : Int) (hB0 : w.heap.size + 4 ≤ B0) (hT0 : T < w.heap.size) (hv0 : ∀ g, v.ownBlock = some g → g < w.heap.size) : Turns B0 (ShrAt w T base b m v fs most) := by
  rintro s A l o o' ⟨hp, h0, h1, h2, hT, hr, hm, hsz⟩ hl hlo hoc
  have at_ : ∀ {k : Nat}, k < B0 → (A.putObj l o').heap[k]? = A.heap[k]? := fun h => World.putObj_heap_other (by omega)
  refine ⟨hp, (at_ (by omega)).trans h0, (at_ (by omega)).trans h1, (at_ (by omega)).trans h2, hT.of_block (at_ (by omega)), hr.of_block (fun g hg => at_ (by have := hv0 g hg; omega)), ⟨hm.os, hm.tape, hm.output, by rw [World.putObj_size]; exact hm.size, fun k hk hkT hkv => (at_ (by omega)).trans (hm.block k hk hkT hkv)⟩, by rw [World.putObj_size]; exact hsz⟩

theorem grown_of {A B : World} {row : Option Nat} (h : Below A.heap.size A B) : A.grownBy B row := ⟨h.os, h.tape, h.output, h.size, fun k hk _ => h.block k hk⟩
theorem keeps_below {b : Nat} {A B : World} (h : Below A.heap.size A B) : KeepsFrom b A B := ⟨h.size, fun k _ _ ho _ => (h.block k (Array.getElem?_eq_some_iff.1 ho).1).trans ho⟩
/-- one more has gone -/
theorem ShrAt.step {w : World} {T base : Nat} {b m most : Int} {v : Value} {fs pre : List Fd} {x : Fd} {W W5 : World} {z k : Nat} (h : ShrAt w T base b m v fs most pre W) (hx : fs[pre.length]? = some x) (hb : Below W.heap.size W W5) (hz : z = sumF (fs.drop pre.length)) (hk : k = pre.length)
    (hgo : most < (z : Int)) (hT : T < w.heap.size) :
    ShrAt w T base b m v fs most (pre ++ [x]) ((W5.setCell ⟨T, 3, none⟩ (.int .i64 ((z : Int) - (szF x : Nat)))).setCell ⟨w.heap.size + 1 + 1, 0, none⟩ (.int .i64 ((k : Int) + 1))) := by
  obtain ⟨hp, h0, h1, h2, hTW, hrW, hmW, hszW⟩ := ShrAt.grows _ _ _ _ _ _ _ _ _ _ _ h hb
  have el : (pre ++ [x]).length = pre.length + 1 := by simp
  have hlt := (List.getElem?_eq_some_iff.1 hx).1
  have e1 := sumF_drop hx
  have e2 : ((z : Int) - (szF x : Nat)) = ((sumF (fs.drop (pre.length + 1)) : Nat) : Int) := by omega
  have hap := hTW.apart hrW
  have nT : ∀ j, j ≠ T → j ≠ w.heap.size + 1 + 1 → ((W5.setCell ⟨T, 3, none⟩ (.int .i64 ((z : Int) - (szF x : Nat)))).setCell ⟨w.heap.size + 1 + 1, 0, none⟩ (.int .i64 ((k : Int) + 1))).heap[j]? = W5.heap[j]? := fun j h1 h2 => (Below.heap_setCell _ _ _ _ h2).trans (Below.heap_setCell _ _ _ _ h1)
  refine ⟨Lib.hid ⟨by rw [el]; omega, ?_⟩, (nT _ (by omega) (by omega)).trans h0, (nT _ (by omega) (by omega)).trans h1, ?_, ?_, ?_, ?_, by simpa using hszW⟩
  · rw [el, hp.out.2]
    exact shrinkF_go hx (by omega)
  · have := heap_setCell_same (W5.setCell ⟨T, 3, none⟩ (.int .i64 ((z : Int) - (szF x : Nat)))) (w.heap.size + 1 + 1) 0 _ _ (.int .i64 ((k : Int) + 1)) ((Below.heap_setCell _ _ _ _ (by show w.heap.size + 1 + 1 ≠ T; omega)).trans h2)
    rw [el, ← hk]
    push_cast
    exact this
  · rw [el, ← e2]
    exact (hTW.s3 _).of_block (Below.heap_setCell _ _ _ _ (by show T ≠ w.heap.size + 1 + 1; omega))
  · exact hrW.of_block (fun g hg => nT g (fun e => hap (by rw [hg, e])) (fun e => by
      have hh := hrW.block g hg
      rw [e, h2] at hh
      obtain ⟨cs, fr, he⟩ := hh
      injection he with he
      injection he with _ he2 _
      exact absurd he2 (by decide)))
  · refine ⟨hmW.os, hmW.tape, hmW.output, by simpa using hmW.size, fun j hj hjT hjv => (nT j hjT (by omega)).trans (hmW.block j hj hjT hjv)⟩

set_option maxHeartbeats 2000000 in
set_option maxRecDepth 8000 in
theorem shrink_any (T base : Nat) (b m most : Int) (v : Value) (fs : List Fd) (w : World) (h : TabO w base T b m v fs) (hz : sumF fs ≤ 1000000000) :
    Calls Try.prog 21 #[.pointer (some ⟨T, 0, none⟩), .int .i64 most] w fun e w' => e = .returned (.tuple #[]) ∧ ∃ v', TabO w' base T b m v' (shrinkF most fs) ∧ From w v v' ∧ Mv T v w w' := by
  obtain ⟨hbT, hT, hr⟩ := h
  refine (callsIn_wide (n := 4)).1 ?_
  refine callsIn_of_wp_marks Try.func21 rfl trivial ?_ rfl
  simp only [Try.ntmps21, List.size_toArray, List.length_cons, List.length_nil, Nat.reduceAdd, Nat.reduceSub, Array.replicate_succ, Array.replicate_zero, List.push_toArray, List.append_toArray, List.nil_append, List.cons_append]
  refine wpIn_wide.2 ?_
  have hT0 := hT.lt
  have hv0 : ∀ g, v.ownBlock = some g → g < w.heap.size := fun g hg => (hr.lt g hg).2
  go_wp2_with (go_at_call 24; refine (oldestFirst_any T _).mono ?_; rintro e w' ⟨rfl, rfl⟩)
  refine (wpIn_wide (n := 4)).1 ?_
  gi_wp2
  have k0 : ((((w.alloc (.cells #[.pointer (some ⟨T, 0, none⟩)] 25)).alloc (.cells #[.int .i64 most] 3)).alloc (.cells #[.int .i64 0] 3)).alloc (.cells #[.pointer (some ⟨T, 0, none⟩)] 25)).heap[w.heap.size]? = some (.cells #[.pointer (some ⟨T, 0, none⟩)] 25 (0, 0)) :=
    (Below.heap_alloc _ _ _ (by simp <;> omega)).trans ((Below.heap_alloc _ _ _ (by simp <;> omega)).trans ((Below.heap_alloc _ _ _ (by simp)).trans (heap_alloc_new _ _)))
  have k1 : ((((w.alloc (.cells #[.pointer (some ⟨T, 0, none⟩)] 25)).alloc (.cells #[.int .i64 most] 3)).alloc (.cells #[.int .i64 0] 3)).alloc (.cells #[.pointer (some ⟨T, 0, none⟩)] 25)).heap[w.heap.size + 1]? = some (.cells #[.int .i64 most] 3 (0, 0)) :=
    (Below.heap_alloc _ _ _ (by simp <;> omega)).trans ((Below.heap_alloc _ _ _ (by simp)).trans (heap_alloc2_new _ _ _))
  have k2 : ((((w.alloc (.cells #[.pointer (some ⟨T, 0, none⟩)] 25)).alloc (.cells #[.int .i64 most] 3)).alloc (.cells #[.int .i64 0] 3)).alloc (.cells #[.pointer (some ⟨T, 0, none⟩)] 25)).heap[w.heap.size + 1 + 1]? = some (.cells #[.int .i64 0] 3 (0, 0)) :=
    (Below.heap_alloc _ _ _ (by simp)).trans (by have := heap_alloc_new ((w.alloc (.cells #[.pointer (some ⟨T, 0, none⟩)] 25)).alloc (.cells #[.int .i64 most] 3)) (.cells #[.int .i64 0] 3); simpa using this)
  have k3 : ((((w.alloc (.cells #[.pointer (some ⟨T, 0, none⟩)] 25)).alloc (.cells #[.int .i64 most] 3)).alloc (.cells #[.int .i64 0] 3)).alloc (.cells #[.pointer (some ⟨T, 0, none⟩)] 25)).heap[w.heap.size + 1 + 1 + 1]? = some (.cells #[.pointer (some ⟨T, 0, none⟩)] 25 (0, 0)) := by
    have := heap_alloc_new (((w.alloc (.cells #[.pointer (some ⟨T, 0, none⟩)] 25)).alloc (.cells #[.int .i64 most] 3)).alloc (.cells #[.int .i64 0] 3)) (.cells #[.pointer (some ⟨T, 0, none⟩)] 25)
    simpa using this
  have hB4 : Below w.heap.size w ((((w.alloc (.cells #[.pointer (some ⟨T, 0, none⟩)] 25)).alloc (.cells #[.int .i64 most] 3)).alloc (.cells #[.int .i64 0] 3)).alloc (.cells #[.pointer (some ⟨T, 0, none⟩)] 25)) := ((((Below.refl _ w).alloc (Nat.le_refl _) _).alloc (by simp) _).alloc (by simp <;> omega) _).alloc (by simp <;> omega) _
  have hs4 : ((((w.alloc (.cells #[.pointer (some ⟨T, 0, none⟩)] 25)).alloc (.cells #[.int .i64 most] 3)).alloc (.cells #[.int .i64 0] 3)).alloc (.cells #[.pointer (some ⟨T, 0, none⟩)] 25)).heap.size = w.heap.size + 4 := by simp
  obtain ⟨W4, hW4⟩ : ∃ W4, ((((w.alloc (.cells #[.pointer (some ⟨T, 0, none⟩)] 25)).alloc (.cells #[.int .i64 most] 3)).alloc (.cells #[.int .i64 0] 3)).alloc (.cells #[.pointer (some ⟨T, 0, none⟩)] 25)) = W4 := ⟨_, rfl⟩
  rw [hW4] at k0 k1 k2 k3 hB4 hs4 ⊢
  have HS := Lib.hid hs4
  clear hW4 hs4
  have hTab4 := hT.below hB4
  have hr4 := hr.below hB4
  refine range_seqP (gf := 30) (lb := #[.pointer (some ⟨w.heap.size + 1 + 1 + 1, 0, none⟩)]) rfl (enters_of Try.func30 (by kernel_rfl) rfl)
    (fields_seq _ _ T base b m _ v fs W4 k3 hTab4 hr4) (fun _ => rfl)
    (fun h k => h.trans k)
    (fun W l o o' hl hlo _ => ⟨by rw [World.putObj_size]; exact Nat.le_refl _, fun g hg => World.putObj_heap_other (by have := hv0 g hg; have := HS.out; omega)⟩)
    (ShrAt w T base b m v fs most)
    (fun c pre W => c = .exit 0 ∧ ∃ ini x, pre = ini ++ [x] ∧ (sumF (fs.drop ini.length) : Int) ≤ most ∧ ShrAt w T base b m v fs most ini W)
    (fun pre x a' W => fs[pre.length]? = some x ∧ ∃ Bx, W4.heap.size ≤ Bx ∧ W.heap[Bx]? = some (.cells #[.string x.1, .string x.2] 32 (0, 0)) ∧ a' = { tmps := #[.pointer (some ⟨T, 0, none⟩), .int .i64 most, .pointer (some ⟨w.heap.size, 0, none⟩), .pointer (some ⟨w.heap.size + 1, 0, none⟩), .pointer (some ⟨w.heap.size + 1 + 1, 0, none⟩), .pointer (some ⟨Bx, 0, none⟩), .pointer (some ⟨T, 0, none⟩), .func (.func 30) #[] #[.pointer (some ⟨w.heap.size + 1 + 1 + 1, 0, none⟩)], .agg #[.string x.1, .string x.2], undef, undef, undef, undef, undef, undef, undef, undef, undef, undef, undef, undef, undef, undef, undef, undef, undef, undef, undef, undef, undef, undef, undef, undef, undef, undef], defers := [] })
    (ShrAt.grows _ _ _ _ _ _ _ _) (ShrAt.turns _ _ _ _ _ _ _ _ _ (by have := HS.out; omega) hT0 hv0)
    (by rintro c s A W ⟨hc, ini, x, e1, e2, h⟩ hg; exact ⟨hc, ini, x, e1, e2, ShrAt.grows _ _ _ _ _ _ _ _ _ _ _ h hg⟩)
    (by rintro c s A l o o' ⟨hc, ini, x, e1, e2, h⟩ hl hlo ho; exact ⟨hc, ini, x, e1, e2, ShrAt.turns _ _ _ _ _ _ _ _ _ (by have := HS.out; omega) hT0 hv0 _ _ _ _ _ h hl hlo ho⟩)
    ?tTurn ⟨Lib.hid ⟨Nat.zero_le _, rfl⟩, k0, k1, k2, hTab4, hr4, Mv.of hB4, by have := HS.out; omega⟩ ?tAssign ?tBody ?tDone ?tStop
  case tTurn =>
    rintro pre x a' _ A l o o' ⟨h0, Bx, h1, h2, h3⟩ hl hlo ho
    refine ⟨h0, Bx, h1, (World.putObj_heap_other ?_).trans h2, h3⟩
    rintro rfl
    rw [h2] at hlo
    cases hlo
    cases ho
  case tAssign =>
    rintro l pre x W K hI hY hK
    have hsz := hI.2.2.2.2.2.2.2
    dsimp only [encFd]
    gi_wp2
    refine hK _ _ ((KeepsOthers.alloc _ _).from _) ⟨by simp, fun g hg => Below.heap_alloc _ _ _ (by have := hv0 g hg; omega)⟩ (ShrAt.grows _ _ _ _ _ _ _ _ _ _ _ hI ((Below.refl _ _).alloc (Nat.le_refl _) _)) ⟨hY, W.heap.size, by have := HS.out; omega, heap_alloc_new W _, rfl⟩
  case tBody =>
    rintro l pre x a' W hI ⟨hx, Bx, hBx, hxx, rfl⟩ hlen
    obtain ⟨hp, h0, h1, h2, hTW, hrW, hmW, hszW⟩ := id hI
    have hnf : ∀ {B : World}, Below W.heap.size W B → ShrAt w T base b m v fs most pre B := fun hb => ShrAt.grows _ _ _ _ _ _ _ _ _ _ _ hI hb
    obtain ⟨z, hzz⟩ : ∃ z : Nat, z = sumF (fs.drop pre.length) := ⟨_, rfl⟩
    obtain ⟨k, hkk⟩ : ∃ k : Nat, k = pre.length := ⟨_, rfl⟩
    have hz1 : z ≤ 1000000000 := by
      have := sumF_take_drop fs pre.length
      omega
    have hsx : z = szF x + sumF (fs.drop (pre.length + 1)) := by rw [hzz]; exact sumF_drop hx
    have hkl : k ≤ 1000000000 := by
      have := sumF_len fs
      omega
    have hlt0 := (Array.getElem?_eq_some_iff.1 h0).1
    have hlt1 := (Array.getElem?_eq_some_iff.1 h1).1
    rw [← hkk] at h2
    rw [← hzz] at hTW
    have HK := Lib.hid hkk
    have HZ := Lib.hid hzz
    have HX := Lib.hid hx
    have HSX := Lib.hid hsx
    have hltT := hTW.lt
    have hltB := (Array.getElem?_eq_some_iff.1 hxx).1
    clear hkk hzz hx hsx
    gi_wp2
    refine Moved.wpIn_round 6 [9, 10, 11, 12, 13, 14] [[], [(0, 9)], [(1, 10)], [(2, 11)], [], [(3, 12), (4, 13)]] []
      (fun i v _ => match i with
        | 0 => v = .pointer (some ⟨T, 0, none⟩)
        | 1 => v = .pointer (some ⟨T, 0, none⟩)
        | 2 => v = .pointer (some ⟨T, 3, none⟩)
        | 3 => v = .int .i64 z
        | 4 => v = .int .i64 most
        | 5 => v = .bool (decide ((z : Int) ≤ most))
        | _ => True) (by kernel_rfl) (by kernel_rfl) (by kernel_rfl) ?tStab ?tOps ?tLate ?tRest
    case tStab =>
      intro i v w3 w4 h hb
      match i, h with
      | 0, h | 1, h | 2, h | 3, h | 4, h | 5, h => exact h
      | i + 6, _ => trivial
    case tLate => intro i hi; cases hi
    case tOps =>
      simp only [List.take_succ_cons, List.take_zero, opsOk]
      refine ⟨?_, ?_, ?_, ?_, ?_, ?_, trivial⟩
      · intro ρ w3 hc hf ho hB2 hj
        have x0 : ρ (.tmp 2) = .pointer (some ⟨w.heap.size, 0, none⟩) := ho 2 (by decide)
        have cc := blk_cell (j := 0) ((hB2.block _ hlt0).trans h0) rfl
        simp [gives, go_sem, x0, cc, Below.refl]
      · intro ρ w3 hc hf ho hB2 hj
        have x0 : ρ (.tmp 9) = .pointer (some ⟨T, 0, none⟩) := hj (0, 9) (by simp)
        have cc := (hTW.below hB2).c0
        simp [gives, go_sem, x0, Below.refl]
      · intro ρ w3 hc hf ho hB2 hj
        have x0 : ρ (.tmp 10) = .pointer (some ⟨T, 0, none⟩) := hj (1, 10) (by simp)
        simp [gives, go_sem, x0, Below.refl]
      · intro ρ w3 hc hf ho hB2 hj
        have x0 : ρ (.tmp 11) = .pointer (some ⟨T, 3, none⟩) := hj (2, 11) (by simp)
        have cc := (hTW.below hB2).c3
        simp [gives, go_sem, x0, cc, Below.refl]
      · intro ρ w3 hc hf ho hB2 hj
        have x0 : ρ (.tmp 3) = .pointer (some ⟨w.heap.size + 1, 0, none⟩) := ho 3 (by decide)
        have cc := blk_cell (j := 0) ((hB2.block _ hlt1).trans h1) rfl
        simp [gives, go_sem, x0, cc, Below.refl]
      · intro ρ w3 hc hf ho hB2 hj
        have x0 : ρ (.tmp 12) = .int .i64 z := hj (3, 12) (by simp)
        have x1 : ρ (.tmp 13) = .int .i64 most := hj (4, 13) (by simp)
        simp [gives, go_sem, x0, x1, Below.refl]
    case tRest =>
      intro x3 w3 hB3 hx3
      have y0 : x3 0 = .pointer (some ⟨T, 0, none⟩) := hx3 0 (by decide)
      have y1 : x3 1 = .pointer (some ⟨T, 0, none⟩) := hx3 1 (by decide)
      have y2 : x3 2 = .pointer (some ⟨T, 3, none⟩) := hx3 2 (by decide)
      have y3 : x3 3 = .int .i64 z := hx3 3 (by decide)
      have y4 : x3 4 = .int .i64 most := hx3 4 (by decide)
      have y5 : x3 5 = .bool (decide ((z : Int) ≤ most)) := hx3 5 (by decide)
      simp only [putAll, List.getD_cons_zero, List.getD_cons_succ, Act.put, List.setIfInBounds_toArray, List.set_cons_zero, List.set_cons_succ, List.drop_succ_cons, List.drop_zero]
      rw [y0, y1, y2, y3, y4, y5]
      clear hx3 y0 y1 y2 y3 y4 y5
      go_wp2
      refine Moved.Only.intro ?_
      by_cases hle : (z : Int) ≤ most
      · have HD := Lib.hid hle
        rw [decide_eq_true hle]
        clear hle
        gi_wp2
        exact ⟨keeps_below hB3, rfl, pre, x, rfl, by rw [← HZ.out]; exact HD.out, hnf hB3⟩
      · have HD := Lib.hid hle
        rw [decide_eq_false hle]
        clear hle
        gi_wp2
        refine Moved.wpIn_round 9 [15, 16, 17, 18, 19, 20, 21, 22, 23] [[], [(0, 15)], [(1, 16)], [(2, 17)], [], [(4, 19)], [(3, 18), (5, 20)], [(0, 15)], [(7, 22)]] []
          (fun i v _ => match i with
            | 0 => v = .pointer (some ⟨T, 0, none⟩)
            | 1 => v = .pointer (some ⟨T, 0, none⟩)
            | 2 => v = .pointer (some ⟨T, 3, none⟩)
            | 3 => v = .int .i64 z
            | 4 => v = .agg #[.string x.1, .string x.2]
            | 5 => v = .int .i64 (szF x : Nat)
            | 6 => v = .int .i64 ((z : Int) - (szF x : Nat))
            | 7 => v = .pointer (some ⟨T, 0, none⟩)
            | 8 => v = .pointer (some ⟨T, 3, none⟩)
            | _ => True) (by kernel_rfl) (by kernel_rfl) (by kernel_rfl) ?tStab ?tOps ?tLate ?tRest
        case tStab =>
          intro i v w3 w4 h hb
          match i, h with
          | 0, h | 1, h | 2, h | 3, h | 4, h | 5, h | 6, h | 7, h | 8, h => exact h
          | i + 9, _ => trivial
        case tLate => intro i hi; cases hi
        case tOps =>
          simp only [List.take_succ_cons, List.take_zero, opsOk]
          refine ⟨?_, ?_, ?_, ?_, ?_, ?_, ?_, ?_, ?_, trivial⟩
          · intro ρ w5 hc hf ho hB2 hj
            have x0 : ρ (.tmp 2) = .pointer (some ⟨w.heap.size, 0, none⟩) := ho 2 (by decide)
            have cc := blk_cell (j := 0) ((hB3.trans (hB2.mono hB3.size)).block _ hlt0 |>.trans h0) rfl
            simp [gives, go_sem, x0, cc, Below.refl]
          · intro ρ w5 hc hf ho hB2 hj
            have x0 : ρ (.tmp 15) = .pointer (some ⟨T, 0, none⟩) := hj (0, 15) (by simp)
            simp [gives, go_sem, x0, Below.refl]
          · intro ρ w5 hc hf ho hB2 hj
            have x0 : ρ (.tmp 16) = .pointer (some ⟨T, 0, none⟩) := hj (1, 16) (by simp)
            simp [gives, go_sem, x0, Below.refl]
          · intro ρ w5 hc hf ho hB2 hj
            have x0 : ρ (.tmp 17) = .pointer (some ⟨T, 3, none⟩) := hj (2, 17) (by simp)
            have cc := (hTW.below (hB3.trans (hB2.mono hB3.size))).c3
            simp [gives, go_sem, x0, cc, Below.refl]
          · intro ρ w5 hc hf ho hB2 hj
            have x0 : ρ (.tmp 5) = .pointer (some ⟨Bx, 0, none⟩) := ho 5 (by decide)
            have hx5 := ((hB3.trans (hB2.mono hB3.size)).block _ hltB).trans hxx
            have c0 := blk_cell (j := 0) hx5 rfl
            have c1 := blk_cell (j := 1) hx5 rfl
            simp [gives, go_sem, x0, c0, c1, Below.refl]
          · intro ρ w5 hc hf ho hB2 hj
            have x0 : ρ (.tmp 19) = .agg #[.string x.1, .string x.2] := hj (4, 19) (by simp)
            simp [gives, go_sem, x0, hf]
            have hsm : small x := by
              have := HSX.out
              unfold szF at this
              unfold small
              omega
            refine (size_any x hsm w5).mono ?_
            rintro e w6 ⟨rfl, hb⟩
            exact ⟨_, rfl, rfl, hb⟩
          · intro ρ w5 hc hf ho hB2 hj
            have x0 : ρ (.tmp 18) = .int .i64 z := hj (3, 18) (by simp)
            have x1 : ρ (.tmp 20) = .int .i64 (szF x : Nat) := hj (5, 20) (by simp)
            have hw : IntKind.i64.wrap ((z : Int) - (szF x : Nat)) = (z : Int) - (szF x : Nat) := wrap_i64_small (by have := HSX.out; omega) (by omega)
            simp [gives, go_sem, x0, x1, hw, Below.refl]
          · intro ρ w5 hc hf ho hB2 hj
            have x0 : ρ (.tmp 15) = .pointer (some ⟨T, 0, none⟩) := hj (0, 15) (by simp)
            simp [gives, go_sem, x0, Below.refl]
          · intro ρ w5 hc hf ho hB2 hj
            have x0 : ρ (.tmp 22) = .pointer (some ⟨T, 0, none⟩) := hj (7, 22) (by simp)
            simp [gives, go_sem, x0, Below.refl]
        case tRest =>
          intro x5 w5 hB5 hx5
          have y0 : x5 0 = .pointer (some ⟨T, 0, none⟩) := hx5 0 (by decide)
          have y1 : x5 1 = .pointer (some ⟨T, 0, none⟩) := hx5 1 (by decide)
          have y2 : x5 2 = .pointer (some ⟨T, 3, none⟩) := hx5 2 (by decide)
          have y3 : x5 3 = .int .i64 z := hx5 3 (by decide)
          have y4 : x5 4 = .agg #[.string x.1, .string x.2] := hx5 4 (by decide)
          have y5 : x5 5 = .int .i64 (szF x : Nat) := hx5 5 (by decide)
          have y6 : x5 6 = .int .i64 ((z : Int) - (szF x : Nat)) := hx5 6 (by decide)
          have y7 : x5 7 = .pointer (some ⟨T, 0, none⟩) := hx5 7 (by decide)
          have y8 : x5 8 = .pointer (some ⟨T, 3, none⟩) := hx5 8 (by decide)
          simp only [putAll, List.getD_cons_zero, List.getD_cons_succ, Act.put, List.setIfInBounds_toArray, List.set_cons_zero, List.set_cons_succ, List.drop_succ_cons, List.drop_zero]
          rw [y0, y1, y2, y3, y4, y5, y6, y7, y8]
          clear hx5 y0 y1 y2 y3 y4 y5 y6 y7 y8
          have hB35 := hB3.trans (hB5.mono hB3.size)
          have hT5 := hTW.below hB35
          have c3 := hT5.c3
          have f3 : w5.frozen? ⟨T, 3, none⟩ = false := hT5.free
          have h25 := (hB35.block _ (Array.getElem?_eq_some_iff.1 h2).1).trans h2
          have h25' := (Below.heap_setCell w5 ⟨T, 3, none⟩ (.int .i64 ((z : Int) - (szF x : Nat))) _ (by show w.heap.size + 1 + 1 ≠ T; omega)).trans h25
          have g0 := blk_cell (j := 0) h25' rfl
          have gf := blk_free (j := 0) h25'
          have hnx := hI.step HX.out hB35 HZ.out HK.out HD.out hT0
          have HNX := Lib.hid hnx
          have hsxT : T ≠ w.heap.size + 1 + 1 := by omega
          clear h25 h25' hnx hT5
          go_wp2
          refine Moved.Only.intro ?_
          gi_wp2
          refine ⟨(keeps_below hB35).trans (((KeepsOthers.setCell _ _ _).from _).trans ((KeepsOthers.setCell _ _ _).from _)), ⟨by simpa using hB35.size, fun g hg => ?_⟩, HNX.out⟩
          have hgw := hv0 g hg
          have hgT : g ≠ T := fun e => hTW.apart hrW (by rw [hg, e])
          exact ((Below.heap_setCell _ _ _ _ (by show g ≠ w.heap.size + 1 + 1; omega)).trans (Below.heap_setCell _ _ _ _ hgT)).trans (hB35.block g (by omega))
  case' tDone =>
    rintro D xs W hD hcame hat hDk
    obtain ⟨hp, h0, h1, h2, hTW, hrW, hmW, hszW⟩ := hat
    have hend : fs.drop xs.length = shrinkF most fs := by
      rw [hp.out.2, show xs = fs from hcame, List.drop_of_length_le (Nat.le_refl _)]; rfl
    generalize xs = pre at *
    gi_wp2
  case' tStop =>
    rintro D c pre' W hD hcame ⟨rfl, pre, x, _, hle, hat⟩ hDk
    obtain ⟨hp, h0, h1, h2, hTW, hrW, hmW, hszW⟩ := hat
    have hend : fs.drop pre.length = shrinkF most fs := by
      rw [hp.out.2, shrinkF_stay hle]
    clear hcame hle
    gi_wp2
  all_goals
    obtain ⟨k, hkk⟩ : ∃ k : Nat, k = pre.length := ⟨_, rfl⟩
    have hkl : k ≤ fs.length := by rw [hkk]; exact hp.out.1
    rw [← hkk] at h2 hTW hend
    obtain ⟨z, hzz⟩ : ∃ z : Nat, z = sumF (fs.drop k) := ⟨_, rfl⟩
    rw [← hzz] at hTW
    have HE := Lib.hid hend
    have HZ := Lib.hid hzz
    have hap := hTW.apart hrW
    have n0 : v.ownBlock ≠ some w.heap.size := fun e => by have := hv0 _ e; omega
    have n2 : v.ownBlock ≠ some (w.heap.size + 1 + 1) := fun e => by have := hv0 _ e; omega
    have l0 := (Array.getElem?_eq_some_iff.1 h0).1
    have l2 := (Array.getElem?_eq_some_iff.1 h2).1
    have lD := (Array.getElem?_eq_some_iff.1 hDk).1
    have nD : v.ownBlock ≠ some D := fun e => by have := hv0 _ e; have := HS.out; omega
    clear hkk hend hzz
    refine Moved.wp_region 9 [26, 27, 28, 29, 30, 31, 32, 33, 34] [[], [], [(1, 27)], [(2, 28)], [(3, 29)], [], [(4, 30), (5, 31)], [(0, 26)], [(7, 33)]] []
      (fun i u w1 => match i with
        | 0 => u = .pointer (some ⟨T, 0, none⟩)
        | 1 => u = .pointer (some ⟨T, 0, none⟩)
        | 2 => u = .pointer (some ⟨T, 0, none⟩)
        | 3 => u = .pointer (some ⟨T, 2, none⟩)
        | 4 => u = v
        | 5 => u = .int .i64 k
        | 6 => RowF w1 base u (fs.drop k) ∧ From w v u
        | 7 => u = .pointer (some ⟨T, 0, none⟩)
        | 8 => u = .pointer (some ⟨T, 2, none⟩)
        | _ => True) 6 (fun w1 => W.grownBy w1 v.ownBlock) (fun w1 w2 => w1.grownBy w2 v.ownBlock) (by kernel_rfl) (by kernel_rfl) ?tWay ?tOps ?tLate ?tRest
    case tWay =>
      refine ⟨fun w1 h => grown_of h, fun w1 w2 h hb => h.trans (grown_of hb), fun w1 w2 h hb => (grown_of h).trans hb, ?_, ?_⟩
      · intro i u w3 w4 h hb
        match i, h with
        | 0, h | 1, h | 2, h | 3, h | 4, h | 5, h | 7, h | 8, h => exact h
        | 6, h => exact ⟨h.1.below hb, h.2⟩
        | i + 9, _ => trivial
      · intro i u w3 w4 hi h hb _
        match i, h, hi with
        | 0, h, _ | 1, h, _ | 2, h, _ | 3, h, _ | 4, h, _ | 5, h, _ | 7, h, _ | 8, h, _ => exact h
        | 6, _, hi => exact absurd rfl hi
        | i + 9, _, _ => trivial
    case tLate => intro i hi; cases hi
    case tOps =>
      simp only [List.take_succ_cons, List.take_zero, Moved.opsOk, Nat.zero_add, Nat.reduceAdd, Nat.reduceEqDiff, reduceCtorEq, reduceIte]
      refine ⟨?_, ?_, ?_, ?_, ?_, ?_, ?_, ?_, ?_, trivial⟩
      · intro ρ w5 hc hf ho hB2 hj
        have x0 : ρ (.tmp 2) = .pointer (some ⟨w.heap.size, 0, none⟩) := ho 2 (by decide)
        have cc := blk_cell (j := 0) ((hB2.block _ l0 (fun e => n0 e.symm)).trans h0) rfl
        simp [gives, go_sem, x0, cc, Moved.Grow, Below.refl]
      · intro ρ w5 hc hf ho hB2 hj
        have x0 : ρ (.tmp 2) = .pointer (some ⟨w.heap.size, 0, none⟩) := ho 2 (by decide)
        have cc := blk_cell (j := 0) ((hB2.block _ l0 (fun e => n0 e.symm)).trans h0) rfl
        simp [gives, go_sem, x0, cc, Moved.Grow, Below.refl]
      · intro ρ w5 hc hf ho hB2 hj
        have x0 : ρ (.tmp 27) = .pointer (some ⟨T, 0, none⟩) := hj (1, 27) (by simp)
        simp [gives, go_sem, x0, Moved.Grow, Below.refl]
      · intro ρ w5 hc hf ho hB2 hj
        have x0 : ρ (.tmp 28) = .pointer (some ⟨T, 0, none⟩) := hj (2, 28) (by simp)
        simp [gives, go_sem, x0, Moved.Grow, Below.refl]
      · intro ρ w5 hc hf ho hB2 hj
        have x0 : ρ (.tmp 29) = .pointer (some ⟨T, 2, none⟩) := hj (3, 29) (by simp)
        have cc := (hTW.of_block (hB2.block _ hTW.lt (fun e => hap e.symm))).c2
        simp [gives, go_sem, x0, cc, Moved.Grow, Below.refl]
      · intro ρ w5 hc hf ho hB2 hj
        have x0 : ρ (.tmp 4) = .pointer (some ⟨w.heap.size + 1 + 1, 0, none⟩) := ho 4 (by decide)
        have cc := blk_cell (j := 0) ((hB2.block _ l2 (fun e => n2 e.symm)).trans h2) rfl
        simp [gives, go_sem, x0, cc, Moved.Grow, Below.refl]
      · intro ρ w5 hc hf ho hB2 hj
        have x0 : ρ (.tmp 30) = v := hj (4, 30) (by simp)
        have x1 : ρ (.tmp 31) = .int .i64 k := hj (5, 31) (by simp)
        simp [gives, go_sem, x0, x1, hc, hf]
        refine (delete_any base v fs k hkl w5 (hrW.below hB2)).mono ?_
        rintro e w6 ⟨v', rfl, hr', hfr, hg⟩
        refine ⟨_, rfl, ⟨hr', fun g hg => ?_⟩, hg⟩
        rcases hfr g hg with h | h
        · exact .inl h
        · exact .inr (by have := hB2.size; omega)
      · intro ρ w5 hc hf ho hB2 hj
        have x0 : ρ (.tmp 26) = .pointer (some ⟨T, 0, none⟩) := hj (0, 26) (by simp)
        simp [gives, go_sem, x0, Moved.Grow, Below.refl]
      · intro ρ w5 hc hf ho hB2 hj
        have x0 : ρ (.tmp 33) = .pointer (some ⟨T, 0, none⟩) := hj (7, 33) (by simp)
        simp [gives, go_sem, x0, Moved.Grow, Below.refl]
    case tRest =>
      intro x5 w5 hG hx5
      have y0 : x5 0 = .pointer (some ⟨T, 0, none⟩) := hx5 0 (by decide)
      have y1 : x5 1 = .pointer (some ⟨T, 0, none⟩) := hx5 1 (by decide)
      have y2 : x5 2 = .pointer (some ⟨T, 0, none⟩) := hx5 2 (by decide)
      have y3 : x5 3 = .pointer (some ⟨T, 2, none⟩) := hx5 3 (by decide)
      have y4 : x5 4 = v := hx5 4 (by decide)
      have y5 : x5 5 = .int .i64 k := hx5 5 (by decide)
      obtain ⟨hr5, hfr5⟩ := hx5 6 (by decide)
      have y7 : x5 7 = .pointer (some ⟨T, 0, none⟩) := hx5 7 (by decide)
      have y8 : x5 8 = .pointer (some ⟨T, 2, none⟩) := hx5 8 (by decide)
      obtain ⟨v', hv'⟩ : ∃ v', x5 6 = v' := ⟨_, rfl⟩
      simp only [putAll, List.getD_cons_zero, List.getD_cons_succ, Act.put, List.setIfInBounds_toArray, List.set_cons_zero, List.set_cons_succ, List.drop_succ_cons, List.drop_zero]
      rw [hv'] at hr5 hfr5
      rw [y0, y1, y2, y3, y4, y5, y7, y8, hv']
      clear hx5 y0 y1 y2 y3 y4 y5 y7 y8 hv'
      obtain ⟨N', hN'⟩ : ∃ N', N' = (fs.drop k).length := ⟨_, rfl⟩
      obtain ⟨a', c', e5⟩ := hr5.shape
      rw [← hN'] at e5
      subst e5
      clear hN'
      have hT5 := hTW.of_block (hG.block _ hTW.lt (fun e => hap e.symm))
      have c2 := hT5.c2
      have f2 : w5.frozen? ⟨T, 2, none⟩ = false := hT5.free
      have hD5 := (hG.block _ lD (fun e => nD e.symm)).trans hDk
      have hap5 := hT5.apart hr5
      have HR := Lib.hid (And.intro hT5 (And.intro hr5 (And.intro hfr5 (And.intro hG (And.intro hD5 hap5)))))
      clear hT5 hr5 hfr5 hG hD5 hap5 hDk h0 h1 h2 hTW
      go_wp2
      refine Calm.intro ?_
      obtain ⟨hT5, hr5, hfr5, hG, hD5, hap5⟩ := HR.out
      have hDT : D ≠ T := by have := HS.out; omega
      have hD6 := (Below.heap_setCell w5 ⟨T, 2, none⟩ (.slice a' N' c') D hDT).trans hD5
      refine ⟨by simp, .inl ⟨_, _, rfl, run_takeDeferred hD6, ?_⟩⟩
      refine ⟨_, results_none rfl _ _ _, rfl, .slice a' N' c', ?_, hfr5, ?_⟩
      · rw [← HE.out]
        refine ⟨hbT, ?_, ?_⟩
        · rw [← HZ.out]
          exact (hT5.s2 _).of_block (World.putObj_heap_other (fun e => hDT e.symm))
        · refine hr5.of_block fun g hg => ?_
          have hgD : g ≠ D := by
            rintro rfl
            obtain ⟨cs, fr, h⟩ := hr5.block g hg
            rw [hD5] at h
            cases h
          exact (World.putObj_heap_other hgD).trans (Below.heap_setCell _ _ _ _ (fun e => hap5 (by rw [hg]; exact congrArg some e)))
      · refine ⟨hG.os.trans hmW.os, hG.tape.trans hmW.tape, hG.output.trans hmW.output, by rw [World.putObj_size]; simpa using Nat.le_trans hmW.size hG.size, fun j hj hjT hjv => ?_⟩
        exact (World.putObj_heap_other (by have := HS.out; omega)).trans ((Below.heap_setCell _ _ _ _ hjT).trans ((hG.block j (by omega) (fun e => hjv e.symm)).trans (hmW.block j hj hjT hjv)))
end Go.Proofs.Ytjaedpekbkmokaa
