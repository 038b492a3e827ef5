
/-
  frame.number, frame.Next.
-/
import Derived.Test.YtappehjcbjplaaaFrameWalks
import Derived.Test.YtappehjcbjplaaaOwn
import Derived.Test.YtappehjcbjplaaaRegion
namespace Go.Proofs.Ytappehjcbjplaaa
open Go.RowKit

theorem Try.sliceB : Try.prog.underlying 30 = some (.slice (Try.prog.elem 30)) := by kernel_rfl
theorem Try.sizeB (w : World) : (sizeOf (Try.prog.elem 30)).run Try.prog w = .ok 1 w := by kernel_rfl

/-- a frame whose payload's slice, if it lies anywhere, lies in a block from a number on -/
def PayN (lo : Nat) (v : Value) : Prop := ∀ k f s pv, v = .agg #[k, f, s, pv] → ∀ g, pv.ownBlock = some g → lo ≤ g
theorem PayN.bare (lo : Nat) (k f s : Value) (n c : Nat) : PayN lo (.agg #[k, f, s, .slice none n c]) := fun k' f' s' pv e g hg => by simp at e; rw [← e.2.2.2] at hg; cases hg

theorem fnumber_any (v : Value) (zs : List Int) (at_ s : Int) (w : World) (hv : Sl .u8 w v zs) (h0 : 0 ≤ at_) (h1 : 1 ≤ s) (h4 : s ≤ 4) (hl : at_ + s ≤ zs.length) :
    Calls Try.prog 30 #[v, .int .i64 at_, .int .i64 s] w fun e w' => e = .returned (.int .i64 (num ((zs.drop at_.toNat).take s.toNat))) ∧ w = w' := by
  have hm := hv.len
  unfold maxLen at hm
  obtain ⟨a, cap, rfl, _⟩ := id hv
  obtain ⟨vr, hrr, hvr⟩ := hv.range Try.sliceB Try.sizeB at_ (at_ + s) h0 (by omega) hl
  rw [List.drop_take, show (at_ + s).toNat - at_.toNat = s.toNat by omega] at hvr
  have ht : ((zs.drop at_.toNat).take s.toNat).length = s.toNat := by simp; omega
  obtain ⟨xs, hxs⟩ : ∃ xs, xs = (zs.drop at_.toNat).take s.toNat := ⟨_, rfl⟩
  rw [← hxs] at hvr ht ⊢
  clear hxs
  go_enter Try.func30, Try.ntmps30
  go_wp2_with (go_at_call 31; refine (get_yes _ xs _ hvr (by omega) (by omega)).mono ?_; rintro e w' ⟨rfl, rfl⟩)
  go_ret
  exact ⟨rfl, rfl⟩

theorem next_short (v : Value) (zs : List Int) (most : Int) (w : World) (hv : Sl .u8 w v zs) (hl : zs.length < 9) :
    Calls Try.prog 24 #[v, .int .i64 most] w fun e w' => ∃ fv, e = .returned (.tuple #[fv, .int .i64 0, .int .i64 2]) ∧ FrT w' 5 fv Fr.zero ∧ PayN w.heap.size fv ∧ Below w.heap.size w w' := by
  obtain ⟨a, cap, rfl, _⟩ := id hv
  go_enter Try.func24, Try.ntmps24
  go_wp2
  refine bodyPost_ret (results_row_tmp2 rfl _ _ w.heap.size 36 _ (0, 0) _ rfl (heap_alloc_new w _) Try.underlying36 rfl (by kernel_rfl)) rfl ?_
  exact ⟨_, rfl, FrT.zero _ _, PayN.bare _ _ _ _ _ _, (Below.refl _ _).alloc (Nat.le_refl _) _⟩

theorem next_full (v : Value) (zs : List Int) (most : Int) (w : World) (hv : Sl .u8 w v zs) (hl : 9 ≤ zs.length) (hm : most < num (zs.take 3)) :
    Calls Try.prog 24 #[v, .int .i64 most] w fun e w' => ∃ fv, e = .returned (.tuple #[fv, .int .i64 0, .int .i64 4]) ∧ FrT w' 5 fv Fr.zero ∧ PayN w.heap.size fv ∧ Below w.heap.size w w' := by
  obtain ⟨a, cap, rfl, _⟩ := id hv
  have d1 : decide ((zs.length : Int) < 9) = false := decide_eq_false (by omega)
  obtain ⟨n, hn⟩ : ∃ n, n = num (zs.take 3) := ⟨_, rfl⟩
  rw [← hn] at hm
  have HN := Lib.hid (show num ((zs.drop (0 : Int).toNat).take (3 : Int).toNat) = n by rw [hn]; rfl)
  have d2 : decide (most < n) = true := decide_eq_true hm
  clear hn
  go_enter Try.func24, Try.ntmps24
  go_wp2_with fail
  refine (fnumber_any _ zs 0 3 _ (hv.alloc _) (by decide) (by decide) (by decide) (by omega)).mono ?_
  rintro e w' ⟨rfl, rfl⟩
  rw [HN.out]
  go_wp2
  refine bodyPost_ret (results_row_tmp2 rfl _ _ w.heap.size 36 _ (0, 0) _ rfl (heap_alloc_new w _) Try.underlying36 rfl (by kernel_rfl)) rfl ?_
  exact ⟨_, rfl, FrT.zero _ _, PayN.bare _ _ _ _ _ _, (Below.refl _ _).alloc (Nat.le_refl _) _⟩

theorem next_more (v : Value) (zs : List Int) (most : Int) (w : World) (hv : Sl .u8 w v zs) (hl : 9 ≤ zs.length) (hm : num (zs.take 3) ≤ most) (hk : (zs.length : Int) < 9 + num (zs.take 3)) :
    Calls Try.prog 24 #[v, .int .i64 most] w fun e w' => ∃ fv, e = .returned (.tuple #[fv, .int .i64 0, .int .i64 2]) ∧ FrT w' 5 fv Fr.zero ∧ PayN w.heap.size fv ∧ Below w.heap.size w w' := by
  obtain ⟨a, cap, rfl, _⟩ := id hv
  have hb := num_head hv.fit hl
  have d1 : decide ((zs.length : Int) < 9) = false := decide_eq_false (by omega)
  obtain ⟨n, hn⟩ : ∃ n, n = num (zs.take 3) := ⟨_, rfl⟩
  rw [← hn] at hm hk hb
  have HN := Lib.hid (show num ((zs.drop (0 : Int).toNat).take (3 : Int).toNat) = n by rw [hn]; rfl)
  have d2 : decide (most < n) = false := decide_eq_false (by omega)
  have d3 : decide ((zs.length : Int) < 9 + n) = true := decide_eq_true hk
  clear hn
  go_enter Try.func24, Try.ntmps24
  go_wp2_with fail
  refine (fnumber_any _ zs 0 3 _ (hv.alloc _) (by decide) (by decide) (by decide) (by omega)).mono ?_
  rintro e w' ⟨rfl, rfl⟩
  rw [HN.out]
  go_wp2
  refine bodyPost_ret (results_row_tmp2 rfl _ _ w.heap.size 36 _ (0, 0) _ rfl (heap_alloc_new w _) Try.underlying36 rfl (by kernel_rfl)) rfl ?_
  exact ⟨_, rfl, FrT.zero _ _, PayN.bare _ _ _ _ _ _, (Below.refl _ _).alloc (Nat.le_refl _) _⟩

theorem num_one {zs : List Int} (i : Nat) (h : i < zs.length) : num ((zs.drop i).take 1) = at0 zs i := by
  rw [List.drop_eq_getElem_cons h, List.take_succ_cons, List.take_zero]
  simp [num, at0, h]
theorem and31 {x : Int} (h0 : 0 ≤ x) (h1 : x < 4294967296) : bits .and .i64 x 2147483647 = x % 2147483648 := by
  rw [i64_and x _ h0 (by omega) (by decide) (by decide)]
  obtain ⟨X, rfl⟩ := Int.eq_ofNat_of_zero_le h0
  show ((X &&& 2147483647 : Nat) : Int) = _
  have := Nat.and_two_pow_sub_one_eq_mod X 31
  rw [show (2 ^ 31 - 1 : Nat) = 2147483647 from rfl] at this
  rw [this]
  rfl
set_option maxHeartbeats 1000000 in
theorem next_ok (v : Value) (zs : List Int) (most : Int) (w : World) (hv : Sl .u8 w v zs) (hl : 9 ≤ zs.length) (hm : num (zs.take 3) ≤ most) (hk : 9 + num (zs.take 3) ≤ (zs.length : Int)) :
    Calls Try.prog 24 #[v, .int .i64 most] w fun e w' => ∃ fv, e = .returned (.tuple #[fv, .int .i64 (9 + num (zs.take 3)), .int .i64 0]) ∧
      FrT w' 5 fv ⟨at0 zs 3, at0 zs 4, num ((zs.drop 5).take 4) % 2147483648, (zs.drop 9).take (num (zs.take 3)).toNat⟩ ∧ PayN w.heap.size fv ∧ Below w.heap.size w w' := by
  obtain ⟨a, cap, rfl, _⟩ := id hv
  have hb := num_head hv.fit hl
  have hlm := hv.len
  unfold maxLen at hlm
  have d1 : decide ((zs.length : Int) < 9) = false := decide_eq_false (by omega)
  obtain ⟨N, hN⟩ : ∃ N : Nat, num (zs.take 3) = (N : Int) := ⟨(num (zs.take 3)).toNat, by omega⟩
  rw [hN] at hm hk hb ⊢
  rw [Int.toNat_natCast]
  have HN := Lib.hid (show num ((zs.drop (0 : Int).toNat).take (3 : Int).toNat) = N by rw [← hN]; rfl)
  have d2 : decide (most < (N : Int)) = false := decide_eq_false (by omega)
  have d3 : decide ((zs.length : Int) < 9 + (N : Int)) = false := decide_eq_false (by omega)
  clear hN
  go_enter Try.func24, Try.ntmps24
  go_wp2_with fail
  refine (fnumber_any _ zs 0 3 _ (hv.alloc _) (by decide) (by decide) (by decide) (by omega)).mono ?_
  rintro e w' ⟨rfl, rfl⟩
  rw [HN.out]
  go_wp2
  have hB0 := (Below.refl _ w).alloc (Nat.le_refl _) (.cells #[.int .i64 0, .int .i64 0, .int .i64 0, .slice none 0 0] 36)
  have hG0 := heap_alloc_new w (.cells #[.int .i64 0, .int .i64 0, .int .i64 0, .slice none 0 0] 36)
  have hv1 := hv.alloc (.cells #[.int .i64 0, .int .i64 0, .int .i64 0, .slice none 0 0] 36)
  have hs1 : w.heap.size < (w.alloc (.cells #[.int .i64 0, .int .i64 0, .int .i64 0, .slice none 0 0] 36)).heap.size := by simp
  obtain ⟨W1, hW1⟩ : ∃ W1, w.alloc (.cells #[.int .i64 0, .int .i64 0, .int .i64 0, .slice none 0 0] 36) = W1 := ⟨_, rfl⟩
  rw [hW1] at hB0 hG0 hv1 hs1 ⊢
  clear hW1
  obtain ⟨mk, hmk, hown, hgr⟩ := make_named (P := Try.prog) 30 5 (.int .u8 0) 1 1 Try.underlying30 Try.info5 N N rfl (by omega) (by unfold maxLen; omega)
  refine wp_region_table 11 [27, 28, 29, 30, 31, 32, 33, 34, 35, 36, 9] [[], [(0, 27)], [], [(2, 29)], [], [(4, 31)], [(5, 32)], [], [(7, 34)], [(1, 28), (3, 30), (6, 33), (8, 35)], []]
    (fun i v w' => match i with
      | 0 => v = .slice a zs.length cap
      | 1 => v = .int .i64 (num ((zs.drop 3).take 1))
      | 2 => v = .slice a zs.length cap
      | 3 => v = .int .i64 (num ((zs.drop 4).take 1))
      | 4 => v = .slice a zs.length cap
      | 5 => v = .int .i64 (num ((zs.drop 5).take 4))
      | 6 => v = .int .i64 (bits .and .i64 (num ((zs.drop 5).take 4)) 2147483647)
      | 7 => v = .int .i64 N
      | 8 => ∃ p, v = .slice (some ⟨p, 0, none⟩) N N ∧ w'.ownsRow W1.heap.size 5 1 v N ((List.replicate N 0).map (Value.int .u8))
      | 9 => ∃ p, v = .agg #[.int .i64 (num ((zs.drop 3).take 1)), .int .i64 (num ((zs.drop 4).take 1)), .int .i64 (bits .and .i64 (num ((zs.drop 5).take 4)) 2147483647), .slice (some ⟨p, 0, none⟩) N N] ∧
          w'.ownsRow W1.heap.size 5 1 (.slice (some ⟨p, 0, none⟩) N N) N ((List.replicate N 0).map (Value.int .u8))
      | 10 => ∃ B, v = .pointer (some ⟨B, 0, none⟩) ∧ W1.heap.size ≤ B ∧ w'.heap[B]? = some (.cells #[.int .i64 0, .int .i64 0, .int .i64 0, .slice none 0 0] 36 (0, 0))
      | _ => True) (by kernel_rfl) (by kernel_rfl) ?tStab ?tOps ?tRest
  case tStab =>
    intro i v w2 w3 h hb
    match i, h with
    | 0, h | 1, h | 2, h | 3, h | 4, h | 5, h | 6, h | 7, h => exact h
    | 8, ⟨p, e, ho⟩ => exact ⟨p, e, owned_below ho hb⟩
    | 9, ⟨p, e, ho⟩ => exact ⟨p, e, owned_below ho hb⟩
    | 10, ⟨B, e, hle, hB⟩ => exact ⟨B, e, hle, (hb.block B (Array.getElem?_eq_some_iff.1 hB).1).trans hB⟩
    | i + 11, _ => trivial
  case tOps =>
    simp only [List.take_succ_cons, List.take_zero, opsOk]
    refine ⟨?_, ?_, ?_, ?_, ?_, ?_, ?_, ?_, ?_, ?_, ?_, trivial⟩
    · intro ρ w2 hc hf ho hB hj
      have h0 : ρ (.tmp 0) = .slice a zs.length cap := ho 0 (by decide)
      simp [gives, go_sem, h0, Below.refl]
    · intro ρ w2 hc hf ho hB hj
      have h0 : ρ (.tmp 27) = .slice a zs.length cap := hj (0, 27) (by simp)
      simp [gives, go_sem, h0, hc, hf]
      refine (fnumber_any _ zs 3 1 _ (hv1.below hB) (by decide) (by decide) (by decide) (by omega)).mono ?_
      rintro e w3 ⟨rfl, rfl⟩
      exact ⟨_, rfl, rfl, Below.refl _ _⟩
    · intro ρ w2 hc hf ho hB hj
      have h0 : ρ (.tmp 0) = .slice a zs.length cap := ho 0 (by decide)
      simp [gives, go_sem, h0, Below.refl]
    · intro ρ w2 hc hf ho hB hj
      have h0 : ρ (.tmp 29) = .slice a zs.length cap := hj (2, 29) (by simp)
      simp [gives, go_sem, h0, hc, hf]
      refine (fnumber_any _ zs 4 1 _ (hv1.below hB) (by decide) (by decide) (by decide) (by omega)).mono ?_
      rintro e w3 ⟨rfl, rfl⟩
      exact ⟨_, rfl, rfl, Below.refl _ _⟩
    · intro ρ w2 hc hf ho hB hj
      have h0 : ρ (.tmp 0) = .slice a zs.length cap := ho 0 (by decide)
      simp [gives, go_sem, h0, Below.refl]
    · intro ρ w2 hc hf ho hB hj
      have h0 : ρ (.tmp 31) = .slice a zs.length cap := hj (4, 31) (by simp)
      simp [gives, go_sem, h0, hc, hf]
      refine (fnumber_any _ zs 5 4 _ (hv1.below hB) (by decide) (by decide) (by decide) (by omega)).mono ?_
      rintro e w3 ⟨rfl, rfl⟩
      exact ⟨_, rfl, rfl, Below.refl _ _⟩
    · intro ρ w2 hc hf ho hB hj
      have h0 : ρ (.tmp 32) = _ := hj (5, 32) (by simp)
      simp [gives, go_sem, h0, hc, Below.refl]
    · intro ρ w2 hc hf ho hB hj
      have h0 : ρ (.tmp 7) = .int .i64 N := ho 7 (by decide)
      simp [gives, go_sem, h0, Below.refl]
    · intro ρ w2 hc hf ho hB hj
      have h0 : ρ (.tmp 34) = .int .i64 N := hj (7, 34) (by simp)
      simp [gives, go_sem, h0, hmk]
      exact ⟨by have := owned_mono (made_zeros (hown w2)) hB.size; simpa using this, (Below.refl _ _).grown (hgr w2) (Nat.le_refl _) (fun k hk => by cases hk)⟩
    · intro ρ w2 hc hf ho hB hj
      have h1 : ρ (.tmp 28) = _ := hj (1, 28) (by simp)
      have h2 : ρ (.tmp 30) = _ := hj (3, 30) (by simp)
      have h3 : ρ (.tmp 33) = _ := hj (6, 33) (by simp)
      obtain ⟨p, h4, ho4⟩ := hj (8, 35) (by simp)
      dsimp only at h4
      rw [h4] at ho4
      simp [gives, go_sem, h1, h2, h3, h4, Below.refl]
      simpa using ho4
    · intro ρ w2 hc hf ho hB hj
      simp [gives, go_sem]
      exact ⟨⟨hB.size, (Array.getElem?_eq_some_iff.1 (heap_alloc_new w2 _)).2⟩, (Below.refl _ _).alloc (Nat.le_refl _) _⟩
  case tRest =>
    intro x w2 hB hx
    obtain ⟨p, h9, ho9⟩ := hx 9 (by decide)
    obtain ⟨B, h10, hle, hB10⟩ := hx 10 (by decide)
    simp only [putAll, List.getD_cons_zero, List.getD_cons_succ, Act.put, List.setIfInBounds_toArray, List.set_cons_zero, List.set_cons_succ, List.drop_succ_cons, List.drop_zero]
    rw [h9, h10]
    have hBp : B ≠ p := by
      rintro rfl
      have := own_block ho9
      rw [hB10] at this
      simp at this
    have b0 := blk_cell (j := 0) hB10 rfl
    have b1 := blk_cell (j := 1) hB10 rfl
    have b2 := blk_cell (j := 2) hB10 rfl
    have b3 := blk_cell (j := 3) hB10 rfl
    have f0 := blk_free (j := 0) hB10
    have f1 := blk_free (j := 1) hB10
    have f2 := blk_free (j := 2) hB10
    have f3 := blk_free (j := 3) hB10
    have HB := Lib.hid hB10
    clear hB10
    go_wp2
    have hs3 := set4 HB.out (.int .i64 (num ((zs.drop 3).take 1))) (.int .i64 (num ((zs.drop 4).take 1))) (.int .i64 (bits .and .i64 (num ((zs.drop 5).take 4)) 2147483647)) (.slice (some ⟨p, 0, none⟩) N N)
    have hg3 := set4_grown w2 B (.int .i64 (num ((zs.drop 3).take 1))) (.int .i64 (num ((zs.drop 4).take 1))) (.int .i64 (bits .and .i64 (num ((zs.drop 5).take 4)) 2147483647)) (.slice (some ⟨p, 0, none⟩) N N)
    obtain ⟨W3, hW3⟩ : ∃ W3, ((((w2.setCell ⟨B, 0, none⟩ (.int .i64 (num ((zs.drop 3).take 1)))).setCell ⟨B, 1, none⟩ (.int .i64 (num ((zs.drop 4).take 1)))).setCell ⟨B, 2, none⟩ (.int .i64 (bits .and .i64 (num ((zs.drop 5).take 4)) 2147483647))).setCell ⟨B, 3, none⟩ (.slice (some ⟨p, 0, none⟩) N N)) = W3 := ⟨_, rfl⟩
    rw [hW3] at hs3 hg3 ⊢
    clear hW3 b0 b1 b2 b3 f0 f1 f2 f3
    have hB3 : Below W1.heap.size W1 W3 := hB.grown hg3 hB.size (fun k hk => by cases hk; exact hle)
    have ho3 := owned_kept ho9 hg3 (fun g hg e => by simp only [Value.ownBlock, Option.some.injEq] at hg e; exact hBp (e.trans hg.symm))
    have hv3 := hv1.below hB3
    clear HB hg3 ho9 hx hB
    obtain ⟨vr, hrr, hvr⟩ := hv3.range Try.sliceB Try.sizeB 9 (9 + N) (by decide) (by omega) hk
    rw [List.drop_take, show (9 + (N : Int)).toNat - (9 : Int).toNat = N by omega, show (9 : Int).toNat = 9 from rfl] at hvr
    refine wp_region_table 5 [37, 38, 39, 40, 41] [[], [(0, 37)], [], [], [(2, 39), (3, 40)]]
      (fun i v w' => match i with
        | 0 => v = .pointer (some ⟨B, 3, none⟩)
        | 1 => v = (.slice (some ⟨p, 0, none⟩) N N)
        | 2 => v = .slice a zs.length cap
        | 3 => v = .int .i64 (9 + N)
        | 4 => v = vr
        | _ => True) (by kernel_rfl) (by kernel_rfl) ?uStab ?uOps ?uRest
    case uStab =>
      intro i v w4 w5 h hb
      match i, h with
      | 0, h | 1, h | 2, h | 3, h | 4, h => exact h
      | i + 5, _ => trivial
    case uOps =>
      simp only [List.take_succ_cons, List.take_zero, opsOk]
      refine ⟨?_, ?_, ?_, ?_, ?_, trivial⟩
      · intro ρ w4 hc hf ho hb hj
        have h0 : ρ (.tmp 9) = .pointer (some ⟨B, 0, none⟩) := ho 9 (by decide)
        simp [gives, go_sem, h0, Below.refl]
      · intro ρ w4 hc hf ho hb hj
        have h0 : ρ (.tmp 37) = .pointer (some ⟨B, 3, none⟩) := hj (0, 37) (by simp)
        have hcell := blk_cell (j := 3) ((hb.block B (Array.getElem?_eq_some_iff.1 hs3).1).trans hs3) rfl
        simp [gives, go_sem, h0, hcell, Below.refl]
      · intro ρ w4 hc hf ho hb hj
        have h0 : ρ (.tmp 0) = .slice a zs.length cap := ho 0 (by decide)
        simp [gives, go_sem, h0, Below.refl]
      · intro ρ w4 hc hf ho hb hj
        have h0 : ρ (.tmp 8) = .int .i64 (9 + N) := ho 8 (by decide)
        simp [gives, go_sem, h0, Below.refl]
      · intro ρ w4 hc hf ho hb hj
        have h0 : ρ (.tmp 39) = .slice a zs.length cap := hj (2, 39) (by simp)
        have h1 : ρ (.tmp 40) = .int .i64 (9 + N) := hj (3, 40) (by simp)
        simp [gives, go_sem, h0, h1, hc, hrr, Below.refl]
    case uRest =>
      intro x w4 hb hx
      have h1 : x 1 = (.slice (some ⟨p, 0, none⟩) N N) := hx 1 (by decide)
      have h4 : x 4 = vr := hx 4 (by decide)
      simp only [putAll, List.getD_cons_zero, List.getD_cons_succ, Act.put, List.setIfInBounds_toArray, List.set_cons_zero, List.set_cons_succ, List.drop_succ_cons, List.drop_zero]
      rw [h1, h4]
      have hs4 := (hb.block B (Array.getElem?_eq_some_iff.1 hs3).1).trans hs3
      have ho4 := owned_below ho3 hb
      have hvr4 := hvr.below hb
      have hB4 := hB3.trans (hb.mono hB3.size)
      clear hx h1 h4 hs3 ho3 hvr hb hB3
      have hlr : ((zs.drop 9).take N).length = N := by simp; omega
      have hpw : W1.heap.size ≤ p := (ho4.lt p rfl).1
      have HS4 := Lib.hid hs4
      clear hs4
      go_wp2_with (refine copy_ints rfl (.tmp 38) (.tmp 41) 30 rfl 5 .u8 Try.underlying30 (by kernel_rfl) W1.heap.size p N (List.replicate N 0) rfl ho4 vr ((zs.drop 9).take N) rfl hvr4 hlr ?_; intro w5 ho5 hg5 hb5; have hs5 := (hg5.block B (Array.getElem?_eq_some_iff.1 HS4.out).1 (fun e => hBp (Option.some.inj e))).trans HS4.out; have c0 := blk_cell (j := 0) hs5 rfl; have c1 := blk_cell (j := 1) hs5 rfl; have c2 := blk_cell (j := 2) hs5 rfl; have c3 := blk_cell (j := 3) hs5 rfl; have hG5 := ((hB4.trans hb5).block w.heap.size hs1).trans hG0; have g0 := blk_cell (j := 0) hG5 rfl; have g1 := blk_cell (j := 1) hG5 rfl; have g2 := blk_cell (j := 2) hG5 rfl; have g3 := blk_cell (j := 3) hG5 rfl; have f0 := blk_free (j := 0) hG5; have f1 := blk_free (j := 1) hG5; have f2 := blk_free (j := 2) hG5; have f3 := blk_free (j := 3) hG5; have HG := Lib.hid hG5; clear hs5 hG5)
      have hs6 := set4 HG.out (.int .i64 (num ((zs.drop 3).take 1))) (.int .i64 (num ((zs.drop 4).take 1))) (.int .i64 (bits .and .i64 (num ((zs.drop 5).take 4)) 2147483647)) (.slice (some ⟨p, 0, none⟩) N N)
      have hg6 := set4_grown w5 w.heap.size (.int .i64 (num ((zs.drop 3).take 1))) (.int .i64 (num ((zs.drop 4).take 1))) (.int .i64 (bits .and .i64 (num ((zs.drop 5).take 4)) 2147483647)) (.slice (some ⟨p, 0, none⟩) N N)
      refine bodyPost_ret (results_row_tmp2 rfl _ _ w.heap.size 36 _ (0, 0) _ rfl hs6 Try.underlying36 rfl (by kernel_rfl)) rfl ?_
      have hn4 := num_bound 4 ((zs.drop 5).take 4) (by simp; omega) ((hv.fit.drop 5).take 4)
      have e4 : (256 : Int) ^ 4 = 4294967296 := by decide
      rw [e4] at hn4
      have ho6 := owned_kept ho5 hg6 (fun g hg e => by simp only [Value.ownBlock, Option.some.injEq] at hg e; omega)
      refine ⟨_, rfl, ⟨(.slice (some ⟨p, 0, none⟩) N N), ?_, ?_, Ty.of_own ho6⟩, fun k' f' s' pv' e' g' hg' => (by simp at e'; rw [← e'.2.2.2] at hg'; cases hg'; exact Nat.le_trans hB0.size hpw), ?_⟩
      · rw [num_one 3 (by omega), num_one 4 (by omega), and31 hn4.1 hn4.2]
      · exact Sl.of_own ho6 ((hv.fit.drop 9).take N) (by rw [hlr]; unfold maxLen; omega)
      · exact (hB0.trans ((hB4.trans hb5).mono hB0.size)).grown hg6 (by have := hB0.size; have := (hB4.trans hb5).size; omega) (fun k hk => by cases hk; exact Nat.le_refl _)

theorem next_new (v : Value) (zs : List Int) (most : Int) (w : World) (hv : Sl .u8 w v zs) :
    Calls Try.prog 24 #[v, .int .i64 most] w fun e w' => ∃ fv, e = .returned (.tuple #[fv, .int .i64 (nextN zs most), .int .i64 (nextE zs most)]) ∧ FrT w' 5 fv (nextF zs most) ∧ PayN w.heap.size fv ∧ Below w.heap.size w w' := by
  by_cases h1 : zs.length < 9
  · have e : nextE zs most = 2 := by rw [nextE, if_pos h1]
    rw [nextN, nextF, e, if_neg (by decide), if_neg (by decide)]
    exact next_short v zs most w hv h1
  · by_cases h2 : most < num (zs.take 3)
    · have e : nextE zs most = 4 := by rw [nextE, if_neg h1, if_pos h2]
      rw [nextN, nextF, e, if_neg (by decide), if_neg (by decide)]
      exact next_full v zs most w hv (by omega) h2
    · by_cases h3 : (zs.length : Int) < 9 + num (zs.take 3)
      · have e : nextE zs most = 2 := by rw [nextE, if_neg h1, if_neg h2, if_pos h3]
        rw [nextN, nextF, e, if_neg (by decide), if_neg (by decide)]
        exact next_more v zs most w hv (by omega) (by omega) h3
      · have e : nextE zs most = 0 := by rw [nextE, if_neg h1, if_neg h2, if_neg h3]
        rw [nextN, nextF, e, if_pos rfl, if_pos rfl]
        exact next_ok v zs most w hv (by omega) (by omega) (by omega)
theorem next_any (v : Value) (zs : List Int) (most : Int) (w : World) (hv : Sl .u8 w v zs) :
    Calls Try.prog 24 #[v, .int .i64 most] w fun e w' => ∃ fv, e = .returned (.tuple #[fv, .int .i64 (nextN zs most), .int .i64 (nextE zs most)]) ∧ FrT w' 5 fv (nextF zs most) ∧ Below w.heap.size w w' :=
  (next_new v zs most w hv).mono fun _ _ ⟨fv, h1, h2, _, h4⟩ => ⟨fv, h1, h2, h4⟩
end Go.Proofs.Ytappehjcbjplaaa
