
/-
  Layer 7: Add.
-/
import Derived.Test.YtjaedpekbkmokaaDynOps
import Derived.Maps.AppendAt
namespace Go.Proofs.Ytjaedpekbkmokaa
open Go.RowKit

/-- 'append(s, x...)' as one operation of a region, with a word on where the row lies -/
theorem gives_app_at {P : Program} {o : Oper} {ρ : Operand → Value} {w : World} {R : Value → World → Prop} (s x : Operand) (t : TypeId) (ho : o.op = .call { callee := .builtin .append, args := #[s, x], argTypes := #[t, t] }) (base : Nat) (e : TypeId)
    (z : Value) (size bytes : Nat) (ht : P.underlying t = some (.slice e)) (hi : (P.info? e).map (fun i => (i.zero, i.size, i.bytes)) = some (some z, size, bytes)) (hzs : z.cells.size = size) (hsz : 0 < size) (v : Value) (n : Nat) (xs : List Value) (hs : ρ s = v)
    (hown : w.ownsRow base e size v n xs) (ad : Addr) (m c : Nat) (news : List Value) (hx : ρ x = .slice (some ad) m c) (hl : news.length = m * size)
    (hnews : ∀ (j : Nat) (u : Value), news[j]? = some u → w.cell? (ad.add j) = some u) (h1 : ∀ u, u ∈ news → u.oneCell' = true) (h63 : n + m ≤ maxLen) (hbytes : (n + m) * bytes ≤ 140737488355328) (hbase : base ≤ w.heap.size)
    (h : ∀ (v' : Value) (w' : World), w'.ownsRow base e size v' (n + m) (xs ++ news) → w.grownBy w' v.ownBlock → From w v v' → R v' w') : gives P o ρ w R := by
  obtain ⟨i0, hi0, hz0, hz1, hz2⟩ := info_parts hi
  obtain ⟨v', w', hr, h2, h3, _, h5⟩ := run_append_own_at (P := P) w base t o.type e i0 z size bytes ht hi0 hz0 hz1 hz2 hzs hsz v n xs hown ad m c news hl hnews h1 h63 hbytes hbase
  unfold gives execOp
  simp only [ho, resolve, invoke, builtin, Sem.run_bind, Sem.run_pure, Result.andThen_ok, List.map_toArray, List.map_cons, List.map_nil, hs, hx, hr]
  refine h v' w' h2 h3 (fun g hg => ?_)
  rcases h5 with h5 | h5
  · exact .inl (h5 ▸ hg)
  · rw [h5] at hg
    exact .inr (by cases hg; exact Nat.le_refl _)
set_option maxHeartbeats 2000000 in
theorem tadd_any (T base : Nat) (b m : Int) (v : Value) (fs : List Fd) (f : Fd) (w : World) (h : TabO w base T b m v fs) (hf : small f) (hm : 0 ≤ m ∧ m ≤ 1000000000) (hz : sumF fs ≤ 1000000000) (hbase : base ≤ w.heap.size) :
    Calls Try.prog 11 #[.pointer (some ⟨T, 0, none⟩), .agg #[.string f.1, .string f.2]] w fun e w' => e = .returned (.int .i64 0) ∧ ∃ v', TabO w' base T b m v' (addF m fs f) ∧ From w v v' ∧ Mv T v w w' := by
  have hs0 := hf.sz
  have hT0 := h.2.1.lt
  have hv0 := h.2.2.lt
  obtain ⟨S, hS⟩ : ∃ S : Nat, S = szF f := ⟨_, rfl⟩
  have hsa := size_any f hf
  rw [← hS] at hs0 hsa
  have HSZ := Lib.hid hS
  have HS := Lib.hid hsa
  clear hS hsa
  go_enter Try.func11, Try.ntmps11
  go_wp2_with fail
  refine (HS.out _).mono ?_
  rintro e w1 ⟨rfl, hb1⟩
  have hF1 : FldAt w1 w.heap.size f.1 f.2 := (FldAt.new w f.1 f.2).grown hb1
  have hB1 : Below w.heap.size w w1 := ((Below.refl _ _).alloc (Nat.le_refl _) _).trans (hb1.mono (by simp))
  have hN1 : w.heap.size < w1.heap.size := hF1.lt
  clear hb1
  have hT1 := h.below hB1
  have c1 := hT1.2.1.c1
  have hw1 : IntKind.i64.wrap (m - (S : Nat)) = m - (S : Nat) := IntWalk.i64_in _ (by omega)
  have HB1 := Lib.hid hB1
  have HF1 := Lib.hid hF1
  clear hB1 hF1
  go_wp2_with fail
  refine (shrink_any T base b m (m - (S : Nat)) v fs w1 hT1 hz).mono ?_
  rintro e w2 ⟨rfl, v1, hT2, hfr2, hm2⟩
  have hsum := shrinkF_sum (m - (S : Nat)) fs
  have hlen := sumF_len (shrinkF (m - (S : Nat)) fs)
  obtain ⟨fs1, hfs1⟩ : ∃ fs1, fs1 = shrinkF (m - (S : Nat)) fs := ⟨_, rfl⟩
  rw [← hfs1] at hT2 hsum hlen
  have HFS := Lib.hid hfs1
  have c1 := hT2.2.1.c1
  have hm02 : Mv T v w w2 := (Mv.of HB1.out).trans hm2 (fun g hg => .inl hg)
  have hfr02 : From w v v1 := fun g hg => (hfr2 g hg).imp_right (fun h => by have := HB1.out.size; omega)
  by_cases hbig : m < (S : Int)
  · have HB := Lib.hid hbig
    have d : decide (m < (S : Int)) = true := decide_eq_true hbig
    have HR := Lib.hid (And.intro hT2 (And.intro hfr02 hm02))
    clear hbig hT2 hfr02 hm02 hfr2 hm2 hfs1 hT1
    go_wp2_with fail
    go_ret
    obtain ⟨hT', hf', hm'⟩ := HR.out
    refine ⟨rfl, v1, ?_, hf', hm'⟩
    have e : fs1 = [] := by
      rw [HFS.out]; exact shrinkF_neg (by have := HB.out; omega) _
    rw [addF, ← HSZ.out, if_pos HB.out, ← e]
    exact hT'
  · have d : decide (m < (S : Int)) = false := decide_eq_false hbig
    have HA := Lib.hid (show addF m fs f = fs1 ++ [f] by rw [addF, ← HSZ.out, if_neg hbig, HFS.out])
    have hF2 : FldAt w2 w.heap.size f.1 f.2 := (hm2.block _ hN1 (by omega) (fun e => by have := (hv0 _ e).2; omega)).trans HF1.out
    have hv1 := hT2.2.2.lt
    have hm1000 : sumF fs1 ≤ 1000000000 := by omega
    have hNv1 : ∀ g, v1.ownBlock = some g → g < w2.heap.size := fun g hg => (hv1 g hg).2
    have hN2 := hF2.lt
    have hTlt2 := hT2.2.1.lt
    have HR := Lib.hid (And.intro hT2 (And.intro hfr02 hm02))
    clear hbig hfr02 hm02 hfr2 hm2 hfs1 hT1
    go_wp2_with fail
    refine wp_region_table 8 [25, 26, 27, 28, 29, 30, 31, 6] [[], [(0, 25)], [(1, 26)], [], [(3, 28)], [(4, 29)], [(2, 27), (5, 30)], []]
      (fun i u w' => match i with
        | 0 => u = .pointer (some ⟨w.heap.size, 0, none⟩)
        | 1 => u = .string f.1
        | 2 => u = .string f.1
        | 3 => u = .pointer (some ⟨w.heap.size, 1, none⟩)
        | 4 => u = .string f.2
        | 5 => u = .string f.2
        | 6 => u = .agg #[.string f.1, .string f.2]
        | 7 => ∃ B, u = .pointer (some ⟨B, 0, none⟩) ∧ w2.heap.size ≤ B ∧ FldAt w' B ⟨#[]⟩ ⟨#[]⟩
        | _ => True) (by kernel_rfl) (by kernel_rfl) ?tStab ?tOps ?tRest
    case tStab =>
      intro i u w3 w4 h hb
      match i, h with
      | 0, h | 1, h | 2, h | 3, h | 4, h | 5, h | 6, h => exact h
      | 7, ⟨B, e, hle, hh⟩ => exact ⟨B, e, hle, hh.grown hb⟩
      | i + 8, _ => trivial
    case tOps =>
      simp only [List.take_succ_cons, List.take_zero, opsOk]
      refine ⟨?_, ?_, ?_, ?_, ?_, ?_, ?_, ?_, trivial⟩
      · intro ρ w3 hc hff ho hB hj
        have x0 : ρ (.tmp 3) = .pointer (some ⟨w.heap.size, 0, none⟩) := ho 3 (by decide)
        simp [gives, go_sem, x0, Below.refl]
      · intro ρ w3 hc hff ho hB hj
        have x0 : ρ (.tmp 25) = .pointer (some ⟨w.heap.size, 0, none⟩) := hj (0, 25) (by simp)
        have cc := (hF2.grown hB).c0
        simp [gives, go_sem, x0, cc, Below.refl]
      · intro ρ w3 hc hff ho hB hj
        have x0 : ρ (.tmp 26) = .string f.1 := hj (1, 26) (by simp)
        simp [gives, go_sem, x0, hff]
        refine (strClone_any _ _ hf.1).mono ?_
        rintro e w4 ⟨rfl, hb⟩
        exact ⟨_, rfl, rfl, hb⟩
      · intro ρ w3 hc hff ho hB hj
        have x0 : ρ (.tmp 3) = .pointer (some ⟨w.heap.size, 0, none⟩) := ho 3 (by decide)
        simp [gives, go_sem, x0, Below.refl]
      · intro ρ w3 hc hff ho hB hj
        have x0 : ρ (.tmp 28) = .pointer (some ⟨w.heap.size, 1, none⟩) := hj (3, 28) (by simp)
        have cc := (hF2.grown hB).c1
        simp [gives, go_sem, x0, cc, Below.refl]
      · intro ρ w3 hc hff ho hB hj
        have x0 : ρ (.tmp 29) = .string f.2 := hj (4, 29) (by simp)
        simp [gives, go_sem, x0, hff]
        refine (strClone_any _ _ hf.2).mono ?_
        rintro e w4 ⟨rfl, hb⟩
        exact ⟨_, rfl, rfl, hb⟩
      · intro ρ w3 hc hff ho hB hj
        have x0 : ρ (.tmp 27) = .string f.1 := hj (2, 27) (by simp)
        have x1 : ρ (.tmp 30) = .string f.2 := hj (5, 30) (by simp)
        simp [gives, go_sem, x0, x1, Below.refl]
      · intro ρ w3 hc hff ho hB hj
        simp [gives, go_sem]
        exact ⟨⟨hB.size, FldAt.new w3 _ _⟩, (Below.refl _ _).alloc (Nat.le_refl _) _⟩
    case tRest =>
      intro x w3 hb3 hx
      have e0 : x 0 = .pointer (some ⟨w.heap.size, 0, none⟩) := hx 0 (by decide)
      have e1 : x 1 = .string f.1 := hx 1 (by decide)
      have e2 : x 2 = .string f.1 := hx 2 (by decide)
      have e3 : x 3 = .pointer (some ⟨w.heap.size, 1, none⟩) := hx 3 (by decide)
      have e4 : x 4 = .string f.2 := hx 4 (by decide)
      have e5 : x 5 = .string f.2 := hx 5 (by decide)
      have e6 : x 6 = .agg #[.string f.1, .string f.2] := hx 6 (by decide)
      obtain ⟨B, e7, hBle, hFB⟩ := hx 7 (by decide)
      simp only [putAll, List.getD_cons_zero, List.getD_cons_succ, Act.put, List.setIfInBounds_toArray, List.set_cons_zero, List.set_cons_succ, List.drop_succ_cons, List.drop_zero]
      rw [e0, e1, e2, e3, e4, e5, e6, e7]
      clear hx e0 e1 e2 e3 e4 e5 e6 e7
      have HFB := Lib.hid (And.intro hFB hb3)
      clear hFB hb3
      refine store_fld rfl (.tmp 6) (.tmp 31) rfl B f.1 f.2 _ _ rfl rfl HFB.out.1 ?_
      obtain ⟨w4, hw4⟩ : ∃ w4, w4 = w3.setRow B #[.string f.1, .string f.2] := ⟨_, rfl⟩
      rw [← hw4]
      have hF4 : FldAt w4 B f.1 f.2 := by rw [hw4]; exact setRow_heap _ _ _ _ _ _ HFB.out.1
      have hb4 : Below w2.heap.size w2 w4 := by rw [hw4]; exact below_setRow HFB.out.2 hBle _
      clear hw4
      have hT4 := hT2.below hb4
      have hap := hT4.sep
      have hr4 := hT4.2.2
      have hBn : v1.ownBlock ≠ some B := fun e => by have := hNv1 B e; omega
      have hBlt := hF4.lt
      have hTlt := hT4.2.1.lt
      have hN4 : ∀ g, v1.ownBlock = some g → g < w4.heap.size := fun g hg => by have := hNv1 g hg; have := hb4.size; omega
      have HB4 := Lib.hid hb4
      clear HFB hb4 hF2 HF1 HS
      go_wp2_with fail
      refine Moved.wp_region 10 [32, 33, 34, 35, 36, 37, 38, 39, 40, 41] [[], [], [(1, 33)], [(2, 34)], [(3, 35)], [], [(5, 37)], [(4, 36), (6, 38)], [(0, 32)], [(8, 40)]] []
        (fun i u w' => match i with
          | 0 => u = .pointer (some ⟨T, 0, none⟩)
          | 1 => u = .pointer (some ⟨T, 0, none⟩)
          | 2 => u = .pointer (some ⟨T, 0, none⟩)
          | 3 => u = .pointer (some ⟨T, 2, none⟩)
          | 4 => u = v1
          | 5 => u = .agg #[.string f.1, .string f.2]
          | 6 => ∃ C, u = .slice (some ⟨C, 0, none⟩) 1 1 ∧ w4.heap.size ≤ C ∧ FldAt w' C f.1 f.2
          | 7 => RowF w' base u (fs1 ++ [f]) ∧ From w4 v1 u
          | 8 => u = .pointer (some ⟨T, 0, none⟩)
          | 9 => u = .pointer (some ⟨T, 2, none⟩)
          | _ => True) 7 (fun w' => w4.grownBy w' v1.ownBlock) (fun w' w'' => w'.grownBy w'' v1.ownBlock) (by kernel_rfl) (by kernel_rfl) ?tWay ?tOps ?tLate ?tRest
      case tWay =>
        refine ⟨fun w1 h => grown_of h, fun w1 w2 h hb => h.trans (grown_of hb), fun w1 w2 h hb => (grown_of h).trans hb, ?_, ?_⟩
        · intro i u w5 w6 h hb
          match i, h with
          | 0, h | 1, h | 2, h | 3, h | 4, h | 5, h | 8, h | 9, h => exact h
          | 6, ⟨C, e, hle, hh⟩ => exact ⟨C, e, hle, hh.grown hb⟩
          | 7, h => exact ⟨h.1.below hb, h.2⟩
          | i + 10, _ => trivial
        · intro i u w5 w6 hi h hb hg
          match i, h, hi with
          | 0, h, _ | 1, h, _ | 2, h, _ | 3, h, _ | 4, h, _ | 5, h, _ | 8, h, _ | 9, h, _ => exact h
          | 6, ⟨C, e, hle, hh⟩, _ => exact ⟨C, e, hle, (hg.block C hh.lt (fun e => by have := hN4 C e.symm; omega)).trans hh⟩
          | 7, _, hi => exact absurd rfl hi
          | i + 10, _, _ => trivial
      case tLate => intro i hi; cases hi
      case tOps =>
        simp only [List.take_succ_cons, List.take_zero, Moved.opsOk, Nat.zero_add, Nat.reduceAdd, Nat.reduceEqDiff, reduceCtorEq, reduceIte]
        refine ⟨?_, ?_, ?_, ?_, ?_, ?_, ?_, ?_, ?_, ?_, trivial⟩
        · intro ρ w5 hc hff ho hB2 hj
          have x0 : ρ (.tmp 0) = .pointer (some ⟨T, 0, none⟩) := ho 0 (by decide)
          simp [gives, go_sem, x0, Moved.Grow, Below.refl]
        · intro ρ w5 hc hff ho hB2 hj
          have x0 : ρ (.tmp 0) = .pointer (some ⟨T, 0, none⟩) := ho 0 (by decide)
          simp [gives, go_sem, x0, Moved.Grow, Below.refl]
        · intro ρ w5 hc hff ho hB2 hj
          have x0 : ρ (.tmp 33) = .pointer (some ⟨T, 0, none⟩) := hj (1, 33) (by simp)
          simp [gives, go_sem, x0, Moved.Grow, Below.refl]
        · intro ρ w5 hc hff ho hB2 hj
          have x0 : ρ (.tmp 34) = .pointer (some ⟨T, 0, none⟩) := hj (2, 34) (by simp)
          simp [gives, go_sem, x0, Moved.Grow, Below.refl]
        · intro ρ w5 hc hff ho hB2 hj
          have x0 : ρ (.tmp 35) = .pointer (some ⟨T, 2, none⟩) := hj (3, 35) (by simp)
          have cc := (hT4.2.1.of_block (hB2.block _ hTlt (fun e => hap e.symm))).c2
          simp [gives, go_sem, x0, cc, Moved.Grow, Below.refl]
        · intro ρ w5 hc hff ho hB2 hj
          have x0 : ρ (.tmp 6) = .pointer (some ⟨B, 0, none⟩) := ho 6 (by decide)
          have hF5 : FldAt w5 B f.1 f.2 := (hB2.block _ hBlt (fun e => hBn e.symm)).trans hF4
          have cc := hF5.c0
          have cd := hF5.c1
          simp [gives, go_sem, x0, cc, cd, Moved.Grow, Below.refl]
        · intro ρ w5 hc hff ho hB2 hj
          have x0 : ρ (.tmp 37) = .agg #[.string f.1, .string f.2] := hj (5, 37) (by simp)
          simp [gives, go_sem, x0, Moved.Grow]
          exact ⟨⟨hB2.size, FldAt.new w5 _ _⟩, (Below.refl _ _).alloc (Nat.le_refl _) _⟩
        · intro ρ w5 hc hff ho hB2 hj
          have x0 : ρ (.tmp 36) = v1 := hj (4, 36) (by simp)
          obtain ⟨C, x1, hCle, hFC⟩ := hj (6, 38) (by simp)
          dsimp only at x1
          refine gives_app_at (.tmp 36) (.tmp 38) 46 rfl base 32 _ 2 32 sliceFld sizeFld rfl (by decide) v1 fs1.length (fcs fs1) x0 (hr4.below hB2) ⟨C, 0, none⟩ 1 1 (fcs [f]) x1 (fcs_length _) (fcs_one_at w5 C f hFC) (fcs_oneCell _) (by unfold maxLen; omega) (by omega) (by have := hB2.size; have := HB4.out.size; have := HR.out.2.2.size; omega) ?_
          intro v' w6 hown hg hfr
          refine ⟨⟨?_, fun g hg => (hfr g hg).imp_right (fun h => by have := hB2.size; omega)⟩, hg⟩
          unfold RowF
          rw [List.length_append, List.length_singleton, fcs_append]
          exact hown
        · intro ρ w5 hc hff ho hB2 hj
          have x0 : ρ (.tmp 32) = .pointer (some ⟨T, 0, none⟩) := hj (0, 32) (by simp)
          simp [gives, go_sem, x0, Moved.Grow, Below.refl]
        · intro ρ w5 hc hff ho hB2 hj
          have x0 : ρ (.tmp 40) = .pointer (some ⟨T, 0, none⟩) := hj (8, 40) (by simp)
          simp [gives, go_sem, x0, Moved.Grow, Below.refl]
      case tRest =>
        intro x5 w5 hG hx5
        have y0 : x5 0 = .pointer (some ⟨T, 0, none⟩) := hx5 0 (by decide)
        have y1 : x5 1 = .pointer (some ⟨T, 0, none⟩) := hx5 1 (by decide)
        have y2 : x5 2 = .pointer (some ⟨T, 0, none⟩) := hx5 2 (by decide)
        have y3 : x5 3 = .pointer (some ⟨T, 2, none⟩) := hx5 3 (by decide)
        have y4 : x5 4 = v1 := hx5 4 (by decide)
        have y5 : x5 5 = .agg #[.string f.1, .string f.2] := hx5 5 (by decide)
        obtain ⟨C, y6, _, _⟩ := hx5 6 (by decide)
        obtain ⟨hr5, hfr5⟩ := hx5 7 (by decide)
        have y8 : x5 8 = .pointer (some ⟨T, 0, none⟩) := hx5 8 (by decide)
        have y9 : x5 9 = .pointer (some ⟨T, 2, none⟩) := hx5 9 (by decide)
        obtain ⟨v', hv'⟩ : ∃ v', x5 7 = v' := ⟨_, rfl⟩
        simp only [putAll, List.getD_cons_zero, List.getD_cons_succ, Act.put, List.setIfInBounds_toArray, List.set_cons_zero, List.set_cons_succ, List.drop_succ_cons, List.drop_zero]
        rw [hv'] at hr5 hfr5
        rw [y0, y1, y2, y3, y4, y5, y6, y8, y9, hv']
        clear hx5 y0 y1 y2 y3 y4 y5 y6 y8 y9 hv'
        obtain ⟨N', hN'⟩ : ∃ N', N' = (fs1 ++ [f]).length := ⟨_, rfl⟩
        obtain ⟨a', c', e5⟩ := hr5.shape
        rw [← hN'] at e5
        subst e5
        clear hN'
        have hT5 := hT4.2.1.of_block (hG.block _ hTlt (fun e => hap e.symm))
        have c2 := hT5.c2
        have f2 : w5.frozen? ⟨T, 2, none⟩ = false := hT5.free
        have hT6 := hT5.s2 (.slice a' N' c')
        have c3 := hT6.c3
        have f3 : (w5.setCell ⟨T, 2, none⟩ (.slice a' N' c')).frozen? ⟨T, 3, none⟩ = false := hT6.free
        have hap5 := hT5.apart hr5
        have hw2 : IntKind.i64.wrap ((sumF fs1 : Nat) + (S : Nat)) = ((sumF fs1 : Nat) : Int) + (S : Nat) := IntWalk.i64_in _ (by omega)
        have HR5 := Lib.hid (And.intro hT6 (And.intro hr5 (And.intro hfr5 (And.intro hG hap5))))
        obtain ⟨z1, hz1⟩ : ∃ z1, z1 = sumF fs1 := ⟨_, rfl⟩
        rw [← hz1] at c3 hw2
        have HZ1 := Lib.hid hz1
        clear hT5 hT6 hr5 hfr5 hG hap5 hz1
        go_wp2
        refine Calm.intro ?_
        go_wp2_with fail
        go_ret
        obtain ⟨hT6, hr5, hfr5, hG, hap5⟩ := HR5.out
        obtain ⟨hT2', hfr02, hm02⟩ := HR.out
        have hb4 := HB4.out
        refine ⟨rfl, .slice a' N' c', ?_, ?_, ?_⟩
        · rw [HA.out]
          refine ⟨h.1, ?_, ?_⟩
          · have e : (sumF (fs1 ++ [f]) : Nat) = (z1 : Int) + (S : Nat) := by rw [sumF_append, sumF_one, ← HSZ.out, HZ1.out]; push_cast; rfl
            rw [e]
            exact hT6.s3 _
          · exact hr5.of_block fun g hg => (Below.heap_setCell _ _ _ _ (fun e => hap5 (by rw [hg]; exact congrArg some e))).trans (Below.heap_setCell _ _ _ _ (fun e => hap5 (by rw [hg]; exact congrArg some e)))
        · exact hfr02.trans (fun g hg => (hfr5 g hg).imp_right (fun h => by have := hb4.size; omega)) hm02.size
        · have hm24 : Mv T v1 w2 ((w5.setCell ⟨T, 2, none⟩ (.slice a' N' c')).setCell ⟨T, 3, none⟩ (.int .i64 ((z1 : Int) + (S : Nat)))) :=
            (((Mv.of hb4).trans (Mv.grown hG) (fun g hg => .inl hg)).trans (Mv.set T v1 w5 2 _) (fun g hg => .inl hg)).trans (Mv.set T v1 _ 3 _) (fun g hg => .inl hg)
          exact hm02.trans hm24 hfr02
end Go.Proofs.Ytjaedpekbkmokaa
