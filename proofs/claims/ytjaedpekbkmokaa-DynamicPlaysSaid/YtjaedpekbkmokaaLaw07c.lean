
/-
  DynamicPlays: its walk.
-/
import Derived.Test.YtjaedpekbkmokaaLaw07
import Derived.Test.YtjaedpekbkmokaaLaw07b
namespace Go.Proofs.Ytjaedpekbkmokaa
open Go.RowKit

theorem TabO.mono {W : World} {base base' T : Nat} {b m : Int} {v : Value} {fs : List Fd} (h : TabO W base T b m v fs) (hb : base' ≤ base) : TabO W base' T b m v fs := ⟨Nat.le_trans hb h.1, h.2.1, h.2.2.mono hb⟩
theorem TabR.mono {W : World} {base base' T : Nat} {b m : Int} {v : Value} {fs : List Fd} (h : TabR W base T b m v fs) (hb : base' ≤ base) : TabR W base' T b m v fs := ⟨Nat.le_trans hb h.1, h.2.1, h.2.2.mono hb⟩
/-- the two tables, apart, behind what has gone on since w -/
def Two (w : World) (b : Int) (T R : Nat) (m m' : Int) (v v' : Value) (fs rs : List Fd) (W : World) : Prop :=
  TabO W w.heap.size T b m v fs ∧ TabR W w.heap.size R b m' v' rs ∧ (∀ g, v.ownBlock = some g → v'.ownBlock ≠ some g) ∧ Below w.heap.size w W ∧ w.heap.size ≤ W.heap.size
theorem Two.grown {w W W' : World} {b : Int} {T R : Nat} {m m' : Int} {v v' : Value} {fs rs : List Fd} (h : Two w b T R m m' v v' fs rs W) (hb : Below W.heap.size W W') : Two w b T R m m' v v' fs rs W' :=
  ⟨h.1.below hb, h.2.1.below hb, h.2.2.1, h.2.2.2.1.trans (hb.mono h.2.2.2.2), Nat.le_trans h.2.2.2.2 hb.size⟩
theorem Two.ne {w W : World} {b : Int} {T R : Nat} {m m' : Int} {v v' : Value} {fs rs : List Fd} (h : Two w b T R m m' v v' fs rs W) : T ≠ R := by
  rintro rfl
  have h1 := h.1.2.1
  have h2 := h.2.1.2.1
  unfold TabAt at h1
  unfold RefAt at h2
  rw [h1] at h2
  injection h2 with h2
  injection h2 with _ e _
  exact absurd e (by decide)
/-- a call on the program's table -/
theorem Two.stepO {w W W' : World} {b : Int} {T R : Nat} {m m' m2 : Int} {v v' v2 : Value} {fs rs fs2 : List Fd} (h : Two w b T R m m' v v' fs rs W) (hT : TabO W' w.heap.size T b m2 v2 fs2) (hf : From W v v2) (hm : Mv T v W W') : Two w b T R m2 m' v2 v' fs2 rs W' := by
  refine ⟨hT, h.2.1.of_blocks (hm.block R h.2.1.2.1.lt h.ne.symm (h.2.1.2.1.apart h.1.2.2)) (fun g hg => hm.block g (h.2.1.2.2.lt g hg).2 (fun e => h.1.2.1.apart h.2.1.2.2 (by rw [hg, e])) (fun e => h.2.2.1 g e hg)), fun g hg hg' => ?_, h.2.2.2.1.trans (hm.below h.1.1 (fun g hg => (h.1.2.2.lt g hg).1) h.2.2.2.2), Nat.le_trans h.2.2.2.2 hm.size⟩
  rcases hf g hg with h1 | h1
  · exact h.2.2.1 g h1 hg'
  · have := (h.2.1.2.2.lt g hg').2; omega
/-- a call on the reference's -/
theorem Two.stepR {w W W' : World} {b : Int} {T R : Nat} {m m' m2 : Int} {v v' v2 : Value} {fs rs rs2 : List Fd} (h : Two w b T R m m' v v' fs rs W) (hR : TabR W' w.heap.size R b m2 v2 rs2) (hf : From W v' v2) (hm : Mv R v' W W') : Two w b T R m m2 v v2 fs rs2 W' := by
  refine ⟨h.1.of_blocks (hm.block T h.1.2.1.lt h.ne (h.1.2.1.apart h.2.1.2.2)) (fun g hg => hm.block g (h.1.2.2.lt g hg).2 (fun e => h.2.1.2.1.apart h.1.2.2 (by rw [hg, e])) (fun e => h.2.2.1 g hg e)), hR, fun g hg hg' => ?_, h.2.2.2.1.trans (hm.below h.2.1.1 (fun g hg => (h.2.1.2.2.lt g hg).1) h.2.2.2.2), Nat.le_trans h.2.2.2.2 hm.size⟩
  rcases hf g hg' with h1 | h1
  · exact h.2.2.1 g hg h1
  · have := (h.1.2.2.lt g hg).2; omega
/-- a clone that goes on in its place, while the old one takes one more -/
theorem Two.clone {w W W2 W3 : World} {b : Int} {T R T2 : Nat} {m m' : Int} {v v' v2 : Value} {fs rs : List Fd} (h : Two w b T R m m' v v' fs rs W) (hT2 : TabO W2 W.heap.size T2 b m v2 fs) (hb : Below W.heap.size W W2) (hm : Mv T v W2 W3) : Two w b T2 R m m' v2 v' fs rs W3 := by
  have h2 := h.grown hb
  have hlt := h.1.2.1.lt
  have hv := h.1.2.2.lt
  refine ⟨(hT2.mono h.2.2.2.2).of_blocks (hm.block T2 hT2.2.1.lt (by have := hT2.1; omega) (fun e => by have := (hv _ e).2; have := hT2.1; omega)) (fun g hg => hm.block g (hT2.2.2.lt g hg).2 (by have := (hT2.2.2.lt g hg).1; omega) (fun e => by have := (hv _ e).2; have := (hT2.2.2.lt g hg).1; omega)),
    h2.2.1.of_blocks (hm.block R h2.2.1.2.1.lt h2.ne.symm (h2.2.1.2.1.apart h2.1.2.2)) (fun g hg => hm.block g (h2.2.1.2.2.lt g hg).2 (fun e => h2.1.2.1.apart h2.2.1.2.2 (by rw [hg, e])) (fun e => h2.2.2.1 g e hg)), fun g hg hg' => ?_, h2.2.2.2.1.trans (hm.below h2.1.1 (fun g hg => (h2.1.2.2.lt g hg).1) h2.2.2.2.2), Nat.le_trans h2.2.2.2.2 hm.size⟩
  have := (hT2.2.2.lt g hg).1
  have := (h.2.1.2.2.lt g hg').2
  omega
theorem sliceAct : Try.prog.underlying 22 = some (.slice (Try.prog.elem 22)) := by kernel_rfl
/-- the field of an act lies there -/
def TwoAt (ab o : Nat) (x : Act7) (W : World) : Prop := W.cell? ⟨ab, o + 1, none⟩ = some (.string x.f.1) ∧ W.cell? ⟨ab, o + 1 + 1, none⟩ = some (.string x.f.2) ∧ ab < W.heap.size
theorem TwoAt.below {ab o : Nat} {x : Act7} {W W' : World} (h : TwoAt ab o x W) (hb : Below W.heap.size W W') : TwoAt ab o x W' := ⟨(hb.cell (p := ⟨ab, o + 1, none⟩) h.2.2).trans h.1, (hb.cell (p := ⟨ab, o + 1 + 1, none⟩) h.2.2).trans h.2.1, Nat.lt_of_lt_of_le h.2.2 hb.size⟩
/-- what the loop keeps -/
def Plays (w : World) (b : Int) (T R : Nat) (W : World) : Prop := ∃ m v v' fs, Two w b T R m m v v' fs fs.reverse W ∧ 0 ≤ m ∧ m ≤ b ∧ (sumF fs : Int) ≤ m

set_option maxHeartbeats 4000000 in
set_option maxRecDepth 20000 in
theorem plays7_any (b : Int) (v : Value) (xs : List Act7) (w : World) (h : SlA w v xs) : Calls Try.prog 3 #[.int .i64 b, v] w fun e w' => e = .returned (.bool true) ∧ Below w.heap.size w w' := by
  obtain ⟨a, c, rfl, hc1, hc2⟩ := h.shape
  unfold maxLen at hc2
  have hfit := fits7_any _ xs w h
  obtain ⟨N, hN⟩ : ∃ N, N = xs.length := ⟨_, rfl⟩
  rw [← hN] at h hc1 hfit ⊢
  by_cases hF : fitsA xs
  · rw [decide_eq_true hF] at hfit
    have HFT := Lib.hid hfit
    have hN60 : N ≤ 60 := by rw [hN]; exact hF.1
    have HF := Lib.hid hF.2
    have HN := Lib.hid hN
    clear hF hfit hN
    by_cases hb : 0 ≤ b ∧ b ≤ 4096
    · have d1 : decide (b < 0) = false := decide_eq_false (by omega)
      have d2 : decide (4096 < b) = false := decide_eq_false (by omega)
      go_enter Try.func3, Try.ntmps3
      go_wp2_with fail
      refine (HFT.out).mono ?_
      rintro e w0 ⟨rfl, rfl⟩
      go_wp2_with fail
      refine (new_any b _ hb.1 hb.2).mono ?_
      rintro e w1 ⟨rfl, hT, hb1⟩
      have HT := Lib.hid (And.intro hT hb1)
      clear hT hb1
      go_wp2_with fail
      refine (begin_any b _).mono ?_
      rintro e w2 ⟨rfl, hR, hb2⟩
      have HP : Hid (Plays w0 b w0.heap.size w1.heap.size w2) :=
        ⟨b, _, _, [], ⟨HT.out.1.below hb2, hR.mono HT.out.2.size, (fun g hg => by cases hg), HT.out.2.trans (hb2.mono HT.out.2.size), Nat.le_trans HT.out.2.size hb2.size⟩, hb.1, Int.le_refl _, by simpa [sumF] using hb.1⟩
      have hR0 : w0.heap.size < w1.heap.size := HT.out.1.2.1.lt
      obtain ⟨R, hR'⟩ : ∃ R, w1.heap.size = R := ⟨_, rfl⟩
      rw [hR'] at HP hR0
      rw [hR']
      clear hR' hR hb2 HT
      go_wp2_with fail
      go_loopg [6, 9] N (fun q s6 s9 wr => ∃ k T : Nat, k + q = N ∧ s6 = .pointer (some ⟨T, 0, none⟩) ∧ s9 = .int .i64 k ∧ Hid (Plays w0 b T R wr))
      case atStart => exact ⟨0, w0.heap.size, by omega, rfl, rfl, HP⟩
      case round =>
        obtain ⟨k, T, hkq, rfl, rfl, HP⟩ := hrel
        have HKQ := Lib.hid hkq
        have hk : k ≤ N := by omega
        clear hkq
        by_cases hlt : k < N
        · obtain ⟨x, hx⟩ : ∃ x, xs[k]? = some x := ⟨xs[k]'(by rw [← HN.out]; exact hlt), List.getElem?_eq_getElem (by rw [← HN.out]; exact hlt)⟩
          obtain ⟨m, v1, v2, fs, HTW, hm0, hmb, hsm⟩ := HP.out
          have HTW := Lib.hid HTW
          obtain ⟨ab, off, rfl, hbl, hcell⟩ := h.at_ (i := k) (by rw [← HN.out]; exact hlt)
          have hA := hcell x hx
          obtain ⟨hf1, hf2⟩ := HF.out x (List.mem_of_getElem? hx)
          have hkd := bounds_u8 (h.1 x (List.mem_of_getElem? hx)).1
          have hAt : ∀ W, Below w0.heap.size w0 W → actAt W ab (off + k * 4) x := fun W hB => ⟨(hB.cell (p := ⟨ab, off + k * 4, none⟩) hbl).trans hA.1, (hB.cell (p := ⟨ab, off + k * 4 + 1, none⟩) hbl).trans hA.2.1, (hB.cell (p := ⟨ab, off + k * 4 + 2, none⟩) hbl).trans hA.2.2.1, (hB.cell (p := ⟨ab, off + k * 4 + 3, none⟩) hbl).trans hA.2.2.2⟩
          -- one round, by gen07.py
          have HA := Lib.hid hAt
          have c0 := (hAt wr HTW.out.2.2.2.1).1
          have hsl : small x.f := ⟨by omega, by omega⟩
          have hix := run_index_sl (P := Try.prog) (t := 22) (s := 4) sliceAct (fun _ => by kernel_rfl) ab off N c k hlt
          have HLT := Lib.hid hlt
          have hsz := hsl.sz
          have hsf : szF x.f ≤ 632 := by unfold szF; omega
          clear hcell hA hx hAt hlt
          by_cases hk3 : x.kind % 5 = 3
          · have e3 : (x.kind % 5 == 3) = true := by rw [beq_iff_eq]; exact hk3
            have c3 := (HA.out wr HTW.out.2.2.2.1).2.2.2
            clear hk3
            by_cases hn : 0 ≤ x.n ∧ x.n ≤ b
            · go_wp2_with fail
              refine (tset_any T w0.heap.size b m x.n v1 fs wr HTW.out.1 hn (by omega)).mono ?_
              rintro e w3 ⟨rfl, v3, hT, hf, hm⟩
              have HT3 := Lib.hid (HTW.out.stepO hT hf hm)
              clear hT hf hm
              have c3 := (HA.out w3 HT3.out.2.2.2.1).2.2.2
              go_wp2_with fail
              refine (refSet_any R w0.heap.size b m x.n v2 fs.reverse w3 HT3.out.2.1 hn (by rw [sumF_reverse]; omega) HT3.out.2.2.2.2).mono ?_
              rintro e W5 ⟨rfl, u5, hR, hf, hm⟩
              rw [← shrink_fit] at hR
              have HT5 : Hid (Two w0 b T R x.n x.n v3 u5 (shrinkF x.n fs) (shrinkF x.n fs).reverse W5 ∧ 0 ≤ x.n ∧ x.n ≤ b ∧ (sumF (shrinkF x.n fs) : Int) ≤ x.n) := ⟨HT3.out.stepR hR hf hm, hn.1, hn.2, shrinkF_le hn.1 fs⟩
              clear hR hf hm HT3 HTW
              generalize shrinkF x.n fs = fs5 at HT5
              clear hn c3
              go_wp2_with fail
              obtain ⟨hTW5, hm5, hb5, hs5⟩ := HT5.out
              refine (has7_any T R w0.heap.size b x.n b v3 u5 fs5 W5 hTW5.1 hTW5.2.1 (by omega)).mono ?_
              rintro e w9 ⟨rfl, hb9⟩
              have HT9 := Lib.hid (hTW5.grown hb9)
              have HC9 : Hid (TwoAt ab (off + k * 4) x w9) := ⟨(HA.out w9 HT9.out.2.2.2.1).2.1, (HA.out w9 HT9.out.2.2.2.1).2.2.1, Nat.lt_of_lt_of_le hbl HT9.out.2.2.2.1.size⟩
              clear hb9 hTW5 HT5
              go_wp2_with fail
              refine wp_region_quiet (C := fun w' => Below w9.heap.size w9 w') (by kernel_rfl) (by kernel_rfl) (Below.refl _ _).drew ?_
              refine quiet_take (.int .i64 0) rfl (quiet_pure (fun w => rfl)) ?_
              simp only [Act.put, List.setIfInBounds_toArray, List.set_cons_zero, List.set_cons_succ]
              refine quiet_take (.int .i64 0) rfl (quiet_pure (fun w => rfl)) ?_
              simp only [Act.put, List.setIfInBounds_toArray, List.set_cons_zero, List.set_cons_succ]
              refine quiet_take (.bool false) rfl (quiet_pure (fun w => by simp [go_sem])) ?_
              simp only [Act.put, List.setIfInBounds_toArray, List.set_cons_zero, List.set_cons_succ]
              refine quiet_take (.bool false) rfl (quiet_pure (fun w => rfl)) ?_
              simp only [Act.put, List.setIfInBounds_toArray, List.set_cons_zero, List.set_cons_succ]
              refine quiet_take (.bool true) rfl (quiet_pure (fun w => rfl)) ?_
              simp only [Act.put, List.setIfInBounds_toArray, List.set_cons_zero, List.set_cons_succ]
              refine quiet_take (.bool false) rfl (quiet_pure (fun w => by simp [go_sem])) ?_
              simp only [Act.put, List.setIfInBounds_toArray, List.set_cons_zero, List.set_cons_succ]
              refine quiet_take (.bool false) rfl (quiet_pure (fun w => by simp [go_sem])) ?_
              simp only [Act.put, List.setIfInBounds_toArray, List.set_cons_zero, List.set_cons_succ]
              refine quiet_take (.bool false) rfl (quiet_pure (fun w => rfl)) ?_
              simp only [Act.put, List.setIfInBounds_toArray, List.set_cons_zero, List.set_cons_succ]
              refine quiet_take (.slice (some ⟨ab, off, none⟩) N c) rfl (quiet_pure (fun w => rfl)) ?_
              simp only [Act.put, List.setIfInBounds_toArray, List.set_cons_zero, List.set_cons_succ]
              refine quiet_take (.int .i64 k) rfl (quiet_pure (fun w => rfl)) ?_
              simp only [Act.put, List.setIfInBounds_toArray, List.set_cons_zero, List.set_cons_succ]
              refine quiet_take (.pointer (some ⟨ab, off + k * 4, none⟩)) rfl (quiet_pure (fun w => by simp [go_sem, hix])) ?_
              simp only [Act.put, List.setIfInBounds_toArray, List.set_cons_zero, List.set_cons_succ]
              refine quiet_take (.pointer (some ⟨ab, off + k * 4 + 1, none⟩)) rfl (quiet_pure (fun w => by simp [go_sem])) ?_
              simp only [Act.put, List.setIfInBounds_toArray, List.set_cons_zero, List.set_cons_succ]
              refine quiet_take (.agg #[.string x.f.1, .string x.f.2]) rfl (quiet_is (fun w hw => by have g1 := (HC9.out.below hw).1; have g2 := (HC9.out.below hw).2.1; simp [go_sem, g1, g2])) ?_
              simp only [Act.put, List.setIfInBounds_toArray, List.set_cons_zero, List.set_cons_succ]
              refine quiet_take (.int .i64 (szF x.f : Nat)) rfl (quiet_call 14 _ _ rfl [.agg #[.string x.f.1, .string x.f.2]] rfl (enters_of Try.func14 (by kernel_rfl) rfl) (fun w hw => (size_any x.f hsl w).mono (by rintro e w'' ⟨rfl, hb⟩; exact ⟨rfl, hw.trans (hb.mono hw.size)⟩))) ?_
              simp only [Act.put, List.setIfInBounds_toArray, List.set_cons_zero, List.set_cons_succ]
              refine quiet_take (.slice (some ⟨ab, off, none⟩) N c) rfl (quiet_pure (fun w => rfl)) ?_
              simp only [Act.put, List.setIfInBounds_toArray, List.set_cons_zero, List.set_cons_succ]
              refine quiet_take (.int .i64 k) rfl (quiet_pure (fun w => rfl)) ?_
              simp only [Act.put, List.setIfInBounds_toArray, List.set_cons_zero, List.set_cons_succ]
              refine quiet_take (.pointer (some ⟨ab, off + k * 4, none⟩)) rfl (quiet_pure (fun w => by simp [go_sem, hix])) ?_
              simp only [Act.put, List.setIfInBounds_toArray, List.set_cons_zero, List.set_cons_succ]
              refine quiet_take (.pointer (some ⟨ab, off + k * 4 + 1, none⟩)) rfl (quiet_pure (fun w => by simp [go_sem])) ?_
              simp only [Act.put, List.setIfInBounds_toArray, List.set_cons_zero, List.set_cons_succ]
              refine quiet_take (.agg #[.string x.f.1, .string x.f.2]) rfl (quiet_is (fun w hw => by have g1 := (HC9.out.below hw).1; have g2 := (HC9.out.below hw).2.1; simp [go_sem, g1, g2])) ?_
              simp only [Act.put, List.setIfInBounds_toArray, List.set_cons_zero, List.set_cons_succ]
              refine quiet_take (.int .i64 (szF x.f : Nat)) rfl (quiet_call 15 _ _ rfl [.agg #[.string x.f.1, .string x.f.2]] rfl (enters_of Try.func15 (by kernel_rfl) rfl) (fun w hw => (refSize_any x.f hsl w).mono (by rintro e w'' ⟨rfl, hb⟩; exact ⟨rfl, hw.trans (hb.mono hw.size)⟩))) ?_
              simp only [Act.put, List.setIfInBounds_toArray, List.set_cons_zero, List.set_cons_succ]
              refine quiet_take (.bool false) rfl (quiet_pure (fun w => by simp [go_sem])) ?_
              simp only [Act.put, List.setIfInBounds_toArray, List.set_cons_zero, List.set_cons_succ]
              refine quiet_take (.bool false) rfl (quiet_pure (fun w => by simp [go_sem])) ?_
              simp only [Act.put, List.setIfInBounds_toArray, List.set_cons_zero, List.set_cons_succ]
              intro W10 hb10
              have HP10 : Hid (Plays w0 b T R W10) := ⟨x.n, v3, u5, fs5, HT9.out.grown hb10, hm5, hb5, hs5⟩
              clear hb10 HT9 HC9
              go_wp2_with fail
              go_roundg (N - (k + 1))
              case measure => have := HKQ.out; have := HLT.out; omega
              case rel => exact ⟨k + 1, T, by have := HKQ.out; have := HLT.out; omega, rfl, by go_num, HP10⟩
            · go_wp2_with fail
              refine (tset_no T w0.heap.size b m x.n v1 fs wr HTW.out.1 hn).mono ?_
              rintro e w3 ⟨rfl, rfl⟩
              go_wp2_with fail
              refine (refSet_no R w0.heap.size b m x.n v2 fs.reverse w3 HTW.out.2.1 hn).mono ?_
              rintro e W5 ⟨rfl, rfl⟩
              have HT5 : Hid (Two w0 b T R m m v1 v2 fs fs.reverse W5 ∧ 0 ≤ m ∧ m ≤ b ∧ (sumF fs : Int) ≤ m) := ⟨HTW.out, hm0, hmb, hsm⟩
              clear HTW hn c3
              go_wp2_with fail
              obtain ⟨hTW5, hm5, hb5, hs5⟩ := HT5.out
              refine (has7_any T R w0.heap.size b m b v1 v2 fs W5 hTW5.1 hTW5.2.1 (by omega)).mono ?_
              rintro e w9 ⟨rfl, hb9⟩
              have HT9 := Lib.hid (hTW5.grown hb9)
              have HC9 : Hid (TwoAt ab (off + k * 4) x w9) := ⟨(HA.out w9 HT9.out.2.2.2.1).2.1, (HA.out w9 HT9.out.2.2.2.1).2.2.1, Nat.lt_of_lt_of_le hbl HT9.out.2.2.2.1.size⟩
              clear hb9 hTW5 HT5
              go_wp2_with fail
              refine wp_region_quiet (C := fun w' => Below w9.heap.size w9 w') (by kernel_rfl) (by kernel_rfl) (Below.refl _ _).drew ?_
              refine quiet_take (.int .i64 1) rfl (quiet_pure (fun w => rfl)) ?_
              simp only [Act.put, List.setIfInBounds_toArray, List.set_cons_zero, List.set_cons_succ]
              refine quiet_take (.int .i64 1) rfl (quiet_pure (fun w => rfl)) ?_
              simp only [Act.put, List.setIfInBounds_toArray, List.set_cons_zero, List.set_cons_succ]
              refine quiet_take (.bool false) rfl (quiet_pure (fun w => by simp [go_sem])) ?_
              simp only [Act.put, List.setIfInBounds_toArray, List.set_cons_zero, List.set_cons_succ]
              refine quiet_take (.bool false) rfl (quiet_pure (fun w => rfl)) ?_
              simp only [Act.put, List.setIfInBounds_toArray, List.set_cons_zero, List.set_cons_succ]
              refine quiet_take (.bool true) rfl (quiet_pure (fun w => rfl)) ?_
              simp only [Act.put, List.setIfInBounds_toArray, List.set_cons_zero, List.set_cons_succ]
              refine quiet_take (.bool false) rfl (quiet_pure (fun w => by simp [go_sem])) ?_
              simp only [Act.put, List.setIfInBounds_toArray, List.set_cons_zero, List.set_cons_succ]
              refine quiet_take (.bool false) rfl (quiet_pure (fun w => by simp [go_sem])) ?_
              simp only [Act.put, List.setIfInBounds_toArray, List.set_cons_zero, List.set_cons_succ]
              refine quiet_take (.bool false) rfl (quiet_pure (fun w => rfl)) ?_
              simp only [Act.put, List.setIfInBounds_toArray, List.set_cons_zero, List.set_cons_succ]
              refine quiet_take (.slice (some ⟨ab, off, none⟩) N c) rfl (quiet_pure (fun w => rfl)) ?_
              simp only [Act.put, List.setIfInBounds_toArray, List.set_cons_zero, List.set_cons_succ]
              refine quiet_take (.int .i64 k) rfl (quiet_pure (fun w => rfl)) ?_
              simp only [Act.put, List.setIfInBounds_toArray, List.set_cons_zero, List.set_cons_succ]
              refine quiet_take (.pointer (some ⟨ab, off + k * 4, none⟩)) rfl (quiet_pure (fun w => by simp [go_sem, hix])) ?_
              simp only [Act.put, List.setIfInBounds_toArray, List.set_cons_zero, List.set_cons_succ]
              refine quiet_take (.pointer (some ⟨ab, off + k * 4 + 1, none⟩)) rfl (quiet_pure (fun w => by simp [go_sem])) ?_
              simp only [Act.put, List.setIfInBounds_toArray, List.set_cons_zero, List.set_cons_succ]
              refine quiet_take (.agg #[.string x.f.1, .string x.f.2]) rfl (quiet_is (fun w hw => by have g1 := (HC9.out.below hw).1; have g2 := (HC9.out.below hw).2.1; simp [go_sem, g1, g2])) ?_
              simp only [Act.put, List.setIfInBounds_toArray, List.set_cons_zero, List.set_cons_succ]
              refine quiet_take (.int .i64 (szF x.f : Nat)) rfl (quiet_call 14 _ _ rfl [.agg #[.string x.f.1, .string x.f.2]] rfl (enters_of Try.func14 (by kernel_rfl) rfl) (fun w hw => (size_any x.f hsl w).mono (by rintro e w'' ⟨rfl, hb⟩; exact ⟨rfl, hw.trans (hb.mono hw.size)⟩))) ?_
              simp only [Act.put, List.setIfInBounds_toArray, List.set_cons_zero, List.set_cons_succ]
              refine quiet_take (.slice (some ⟨ab, off, none⟩) N c) rfl (quiet_pure (fun w => rfl)) ?_
              simp only [Act.put, List.setIfInBounds_toArray, List.set_cons_zero, List.set_cons_succ]
              refine quiet_take (.int .i64 k) rfl (quiet_pure (fun w => rfl)) ?_
              simp only [Act.put, List.setIfInBounds_toArray, List.set_cons_zero, List.set_cons_succ]
              refine quiet_take (.pointer (some ⟨ab, off + k * 4, none⟩)) rfl (quiet_pure (fun w => by simp [go_sem, hix])) ?_
              simp only [Act.put, List.setIfInBounds_toArray, List.set_cons_zero, List.set_cons_succ]
              refine quiet_take (.pointer (some ⟨ab, off + k * 4 + 1, none⟩)) rfl (quiet_pure (fun w => by simp [go_sem])) ?_
              simp only [Act.put, List.setIfInBounds_toArray, List.set_cons_zero, List.set_cons_succ]
              refine quiet_take (.agg #[.string x.f.1, .string x.f.2]) rfl (quiet_is (fun w hw => by have g1 := (HC9.out.below hw).1; have g2 := (HC9.out.below hw).2.1; simp [go_sem, g1, g2])) ?_
              simp only [Act.put, List.setIfInBounds_toArray, List.set_cons_zero, List.set_cons_succ]
              refine quiet_take (.int .i64 (szF x.f : Nat)) rfl (quiet_call 15 _ _ rfl [.agg #[.string x.f.1, .string x.f.2]] rfl (enters_of Try.func15 (by kernel_rfl) rfl) (fun w hw => (refSize_any x.f hsl w).mono (by rintro e w'' ⟨rfl, hb⟩; exact ⟨rfl, hw.trans (hb.mono hw.size)⟩))) ?_
              simp only [Act.put, List.setIfInBounds_toArray, List.set_cons_zero, List.set_cons_succ]
              refine quiet_take (.bool false) rfl (quiet_pure (fun w => by simp [go_sem])) ?_
              simp only [Act.put, List.setIfInBounds_toArray, List.set_cons_zero, List.set_cons_succ]
              refine quiet_take (.bool false) rfl (quiet_pure (fun w => by simp [go_sem])) ?_
              simp only [Act.put, List.setIfInBounds_toArray, List.set_cons_zero, List.set_cons_succ]
              intro W10 hb10
              have HP10 : Hid (Plays w0 b T R W10) := ⟨m, v1, v2, fs, HT9.out.grown hb10, hm5, hb5, hs5⟩
              clear hb10 HT9 HC9
              go_wp2_with fail
              go_roundg (N - (k + 1))
              case measure => have := HKQ.out; have := HLT.out; omega
              case rel => exact ⟨k + 1, T, by have := HKQ.out; have := HLT.out; omega, rfl, by go_num, HP10⟩
          · have e3 : (x.kind % 5 == 3) = false := by rw [beq_eq_false_iff_ne]; exact hk3
            clear hk3
            by_cases hk4 : x.kind % 5 = 4
            · have e4 : (x.kind % 5 == 4) = true := by rw [beq_iff_eq]; exact hk4
              clear hk4
              go_wp2_with fail
              refine (tclone_any T w0.heap.size b m v1 fs wr HTW.out.1 (by have := sumF_len fs; omega)).mono ?_
              rintro e w3 ⟨T2, v3, rfl, hT2, hb3⟩
              have HT3 := Lib.hid (And.intro hT2 hb3)
              have hTo := HTW.out.grown hb3
              clear hT2 hb3
              have g1 := (HA.out w3 hTo.2.2.2.1).2.1
              have g2 : w3.cell? ⟨ab, off + k * 4 + 1 + 1, none⟩ = some (.string x.f.2) := (HA.out w3 hTo.2.2.2.1).2.2.1
              have HTo := Lib.hid hTo
              clear hTo
              go_wp2_with fail
              refine (tadd_any T w0.heap.size b m v1 fs x.f w3 HTo.out.1 hsl (by omega) (by omega) HTo.out.2.2.2.2).mono ?_
              rintro e W5 ⟨rfl, v4, _, _, hm⟩
              have HT5 : Hid (Two w0 b T2 R m m v3 v2 fs fs.reverse W5 ∧ 0 ≤ m ∧ m ≤ b ∧ (sumF fs : Int) ≤ m) := ⟨HTW.out.clone HT3.out.1 HT3.out.2 hm, hm0, hmb, hsm⟩
              clear hm HT3 HTo HTW g1 g2
              go_wp2_with fail
              obtain ⟨hTW5, hm5, hb5, hs5⟩ := HT5.out
              refine (has7_any T2 R w0.heap.size b m b v3 v2 fs W5 hTW5.1 hTW5.2.1 (by omega)).mono ?_
              rintro e w9 ⟨rfl, hb9⟩
              have HT9 := Lib.hid (hTW5.grown hb9)
              have HC9 : Hid (TwoAt ab (off + k * 4) x w9) := ⟨(HA.out w9 HT9.out.2.2.2.1).2.1, (HA.out w9 HT9.out.2.2.2.1).2.2.1, Nat.lt_of_lt_of_le hbl HT9.out.2.2.2.1.size⟩
              clear hb9 hTW5 HT5
              go_wp2_with fail
              refine wp_region_quiet (C := fun w' => Below w9.heap.size w9 w') (by kernel_rfl) (by kernel_rfl) (Below.refl _ _).drew ?_
              refine quiet_take (.int .i64 0) rfl (quiet_pure (fun w => rfl)) ?_
              simp only [Act.put, List.setIfInBounds_toArray, List.set_cons_zero, List.set_cons_succ]
              refine quiet_take (.int .i64 0) rfl (quiet_pure (fun w => rfl)) ?_
              simp only [Act.put, List.setIfInBounds_toArray, List.set_cons_zero, List.set_cons_succ]
              refine quiet_take (.bool false) rfl (quiet_pure (fun w => by simp [go_sem])) ?_
              simp only [Act.put, List.setIfInBounds_toArray, List.set_cons_zero, List.set_cons_succ]
              refine quiet_take (.bool false) rfl (quiet_pure (fun w => rfl)) ?_
              simp only [Act.put, List.setIfInBounds_toArray, List.set_cons_zero, List.set_cons_succ]
              refine quiet_take (.bool true) rfl (quiet_pure (fun w => rfl)) ?_
              simp only [Act.put, List.setIfInBounds_toArray, List.set_cons_zero, List.set_cons_succ]
              refine quiet_take (.bool false) rfl (quiet_pure (fun w => by simp [go_sem])) ?_
              simp only [Act.put, List.setIfInBounds_toArray, List.set_cons_zero, List.set_cons_succ]
              refine quiet_take (.bool false) rfl (quiet_pure (fun w => by simp [go_sem])) ?_
              simp only [Act.put, List.setIfInBounds_toArray, List.set_cons_zero, List.set_cons_succ]
              refine quiet_take (.bool false) rfl (quiet_pure (fun w => rfl)) ?_
              simp only [Act.put, List.setIfInBounds_toArray, List.set_cons_zero, List.set_cons_succ]
              refine quiet_take (.slice (some ⟨ab, off, none⟩) N c) rfl (quiet_pure (fun w => rfl)) ?_
              simp only [Act.put, List.setIfInBounds_toArray, List.set_cons_zero, List.set_cons_succ]
              refine quiet_take (.int .i64 k) rfl (quiet_pure (fun w => rfl)) ?_
              simp only [Act.put, List.setIfInBounds_toArray, List.set_cons_zero, List.set_cons_succ]
              refine quiet_take (.pointer (some ⟨ab, off + k * 4, none⟩)) rfl (quiet_pure (fun w => by simp [go_sem, hix])) ?_
              simp only [Act.put, List.setIfInBounds_toArray, List.set_cons_zero, List.set_cons_succ]
              refine quiet_take (.pointer (some ⟨ab, off + k * 4 + 1, none⟩)) rfl (quiet_pure (fun w => by simp [go_sem])) ?_
              simp only [Act.put, List.setIfInBounds_toArray, List.set_cons_zero, List.set_cons_succ]
              refine quiet_take (.agg #[.string x.f.1, .string x.f.2]) rfl (quiet_is (fun w hw => by have g1 := (HC9.out.below hw).1; have g2 := (HC9.out.below hw).2.1; simp [go_sem, g1, g2])) ?_
              simp only [Act.put, List.setIfInBounds_toArray, List.set_cons_zero, List.set_cons_succ]
              refine quiet_take (.int .i64 (szF x.f : Nat)) rfl (quiet_call 14 _ _ rfl [.agg #[.string x.f.1, .string x.f.2]] rfl (enters_of Try.func14 (by kernel_rfl) rfl) (fun w hw => (size_any x.f hsl w).mono (by rintro e w'' ⟨rfl, hb⟩; exact ⟨rfl, hw.trans (hb.mono hw.size)⟩))) ?_
              simp only [Act.put, List.setIfInBounds_toArray, List.set_cons_zero, List.set_cons_succ]
              refine quiet_take (.slice (some ⟨ab, off, none⟩) N c) rfl (quiet_pure (fun w => rfl)) ?_
              simp only [Act.put, List.setIfInBounds_toArray, List.set_cons_zero, List.set_cons_succ]
              refine quiet_take (.int .i64 k) rfl (quiet_pure (fun w => rfl)) ?_
              simp only [Act.put, List.setIfInBounds_toArray, List.set_cons_zero, List.set_cons_succ]
              refine quiet_take (.pointer (some ⟨ab, off + k * 4, none⟩)) rfl (quiet_pure (fun w => by simp [go_sem, hix])) ?_
              simp only [Act.put, List.setIfInBounds_toArray, List.set_cons_zero, List.set_cons_succ]
              refine quiet_take (.pointer (some ⟨ab, off + k * 4 + 1, none⟩)) rfl (quiet_pure (fun w => by simp [go_sem])) ?_
              simp only [Act.put, List.setIfInBounds_toArray, List.set_cons_zero, List.set_cons_succ]
              refine quiet_take (.agg #[.string x.f.1, .string x.f.2]) rfl (quiet_is (fun w hw => by have g1 := (HC9.out.below hw).1; have g2 := (HC9.out.below hw).2.1; simp [go_sem, g1, g2])) ?_
              simp only [Act.put, List.setIfInBounds_toArray, List.set_cons_zero, List.set_cons_succ]
              refine quiet_take (.int .i64 (szF x.f : Nat)) rfl (quiet_call 15 _ _ rfl [.agg #[.string x.f.1, .string x.f.2]] rfl (enters_of Try.func15 (by kernel_rfl) rfl) (fun w hw => (refSize_any x.f hsl w).mono (by rintro e w'' ⟨rfl, hb⟩; exact ⟨rfl, hw.trans (hb.mono hw.size)⟩))) ?_
              simp only [Act.put, List.setIfInBounds_toArray, List.set_cons_zero, List.set_cons_succ]
              refine quiet_take (.bool false) rfl (quiet_pure (fun w => by simp [go_sem])) ?_
              simp only [Act.put, List.setIfInBounds_toArray, List.set_cons_zero, List.set_cons_succ]
              refine quiet_take (.bool false) rfl (quiet_pure (fun w => by simp [go_sem])) ?_
              simp only [Act.put, List.setIfInBounds_toArray, List.set_cons_zero, List.set_cons_succ]
              intro W10 hb10
              have HP10 : Hid (Plays w0 b T2 R W10) := ⟨m, v3, v2, fs, HT9.out.grown hb10, hm5, hb5, hs5⟩
              clear hb10 HT9 HC9
              go_wp2_with fail
              go_roundg (N - (k + 1))
              case measure => have := HKQ.out; have := HLT.out; omega
              case rel => exact ⟨k + 1, T2, by have := HKQ.out; have := HLT.out; omega, rfl, by go_num, HP10⟩
            · have e4 : (x.kind % 5 == 4) = false := by rw [beq_eq_false_iff_ne]; exact hk4
              clear hk4
              have g1 := (HA.out wr HTW.out.2.2.2.1).2.1
              have g2 : wr.cell? ⟨ab, off + k * 4 + 1 + 1, none⟩ = some (.string x.f.2) := (HA.out wr HTW.out.2.2.2.1).2.2.1
              go_wp2_with fail
              refine (tadd_any T w0.heap.size b m v1 fs x.f wr HTW.out.1 hsl (by omega) (by omega) HTW.out.2.2.2.2).mono ?_
              rintro e w3 ⟨rfl, v3, hT, hf, hm⟩
              have HT3 := Lib.hid (HTW.out.stepO hT hf hm)
              clear hT hf hm g1 g2
              have g1 := (HA.out w3 HT3.out.2.2.2.1).2.1
              have g2 : w3.cell? ⟨ab, off + k * 4 + 1 + 1, none⟩ = some (.string x.f.2) := (HA.out w3 HT3.out.2.2.2.1).2.2.1
              go_wp2_with fail
              refine (refAdd_any R w0.heap.size b m v2 fs.reverse x.f w3 HT3.out.2.1 (by simp only [sumF]; rw [sumF_reverse]; omega) HT3.out.2.2.2.2).mono ?_
              rintro e W5 ⟨rfl, u5, hR, hf, hm⟩
              rw [← add_fit] at hR
              have HT5 : Hid (Two w0 b T R m m v3 u5 (addF m fs x.f) (addF m fs x.f).reverse W5 ∧ 0 ≤ m ∧ m ≤ b ∧ (sumF (addF m fs x.f) : Int) ≤ m) := ⟨HT3.out.stepR hR hf hm, hm0, hmb, addF_le hm0 fs x.f⟩
              clear hR hf hm HT3 HTW g1 g2
              generalize addF m fs x.f = fs5 at HT5
              go_wp2_with fail
              obtain ⟨hTW5, hm5, hb5, hs5⟩ := HT5.out
              refine (has7_any T R w0.heap.size b m b v3 u5 fs5 W5 hTW5.1 hTW5.2.1 (by omega)).mono ?_
              rintro e w9 ⟨rfl, hb9⟩
              have HT9 := Lib.hid (hTW5.grown hb9)
              have HC9 : Hid (TwoAt ab (off + k * 4) x w9) := ⟨(HA.out w9 HT9.out.2.2.2.1).2.1, (HA.out w9 HT9.out.2.2.2.1).2.2.1, Nat.lt_of_lt_of_le hbl HT9.out.2.2.2.1.size⟩
              clear hb9 hTW5 HT5
              go_wp2_with fail
              refine wp_region_quiet (C := fun w' => Below w9.heap.size w9 w') (by kernel_rfl) (by kernel_rfl) (Below.refl _ _).drew ?_
              refine quiet_take (.int .i64 0) rfl (quiet_pure (fun w => rfl)) ?_
              simp only [Act.put, List.setIfInBounds_toArray, List.set_cons_zero, List.set_cons_succ]
              refine quiet_take (.int .i64 0) rfl (quiet_pure (fun w => rfl)) ?_
              simp only [Act.put, List.setIfInBounds_toArray, List.set_cons_zero, List.set_cons_succ]
              refine quiet_take (.bool false) rfl (quiet_pure (fun w => by simp [go_sem])) ?_
              simp only [Act.put, List.setIfInBounds_toArray, List.set_cons_zero, List.set_cons_succ]
              refine quiet_take (.bool false) rfl (quiet_pure (fun w => rfl)) ?_
              simp only [Act.put, List.setIfInBounds_toArray, List.set_cons_zero, List.set_cons_succ]
              refine quiet_take (.bool true) rfl (quiet_pure (fun w => rfl)) ?_
              simp only [Act.put, List.setIfInBounds_toArray, List.set_cons_zero, List.set_cons_succ]
              refine quiet_take (.bool false) rfl (quiet_pure (fun w => by simp [go_sem])) ?_
              simp only [Act.put, List.setIfInBounds_toArray, List.set_cons_zero, List.set_cons_succ]
              refine quiet_take (.bool false) rfl (quiet_pure (fun w => by simp [go_sem])) ?_
              simp only [Act.put, List.setIfInBounds_toArray, List.set_cons_zero, List.set_cons_succ]
              refine quiet_take (.bool false) rfl (quiet_pure (fun w => rfl)) ?_
              simp only [Act.put, List.setIfInBounds_toArray, List.set_cons_zero, List.set_cons_succ]
              refine quiet_take (.slice (some ⟨ab, off, none⟩) N c) rfl (quiet_pure (fun w => rfl)) ?_
              simp only [Act.put, List.setIfInBounds_toArray, List.set_cons_zero, List.set_cons_succ]
              refine quiet_take (.int .i64 k) rfl (quiet_pure (fun w => rfl)) ?_
              simp only [Act.put, List.setIfInBounds_toArray, List.set_cons_zero, List.set_cons_succ]
              refine quiet_take (.pointer (some ⟨ab, off + k * 4, none⟩)) rfl (quiet_pure (fun w => by simp [go_sem, hix])) ?_
              simp only [Act.put, List.setIfInBounds_toArray, List.set_cons_zero, List.set_cons_succ]
              refine quiet_take (.pointer (some ⟨ab, off + k * 4 + 1, none⟩)) rfl (quiet_pure (fun w => by simp [go_sem])) ?_
              simp only [Act.put, List.setIfInBounds_toArray, List.set_cons_zero, List.set_cons_succ]
              refine quiet_take (.agg #[.string x.f.1, .string x.f.2]) rfl (quiet_is (fun w hw => by have g1 := (HC9.out.below hw).1; have g2 := (HC9.out.below hw).2.1; simp [go_sem, g1, g2])) ?_
              simp only [Act.put, List.setIfInBounds_toArray, List.set_cons_zero, List.set_cons_succ]
              refine quiet_take (.int .i64 (szF x.f : Nat)) rfl (quiet_call 14 _ _ rfl [.agg #[.string x.f.1, .string x.f.2]] rfl (enters_of Try.func14 (by kernel_rfl) rfl) (fun w hw => (size_any x.f hsl w).mono (by rintro e w'' ⟨rfl, hb⟩; exact ⟨rfl, hw.trans (hb.mono hw.size)⟩))) ?_
              simp only [Act.put, List.setIfInBounds_toArray, List.set_cons_zero, List.set_cons_succ]
              refine quiet_take (.slice (some ⟨ab, off, none⟩) N c) rfl (quiet_pure (fun w => rfl)) ?_
              simp only [Act.put, List.setIfInBounds_toArray, List.set_cons_zero, List.set_cons_succ]
              refine quiet_take (.int .i64 k) rfl (quiet_pure (fun w => rfl)) ?_
              simp only [Act.put, List.setIfInBounds_toArray, List.set_cons_zero, List.set_cons_succ]
              refine quiet_take (.pointer (some ⟨ab, off + k * 4, none⟩)) rfl (quiet_pure (fun w => by simp [go_sem, hix])) ?_
              simp only [Act.put, List.setIfInBounds_toArray, List.set_cons_zero, List.set_cons_succ]
              refine quiet_take (.pointer (some ⟨ab, off + k * 4 + 1, none⟩)) rfl (quiet_pure (fun w => by simp [go_sem])) ?_
              simp only [Act.put, List.setIfInBounds_toArray, List.set_cons_zero, List.set_cons_succ]
              refine quiet_take (.agg #[.string x.f.1, .string x.f.2]) rfl (quiet_is (fun w hw => by have g1 := (HC9.out.below hw).1; have g2 := (HC9.out.below hw).2.1; simp [go_sem, g1, g2])) ?_
              simp only [Act.put, List.setIfInBounds_toArray, List.set_cons_zero, List.set_cons_succ]
              refine quiet_take (.int .i64 (szF x.f : Nat)) rfl (quiet_call 15 _ _ rfl [.agg #[.string x.f.1, .string x.f.2]] rfl (enters_of Try.func15 (by kernel_rfl) rfl) (fun w hw => (refSize_any x.f hsl w).mono (by rintro e w'' ⟨rfl, hb⟩; exact ⟨rfl, hw.trans (hb.mono hw.size)⟩))) ?_
              simp only [Act.put, List.setIfInBounds_toArray, List.set_cons_zero, List.set_cons_succ]
              refine quiet_take (.bool false) rfl (quiet_pure (fun w => by simp [go_sem])) ?_
              simp only [Act.put, List.setIfInBounds_toArray, List.set_cons_zero, List.set_cons_succ]
              refine quiet_take (.bool false) rfl (quiet_pure (fun w => by simp [go_sem])) ?_
              simp only [Act.put, List.setIfInBounds_toArray, List.set_cons_zero, List.set_cons_succ]
              intro W10 hb10
              have HP10 : Hid (Plays w0 b T R W10) := ⟨m, v3, u5, fs5, HT9.out.grown hb10, hm5, hb5, hs5⟩
              clear hb10 HT9 HC9
              go_wp2_with fail
              go_roundg (N - (k + 1))
              case measure => have := HKQ.out; have := HLT.out; omega
              case rel => exact ⟨k + 1, T, by have := HKQ.out; have := HLT.out; omega, rfl, by go_num, HP10⟩
          -- (the end of what gen07.py wrote)
        · obtain rfl : k = N := by omega
          have d3 : decide ((k : Int) < (k : Int)) = false := decide_eq_false (by omega)
          obtain ⟨m, v1, v2, fs, HTW, _⟩ := HP.out
          have HB := Lib.hid HTW.2.2.2.1
          clear hlt hk HTW HP
          go_wp2_with fail
          refine (tget_nil 1 _).mono ?_
          rintro e w3 ⟨rfl, hb3⟩
          have HB3 := Lib.hid (HB.out.trans (hb3.mono HB.out.size))
          clear hb3
          go_wp2_with fail
          refine (alive7_any _).mono ?_
          rintro e w4 ⟨rfl, hb4⟩
          have HB4 := Lib.hid ((HB3.out.alloc HB3.out.size (.cells #[.string ⟨#[]⟩, .string ⟨#[]⟩] 32)).trans (hb4.mono (by have := HB3.out.size; simp; omega)))
          clear hb4 HB3
          go_wp2_with fail
          refine (tadd_nil ⟨#[]⟩ ⟨#[]⟩ _).mono ?_
          rintro e w5 ⟨rfl, hb5⟩
          have HB5 := Lib.hid (HB4.out.trans (hb5.mono HB4.out.size))
          clear hb5 HB4
          go_wp2_with fail
          refine (tset_nil 0 _).mono ?_
          rintro e w6 ⟨rfl, rfl⟩
          go_wp2_with fail
          refine (tlen_nil _).mono ?_
          rintro e w6 ⟨rfl, rfl⟩
          go_wp2_with fail
          refine (tsize_nil _).mono ?_
          rintro e w6 ⟨rfl, rfl⟩
          go_wp2_with fail
          refine (tmost_nil _).mono ?_
          rintro e w6 ⟨rfl, rfl⟩
          go_wp2_with fail
          refine (tclone_nil _).mono ?_
          rintro e w6 ⟨rfl, rfl⟩
          go_wp2_with fail
          go_ret
          exact ⟨rfl, HB5.out⟩
    · by_cases hb0 : b < 0
      · have d1 : decide (b < 0) = true := decide_eq_true hb0
        have HNW := Lib.hid (fun W => new_no b W hb)
        clear hb hb0
        go_enter Try.func3, Try.ntmps3
        go_wp2_with fail
        refine (HFT.out).mono ?_
        rintro e w0 ⟨rfl, rfl⟩
        go_wp2_with fail
        refine (HNW.out _).mono ?_
        rintro e w1 ⟨rfl, rfl⟩
        go_wp2_with fail
        refine (alive7_any _).mono ?_
        rintro e w2 ⟨rfl, hb2⟩
        have HB2 := Lib.hid hb2
        clear hb2
        go_wp2_with fail
        go_ret
        exact ⟨rfl, HB2.out⟩
      · have d1 : decide (b < 0) = false := decide_eq_false hb0
        have d2 : decide (4096 < b) = true := decide_eq_true (by omega)
        have HNW := Lib.hid (fun W => new_no b W hb)
        clear hb hb0
        go_enter Try.func3, Try.ntmps3
        go_wp2_with fail
        refine (HFT.out).mono ?_
        rintro e w0 ⟨rfl, rfl⟩
        go_wp2_with fail
        refine (HNW.out _).mono ?_
        rintro e w1 ⟨rfl, rfl⟩
        go_wp2_with fail
        refine (alive7_any _).mono ?_
        rintro e w2 ⟨rfl, hb2⟩
        have HB2 := Lib.hid hb2
        clear hb2
        go_wp2_with fail
        go_ret
        exact ⟨rfl, HB2.out⟩
  · rw [decide_eq_false hF] at hfit
    have HFT := Lib.hid hfit
    clear hF hfit hN
    go_enter Try.func3, Try.ntmps3
    go_wp2_with fail
    refine (HFT.out).mono ?_
    rintro e w0 ⟨rfl, rfl⟩
    go_wp2_with fail
    refine (alive7_any _).mono ?_
    rintro e w2 ⟨rfl, hb2⟩
    have HB2 := Lib.hid hb2
    clear hb2
    go_wp2_with fail
    go_ret
    exact ⟨rfl, HB2.out⟩
end Go.Proofs.Ytjaedpekbkmokaa
