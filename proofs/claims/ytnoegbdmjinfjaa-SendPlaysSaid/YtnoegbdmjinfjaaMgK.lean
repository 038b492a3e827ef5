/-
  Several texts of mine, one behind the other: SndSaid, SndWant, SndNil, Law20b, FrameA20, SndWhole, SndFollow, SndWent, Cut, Law20h, Law20da.
-/
import Derived.Test.YtnoegbdmjinfjaaMgJ
import Derived.WalkMore
import Derived.BigQuiet
import Derived.Deep.QuietTactic
import Derived.Test.YtnoegbdmjinfjaaProg
import Derived.Deep.LoopGhost
import Derived.Lib.Hide

/-
  Layer 20's laws: what said tells of an act (written by wip/tools/gen20s.py).
-/
namespace Go.Proofs.Ytnoegbdmjinfjaa
set_option maxRecDepth 20000
open Go.RowKit

set_option maxHeartbeats 8000000 in
theorem said20_any (T : Nat) (B : Nat → Prop) (s : Sd) (x : A20) (w : World) (h : SdAt w T B s) (hx : Ok20 w x) (hq : Small20 s) (hlb : x.b.1.length ≤ 1000000) (hap : x.b.1 ≠ [] → ∀ g, x.b.2.ownBlock = some g → ¬ B g) :
    Calls Try.prog 9 #[.pointer (some ⟨T, 0, none⟩), .agg #[.int .u8 x.k, .int .i64 x.id, .int .i64 x.n, .int .i64 x.m, x.b.2, .bool x.last]] w fun e w' => Tell20 (fun W B q => SdAt W T B q) w B s x e w' := by
  obtain ⟨xk, xi, xn, xm, ⟨xb, bv⟩, xl⟩ := x
  have hsl := hx.s
  dsimp only at hsl hlb hap
  obtain ⟨pb, pc, rfl, _⟩ := hsl
  have HX := Lib.hid hx
  have HLb := Lib.hid hlb
  have HApB := Lib.hid hap
  have HQ := Lib.hid hq
  have hx0 := hx.k0
  have hx1 := hx.k1
  dsimp only at hx0 hx1
  obtain ⟨W1, hW1⟩ : ∃ W1, (w.alloc (.cells #[.int .u8 xk, .int .i64 xi, .int .i64 xn, .int .i64 xm, .slice pb xb.length pc, .bool xl] 39)).alloc (.cells #[.int .i64 0, .int .i64 0, .int .i64 0, .slice none 0 0, .int .i64 0, .bool false, .int .i64 0] 36) = W1 := ⟨_, rfl⟩
  have HW1 := Lib.hid (show Below w.heap.size w W1 ∧ W1.heap[w.heap.size]? = some (.cells #[.int .u8 xk, .int .i64 xi, .int .i64 xn, .int .i64 xm, .slice pb xb.length pc, .bool xl] 39 (0, 0)) ∧ W1.heap[w.heap.size + 1]? = some (.cells #[.int .i64 0, .int .i64 0, .int .i64 0, .slice none 0 0, .int .i64 0, .bool false, .int .i64 0] 36 (0, 0)) from by
    rw [← hW1]; exact two_new w _ _ _ _)
  have HS := Lib.hid (show SdAt W1 T B s from h.turn (Turn.of_below (by rw [← hW1]; exact (two_new w _ _ _ _).1) (S := fun _ => False)) (fun _ _ => id))
  have HLt := Lib.hid (show ∀ g, B g → g < w.heap.size from fun g hg => h.lt hg)
  have q0 := blk_cell (j := 0) HW1.out.2.1 rfl
  have q1 := blk_cell (j := 1) HW1.out.2.1 rfl
  have q2 := blk_cell (j := 2) HW1.out.2.1 rfl
  have q3 := blk_cell (j := 3) HW1.out.2.1 rfl
  have q4 := blk_cell (j := 4) HW1.out.2.1 rfl
  have q5 := blk_cell (j := 5) HW1.out.2.1 rfl
  have q6 := (Array.getElem?_eq_some_iff.1 HW1.out.2.1).1
  have q7 := (Array.getElem?_eq_some_iff.1 HW1.out.2.2).1
  have HSz := Lib.hid q7
  obtain ⟨j, hj⟩ : ∃ j, xk % 10 = j := ⟨_, rfl⟩
  have hj0 : 0 ≤ j ∧ j ≤ 9 := by omega
  clear h hx hlb hap hq
  rcases (show j = 0 ∨ j = 1 ∨ j = 2 ∨ j = 3 ∨ j = 4 ∨ j = 5 ∨ j = 6 ∨ j = 7 ∨ j = 8 ∨ j = 9 by omega) with rfl | rfl | rfl | rfl | rfl | rfl | rfl | rfl | rfl | rfl
  · have hjx := hj
    have e0 : (xk % 10 == 0) = true := by rw [hj]; rfl
    have e1 : (xk % 10 == 1) = false := by rw [hj]; rfl
    have e2 : (xk % 10 == 2) = false := by rw [hj]; rfl
    have e3 : (xk % 10 == 3) = false := by rw [hj]; rfl
    have e4 : (xk % 10 == 4) = false := by rw [hj]; rfl
    have e5 : (xk % 10 == 5) = false := by rw [hj]; rfl
    have e6 : (xk % 10 == 6) = false := by rw [hj]; rfl
    go_enter Try.func9, Try.ntmps9
    go_wp2_with fail
    refine (pOpen20 xi xn HS.out HQ.out HX.out.wi HX.out.wn).mono ?_
    rintro e w1 ⟨B', rfl, h1, ht1, hb1⟩
    have HC := Lib.hid (And.intro h1 (And.intro ht1 hb1))
    have HZ := Lib.hid (ht1.obj HW1.out.2.2 (fun e => by have := HLt.out _ e; omega))
    clear h1 ht1 hb1
    go_wp2_with (refine wpList_store_row rfl 36 (.tmp 4) (.tmp 20) rfl (w.heap.size + 1) #[.int .i64 0, .int .i64 0, .int .i64 0, .slice none 0 0, .int .i64 0, .bool false, .int .i64 (openE20 s xi xn)] rfl rfl 36 _ HZ.out (by kernel_rfl) rfl (by simp [Value.oneCell']) ?_)
    have HZ9 := Lib.hid (setRow_heap _ _ _ #[.int .i64 0, .int .i64 0, .int .i64 0, .slice none 0 0, .int .i64 0, .bool false, .int .i64 (openE20 s xi xn)] _ _ HZ.out)
    have HT9 := Lib.hid (show Turn (fun k => k = w.heap.size + 1) w1 (w1.setRow (w.heap.size + 1) #[.int .i64 0, .int .i64 0, .int .i64 0, .slice none 0 0, .int .i64 0, .bool false, .int .i64 (openE20 s xi xn)]) from Turn.of_grown (setRow_grown _ _ _))
    generalize w1.setRow (w.heap.size + 1) #[.int .i64 0, .int .i64 0, .int .i64 0, .slice none 0 0, .int .i64 0, .bool false, .int .i64 (openE20 s xi xn)] = W9 at HZ9 HT9 ⊢
    refine bodyPost_ret (results_row0 rfl _ _ (w.heap.size + 1) 36 #[.int .i64 0, .int .i64 0, .int .i64 0, .slice none 0 0, .int .i64 0, .bool false, .int .i64 (openE20 s xi xn)] (0, 0) _ rfl HZ9.out Try.underlying36 rfl (by kernel_rfl)) rfl ?_
    exact tell_end (O := fun W B q => SdAt W T B q) (s := s) (s' := openQ20 s xi xn) (x := ⟨xk, xi, xn, xm, (xb, .slice pb xb.length pc), xl⟩) (F := Fr.zero) (N := 0) (I := false) (E := (openE20 s xi xn)) (fun _ _ _ _ _ (h1 : SdAt _ T _ _) h2 h3 => h1.turn h2 h3) HLt.out HW1.out.1 HSz.out HC.out.1 HC.out.2.1 HC.out.2.2 HT9.out (by simp [aQ, hjx]) (.slice none 0 0) (Sl.nil _ _) (fun h1 => absurd rfl h1) (by simp [aF, hjx]) (by simp [aN, hjx]) (by simp [aI, hjx]) (by simp [aE, hjx])
  · have hjx := hj
    have e0 : (xk % 10 == 0) = false := by rw [hj]; rfl
    have e1 : (xk % 10 == 1) = true := by rw [hj]; rfl
    have e2 : (xk % 10 == 2) = false := by rw [hj]; rfl
    have e3 : (xk % 10 == 3) = false := by rw [hj]; rfl
    have e4 : (xk % 10 == 4) = false := by rw [hj]; rfl
    have e5 : (xk % 10 == 5) = false := by rw [hj]; rfl
    have e6 : (xk % 10 == 6) = false := by rw [hj]; rfl
    go_enter Try.func9, Try.ntmps9
    go_wp2_with fail
    refine (pHead20 xi _ xb xl HS.out (HX.out.s.below HW1.out.1) (fun h1 g hg e => HApB.out h1 g hg e) HQ.out HX.out.wi HLb.out).mono ?_
    rintro e w1 ⟨B', rfl, h1, ht1, hb1⟩
    have HC := Lib.hid (And.intro h1 (And.intro ht1 hb1))
    have HZ := Lib.hid (ht1.obj HW1.out.2.2 (fun e => by have := HLt.out _ e; omega))
    clear h1 ht1 hb1
    go_wp2_with (refine wpList_store_row rfl 36 (.tmp 4) (.tmp 31) rfl (w.heap.size + 1) #[.int .i64 0, .int .i64 0, .int .i64 0, .slice none 0 0, .int .i64 0, .bool false, .int .i64 (headE20 s xi xb)] rfl rfl 36 _ HZ.out (by kernel_rfl) rfl (by simp [Value.oneCell']) ?_)
    have HZ9 := Lib.hid (setRow_heap _ _ _ #[.int .i64 0, .int .i64 0, .int .i64 0, .slice none 0 0, .int .i64 0, .bool false, .int .i64 (headE20 s xi xb)] _ _ HZ.out)
    have HT9 := Lib.hid (show Turn (fun k => k = w.heap.size + 1) w1 (w1.setRow (w.heap.size + 1) #[.int .i64 0, .int .i64 0, .int .i64 0, .slice none 0 0, .int .i64 0, .bool false, .int .i64 (headE20 s xi xb)]) from Turn.of_grown (setRow_grown _ _ _))
    generalize w1.setRow (w.heap.size + 1) #[.int .i64 0, .int .i64 0, .int .i64 0, .slice none 0 0, .int .i64 0, .bool false, .int .i64 (headE20 s xi xb)] = W9 at HZ9 HT9 ⊢
    refine bodyPost_ret (results_row0 rfl _ _ (w.heap.size + 1) 36 #[.int .i64 0, .int .i64 0, .int .i64 0, .slice none 0 0, .int .i64 0, .bool false, .int .i64 (headE20 s xi xb)] (0, 0) _ rfl HZ9.out Try.underlying36 rfl (by kernel_rfl)) rfl ?_
    exact tell_end (O := fun W B q => SdAt W T B q) (s := s) (s' := headQ20 s xi xb xl) (x := ⟨xk, xi, xn, xm, (xb, .slice pb xb.length pc), xl⟩) (F := Fr.zero) (N := 0) (I := false) (E := (headE20 s xi xb)) (fun _ _ _ _ _ (h1 : SdAt _ T _ _) h2 h3 => h1.turn h2 h3) HLt.out HW1.out.1 HSz.out HC.out.1 HC.out.2.1 HC.out.2.2 HT9.out (by simp [aQ, hjx]) (.slice none 0 0) (Sl.nil _ _) (fun h1 => absurd rfl h1) (by simp [aF, hjx]) (by simp [aN, hjx]) (by simp [aI, hjx]) (by simp [aE, hjx])
  · have hjx := hj
    have e0 : (xk % 10 == 0) = false := by rw [hj]; rfl
    have e1 : (xk % 10 == 1) = false := by rw [hj]; rfl
    have e2 : (xk % 10 == 2) = true := by rw [hj]; rfl
    have e3 : (xk % 10 == 3) = false := by rw [hj]; rfl
    have e4 : (xk % 10 == 4) = false := by rw [hj]; rfl
    have e5 : (xk % 10 == 5) = false := by rw [hj]; rfl
    have e6 : (xk % 10 == 6) = false := by rw [hj]; rfl
    go_enter Try.func9, Try.ntmps9
    go_wp2_with fail
    refine (pData20 xi _ xb xl HS.out (HX.out.s.below HW1.out.1) (fun h1 g hg e => HApB.out h1 g hg e) HQ.out HX.out.wi HLb.out).mono ?_
    rintro e w1 ⟨B', rfl, h1, ht1, hb1⟩
    have HC := Lib.hid (And.intro h1 (And.intro ht1 hb1))
    have HZ := Lib.hid (ht1.obj HW1.out.2.2 (fun e => by have := HLt.out _ e; omega))
    clear h1 ht1 hb1
    go_wp2_with (refine wpList_store_row rfl 36 (.tmp 4) (.tmp 43) rfl (w.heap.size + 1) #[.int .i64 0, .int .i64 0, .int .i64 0, .slice none 0 0, .int .i64 0, .bool false, .int .i64 (dataE20 s xi xb)] rfl rfl 36 _ HZ.out (by kernel_rfl) rfl (by simp [Value.oneCell']) ?_)
    have HZ9 := Lib.hid (setRow_heap _ _ _ #[.int .i64 0, .int .i64 0, .int .i64 0, .slice none 0 0, .int .i64 0, .bool false, .int .i64 (dataE20 s xi xb)] _ _ HZ.out)
    have HT9 := Lib.hid (show Turn (fun k => k = w.heap.size + 1) w1 (w1.setRow (w.heap.size + 1) #[.int .i64 0, .int .i64 0, .int .i64 0, .slice none 0 0, .int .i64 0, .bool false, .int .i64 (dataE20 s xi xb)]) from Turn.of_grown (setRow_grown _ _ _))
    generalize w1.setRow (w.heap.size + 1) #[.int .i64 0, .int .i64 0, .int .i64 0, .slice none 0 0, .int .i64 0, .bool false, .int .i64 (dataE20 s xi xb)] = W9 at HZ9 HT9 ⊢
    refine bodyPost_ret (results_row0 rfl _ _ (w.heap.size + 1) 36 #[.int .i64 0, .int .i64 0, .int .i64 0, .slice none 0 0, .int .i64 0, .bool false, .int .i64 (dataE20 s xi xb)] (0, 0) _ rfl HZ9.out Try.underlying36 rfl (by kernel_rfl)) rfl ?_
    exact tell_end (O := fun W B q => SdAt W T B q) (s := s) (s' := dataQ20 s xi xb xl) (x := ⟨xk, xi, xn, xm, (xb, .slice pb xb.length pc), xl⟩) (F := Fr.zero) (N := 0) (I := false) (E := (dataE20 s xi xb)) (fun _ _ _ _ _ (h1 : SdAt _ T _ _) h2 h3 => h1.turn h2 h3) HLt.out HW1.out.1 HSz.out HC.out.1 HC.out.2.1 HC.out.2.2 HT9.out (by simp [aQ, hjx]) (.slice none 0 0) (Sl.nil _ _) (fun h1 => absurd rfl h1) (by simp [aF, hjx]) (by simp [aN, hjx]) (by simp [aI, hjx]) (by simp [aE, hjx])
  · have hjx := hj
    have e0 : (xk % 10 == 0) = false := by rw [hj]; rfl
    have e1 : (xk % 10 == 1) = false := by rw [hj]; rfl
    have e2 : (xk % 10 == 2) = false := by rw [hj]; rfl
    have e3 : (xk % 10 == 3) = true := by rw [hj]; rfl
    have e4 : (xk % 10 == 4) = false := by rw [hj]; rfl
    have e5 : (xk % 10 == 5) = false := by rw [hj]; rfl
    have e6 : (xk % 10 == 6) = false := by rw [hj]; rfl
    go_enter Try.func9, Try.ntmps9
    go_wp2_with fail
    refine (pData20 xi _ xb xl HS.out (HX.out.s.below HW1.out.1) (fun h1 g hg e => HApB.out h1 g hg e) HQ.out HX.out.wi HLb.out).mono ?_
    rintro e w1 ⟨B', rfl, h1, ht1, hb1⟩
    have HC := Lib.hid (And.intro h1 (And.intro ht1 hb1))
    have HZ := Lib.hid (ht1.obj HW1.out.2.2 (fun e => by have := HLt.out _ e; omega))
    clear h1 ht1 hb1
    go_wp2_with (refine wpList_store_row rfl 36 (.tmp 4) (.tmp 43) rfl (w.heap.size + 1) #[.int .i64 0, .int .i64 0, .int .i64 0, .slice none 0 0, .int .i64 0, .bool false, .int .i64 (dataE20 s xi xb)] rfl rfl 36 _ HZ.out (by kernel_rfl) rfl (by simp [Value.oneCell']) ?_)
    have HZ9 := Lib.hid (setRow_heap _ _ _ #[.int .i64 0, .int .i64 0, .int .i64 0, .slice none 0 0, .int .i64 0, .bool false, .int .i64 (dataE20 s xi xb)] _ _ HZ.out)
    have HT9 := Lib.hid (show Turn (fun k => k = w.heap.size + 1) w1 (w1.setRow (w.heap.size + 1) #[.int .i64 0, .int .i64 0, .int .i64 0, .slice none 0 0, .int .i64 0, .bool false, .int .i64 (dataE20 s xi xb)]) from Turn.of_grown (setRow_grown _ _ _))
    generalize w1.setRow (w.heap.size + 1) #[.int .i64 0, .int .i64 0, .int .i64 0, .slice none 0 0, .int .i64 0, .bool false, .int .i64 (dataE20 s xi xb)] = W9 at HZ9 HT9 ⊢
    refine bodyPost_ret (results_row0 rfl _ _ (w.heap.size + 1) 36 #[.int .i64 0, .int .i64 0, .int .i64 0, .slice none 0 0, .int .i64 0, .bool false, .int .i64 (dataE20 s xi xb)] (0, 0) _ rfl HZ9.out Try.underlying36 rfl (by kernel_rfl)) rfl ?_
    exact tell_end (O := fun W B q => SdAt W T B q) (s := s) (s' := dataQ20 s xi xb xl) (x := ⟨xk, xi, xn, xm, (xb, .slice pb xb.length pc), xl⟩) (F := Fr.zero) (N := 0) (I := false) (E := (dataE20 s xi xb)) (fun _ _ _ _ _ (h1 : SdAt _ T _ _) h2 h3 => h1.turn h2 h3) HLt.out HW1.out.1 HSz.out HC.out.1 HC.out.2.1 HC.out.2.2 HT9.out (by simp [aQ, hjx]) (.slice none 0 0) (Sl.nil _ _) (fun h1 => absurd rfl h1) (by simp [aF, hjx]) (by simp [aN, hjx]) (by simp [aI, hjx]) (by simp [aE, hjx])
  · have hjx := hj
    have e0 : (xk % 10 == 0) = false := by rw [hj]; rfl
    have e1 : (xk % 10 == 1) = false := by rw [hj]; rfl
    have e2 : (xk % 10 == 2) = false := by rw [hj]; rfl
    have e3 : (xk % 10 == 3) = false := by rw [hj]; rfl
    have e4 : (xk % 10 == 4) = true := by rw [hj]; rfl
    have e5 : (xk % 10 == 5) = false := by rw [hj]; rfl
    have e6 : (xk % 10 == 6) = false := by rw [hj]; rfl
    go_enter Try.func9, Try.ntmps9
    go_wp2_with fail
    refine (pGrow20 xi xn HS.out HQ.out HX.out.wi HX.out.wn).mono ?_
    rintro e w1 ⟨B', rfl, h1, ht1, hb1⟩
    have HC := Lib.hid (And.intro h1 (And.intro ht1 hb1))
    have HZ := Lib.hid (ht1.obj HW1.out.2.2 (fun e => by have := HLt.out _ e; omega))
    clear h1 ht1 hb1
    go_wp2_with (refine wpList_store_row rfl 36 (.tmp 4) (.tmp 57) rfl (w.heap.size + 1) #[.int .i64 0, .int .i64 0, .int .i64 0, .slice none 0 0, .int .i64 0, .bool (growO20 s xi xn), .int .i64 (growE20 s xi)] rfl rfl 36 _ HZ.out (by kernel_rfl) rfl (by simp [Value.oneCell']) ?_)
    have HZ9 := Lib.hid (setRow_heap _ _ _ #[.int .i64 0, .int .i64 0, .int .i64 0, .slice none 0 0, .int .i64 0, .bool (growO20 s xi xn), .int .i64 (growE20 s xi)] _ _ HZ.out)
    have HT9 := Lib.hid (show Turn (fun k => k = w.heap.size + 1) w1 (w1.setRow (w.heap.size + 1) #[.int .i64 0, .int .i64 0, .int .i64 0, .slice none 0 0, .int .i64 0, .bool (growO20 s xi xn), .int .i64 (growE20 s xi)]) from Turn.of_grown (setRow_grown _ _ _))
    generalize w1.setRow (w.heap.size + 1) #[.int .i64 0, .int .i64 0, .int .i64 0, .slice none 0 0, .int .i64 0, .bool (growO20 s xi xn), .int .i64 (growE20 s xi)] = W9 at HZ9 HT9 ⊢
    refine bodyPost_ret (results_row0 rfl _ _ (w.heap.size + 1) 36 #[.int .i64 0, .int .i64 0, .int .i64 0, .slice none 0 0, .int .i64 0, .bool (growO20 s xi xn), .int .i64 (growE20 s xi)] (0, 0) _ rfl HZ9.out Try.underlying36 rfl (by kernel_rfl)) rfl ?_
    exact tell_end (O := fun W B q => SdAt W T B q) (s := s) (s' := growQ20 s xi xn) (x := ⟨xk, xi, xn, xm, (xb, .slice pb xb.length pc), xl⟩) (F := Fr.zero) (N := 0) (I := growO20 s xi xn) (E := growE20 s xi) (fun _ _ _ _ _ (h1 : SdAt _ T _ _) h2 h3 => h1.turn h2 h3) HLt.out HW1.out.1 HSz.out HC.out.1 HC.out.2.1 HC.out.2.2 HT9.out (by simp [aQ, hjx]) (.slice none 0 0) (Sl.nil _ _) (fun h1 => absurd rfl h1) (by simp [aF, hjx]) (by simp [aN, hjx]) (by simp [aI, hjx]) (by simp [aE, hjx])
  · have hjx := hj
    have e0 : (xk % 10 == 0) = false := by rw [hj]; rfl
    have e1 : (xk % 10 == 1) = false := by rw [hj]; rfl
    have e2 : (xk % 10 == 2) = false := by rw [hj]; rfl
    have e3 : (xk % 10 == 3) = false := by rw [hj]; rfl
    have e4 : (xk % 10 == 4) = false := by rw [hj]; rfl
    have e5 : (xk % 10 == 5) = true := by rw [hj]; rfl
    have e6 : (xk % 10 == 6) = false := by rw [hj]; rfl
    go_enter Try.func9, Try.ntmps9
    go_wp2_with fail
    refine (pShift20 xn HS.out HQ.out HX.out.wn).mono ?_
    rintro e w1 ⟨B', rfl, h1, ht1, hb1⟩
    have HC := Lib.hid (And.intro h1 (And.intro ht1 hb1))
    have HZ := Lib.hid (ht1.obj HW1.out.2.2 (fun e => by have := HLt.out _ e; omega))
    clear h1 ht1 hb1
    go_wp2_with (refine wpList_store_row rfl 36 (.tmp 4) (.tmp 64) rfl (w.heap.size + 1) #[.int .i64 0, .int .i64 0, .int .i64 0, .slice none 0 0, .int .i64 (shiftN s.l xn), .bool false, .int .i64 0] rfl rfl 36 _ HZ.out (by kernel_rfl) rfl (by simp [Value.oneCell']) ?_)
    have HZ9 := Lib.hid (setRow_heap _ _ _ #[.int .i64 0, .int .i64 0, .int .i64 0, .slice none 0 0, .int .i64 (shiftN s.l xn), .bool false, .int .i64 0] _ _ HZ.out)
    have HT9 := Lib.hid (show Turn (fun k => k = w.heap.size + 1) w1 (w1.setRow (w.heap.size + 1) #[.int .i64 0, .int .i64 0, .int .i64 0, .slice none 0 0, .int .i64 (shiftN s.l xn), .bool false, .int .i64 0]) from Turn.of_grown (setRow_grown _ _ _))
    generalize w1.setRow (w.heap.size + 1) #[.int .i64 0, .int .i64 0, .int .i64 0, .slice none 0 0, .int .i64 (shiftN s.l xn), .bool false, .int .i64 0] = W9 at HZ9 HT9 ⊢
    refine bodyPost_ret (results_row0 rfl _ _ (w.heap.size + 1) 36 #[.int .i64 0, .int .i64 0, .int .i64 0, .slice none 0 0, .int .i64 (shiftN s.l xn), .bool false, .int .i64 0] (0, 0) _ rfl HZ9.out Try.underlying36 rfl (by kernel_rfl)) rfl ?_
    exact tell_end (O := fun W B q => SdAt W T B q) (s := s) (s' := shiftS s xn) (x := ⟨xk, xi, xn, xm, (xb, .slice pb xb.length pc), xl⟩) (F := Fr.zero) (N := (shiftN s.l xn)) (I := false) (E := 0) (fun _ _ _ _ _ (h1 : SdAt _ T _ _) h2 h3 => h1.turn h2 h3) HLt.out HW1.out.1 HSz.out HC.out.1 HC.out.2.1 HC.out.2.2 HT9.out (by simp [aQ, hjx]) (.slice none 0 0) (Sl.nil _ _) (fun h1 => absurd rfl h1) (by simp [aF, hjx]) (by simp [aN, hjx]) (by simp [aI, hjx]) (by simp [aE, hjx])
  · have hjx := hj
    have e0 : (xk % 10 == 0) = false := by rw [hj]; rfl
    have e1 : (xk % 10 == 1) = false := by rw [hj]; rfl
    have e2 : (xk % 10 == 2) = false := by rw [hj]; rfl
    have e3 : (xk % 10 == 3) = false := by rw [hj]; rfl
    have e4 : (xk % 10 == 4) = false := by rw [hj]; rfl
    have e5 : (xk % 10 == 5) = false := by rw [hj]; rfl
    have e6 : (xk % 10 == 6) = true := by rw [hj]; rfl
    go_enter Try.func9, Try.ntmps9
    go_wp2_with fail
    refine (pDrop20 xi HS.out HQ.out HX.out.wi).mono ?_
    rintro e w1 ⟨B', rfl, h1, ht1, hb1⟩
    have HC := Lib.hid (And.intro h1 (And.intro ht1 hb1))
    have HZ := Lib.hid (ht1.obj HW1.out.2.2 (fun e => by have := HLt.out _ e; omega))
    clear h1 ht1 hb1
    go_wp2_with (refine wpList_store_row rfl 36 (.tmp 4) (.tmp 71) rfl (w.heap.size + 1) #[.int .i64 0, .int .i64 0, .int .i64 0, .slice none 0 0, .int .i64 0, .bool false, .int .i64 (dropE20 s xi)] rfl rfl 36 _ HZ.out (by kernel_rfl) rfl (by simp [Value.oneCell']) ?_)
    have HZ9 := Lib.hid (setRow_heap _ _ _ #[.int .i64 0, .int .i64 0, .int .i64 0, .slice none 0 0, .int .i64 0, .bool false, .int .i64 (dropE20 s xi)] _ _ HZ.out)
    have HT9 := Lib.hid (show Turn (fun k => k = w.heap.size + 1) w1 (w1.setRow (w.heap.size + 1) #[.int .i64 0, .int .i64 0, .int .i64 0, .slice none 0 0, .int .i64 0, .bool false, .int .i64 (dropE20 s xi)]) from Turn.of_grown (setRow_grown _ _ _))
    generalize w1.setRow (w.heap.size + 1) #[.int .i64 0, .int .i64 0, .int .i64 0, .slice none 0 0, .int .i64 0, .bool false, .int .i64 (dropE20 s xi)] = W9 at HZ9 HT9 ⊢
    refine bodyPost_ret (results_row0 rfl _ _ (w.heap.size + 1) 36 #[.int .i64 0, .int .i64 0, .int .i64 0, .slice none 0 0, .int .i64 0, .bool false, .int .i64 (dropE20 s xi)] (0, 0) _ rfl HZ9.out Try.underlying36 rfl (by kernel_rfl)) rfl ?_
    exact tell_end (O := fun W B q => SdAt W T B q) (s := s) (s' := dropS s xi) (x := ⟨xk, xi, xn, xm, (xb, .slice pb xb.length pc), xl⟩) (F := Fr.zero) (N := 0) (I := false) (E := (dropE20 s xi)) (fun _ _ _ _ _ (h1 : SdAt _ T _ _) h2 h3 => h1.turn h2 h3) HLt.out HW1.out.1 HSz.out HC.out.1 HC.out.2.1 HC.out.2.2 HT9.out (by simp [aQ, hjx]) (.slice none 0 0) (Sl.nil _ _) (fun h1 => absurd rfl h1) (by simp [aF, hjx]) (by simp [aN, hjx]) (by simp [aI, hjx]) (by simp [aE, hjx])
  · have hjx := hj
    have e0 : (xk % 10 == 0) = false := by rw [hj]; rfl
    have e1 : (xk % 10 == 1) = false := by rw [hj]; rfl
    have e2 : (xk % 10 == 2) = false := by rw [hj]; rfl
    have e3 : (xk % 10 == 3) = false := by rw [hj]; rfl
    have e4 : (xk % 10 == 4) = false := by rw [hj]; rfl
    have e5 : (xk % 10 == 5) = false := by rw [hj]; rfl
    have e6 : (xk % 10 == 6) = false := by rw [hj]; rfl
    go_enter Try.func9, Try.ntmps9
    go_wp2_with fail
    refine (pNext20 xn xm HS.out ⟨HX.out.wn, HX.out.wm⟩ HQ.out).mono ?_
    rintro e w1 ⟨fv, B', rfl, hfk, h1, ht1, hb1⟩
    obtain ⟨F, hF⟩ : ∃ F, nextF20 s xn xm = F := ⟨_, rfl⟩
    rw [hF] at hfk
    obtain ⟨pv, rfl, hp, hpb⟩ := hfk
    obtain ⟨ap, cp, rfl, _⟩ := (show _ from hp)
    have HC := Lib.hid (And.intro h1 (And.intro ht1 hb1))
    have HFe := Lib.hid hF
    have HPv := Lib.hid (And.intro hp hpb)
    obtain ⟨W2, hW2⟩ : ∃ W2, w1.alloc (.cells #[.int .i64 F.kind, .int .i64 F.flags, .int .i64 F.stream, .slice ap F.pay.length cp] 34) = W2 := ⟨_, rfl⟩
    have HB2 := Lib.hid (show Below w1.heap.size w1 W2 ∧ W2.heap[w1.heap.size]? = some (.cells #[.int .i64 F.kind, .int .i64 F.flags, .int .i64 F.stream, .slice ap F.pay.length cp] 34 (0, 0)) from by rw [← hW2]; exact ⟨(Below.refl _ _).alloc (Nat.le_refl _) _, heap_alloc_new _ _⟩)
    have hz1 := ht1.obj HW1.out.2.2 (fun e => by have := HLt.out _ e; omega)
    have HZ := Lib.hid ((HB2.out.1.block _ (Array.getElem?_eq_some_iff.1 hz1).1).trans hz1)
    have y0 : W2.cell? ⟨w1.heap.size, 0, none⟩ = some (.int .i64 F.kind) := blk_cell (j := 0) HB2.out.2 rfl
    have y1 : W2.cell? ⟨w1.heap.size, 1, none⟩ = some (.int .i64 F.flags) := blk_cell (j := 1) HB2.out.2 rfl
    have y2 : W2.cell? ⟨w1.heap.size, 2, none⟩ = some (.int .i64 F.stream) := blk_cell (j := 2) HB2.out.2 rfl
    have y3 : W2.cell? ⟨w1.heap.size, 3, none⟩ = some (.slice ap F.pay.length cp) := blk_cell (j := 3) HB2.out.2 rfl
    have y4 := (Array.getElem?_eq_some_iff.1 HB2.out.2).1
    clear h1 ht1 hb1 hp hpb hF hz1
    go_wp2_with (refine wpList_store_row rfl 36 (.tmp 4) (.tmp 83) rfl (w.heap.size + 1) #[.int .i64 F.kind, .int .i64 F.flags, .int .i64 F.stream, .slice ap F.pay.length cp, .int .i64 0, .bool (nextO s xn xm), .int .i64 0] rfl rfl 36 _ HZ.out (by kernel_rfl) rfl (by simp [Value.oneCell']) ?_)
    have HZ9 := Lib.hid (setRow_heap _ _ _ #[.int .i64 F.kind, .int .i64 F.flags, .int .i64 F.stream, .slice ap F.pay.length cp, .int .i64 0, .bool (nextO s xn xm), .int .i64 0] _ _ HZ.out)
    have HT9 := Lib.hid (show Turn (fun k => k = w.heap.size + 1) W2 (W2.setRow (w.heap.size + 1) #[.int .i64 F.kind, .int .i64 F.flags, .int .i64 F.stream, .slice ap F.pay.length cp, .int .i64 0, .bool (nextO s xn xm), .int .i64 0]) from Turn.of_grown (setRow_grown _ _ _))
    generalize W2.setRow (w.heap.size + 1) #[.int .i64 F.kind, .int .i64 F.flags, .int .i64 F.stream, .slice ap F.pay.length cp, .int .i64 0, .bool (nextO s xn xm), .int .i64 0] = W9 at HZ9 HT9 ⊢
    refine bodyPost_ret (results_row0 rfl _ _ (w.heap.size + 1) 36 #[.int .i64 F.kind, .int .i64 F.flags, .int .i64 F.stream, .slice ap F.pay.length cp, .int .i64 0, .bool (nextO s xn xm), .int .i64 0] (0, 0) _ rfl HZ9.out Try.underlying36 rfl (by kernel_rfl)) rfl ?_
    exact tell_end (O := fun W B q => SdAt W T B q) (s := s) (s' := nextS s xn xm) (x := ⟨xk, xi, xn, xm, (xb, .slice pb xb.length pc), xl⟩) (F := F) (N := 0) (I := nextO s xn xm) (E := 0) (fun _ _ _ _ _ (h1 : SdAt _ T _ _) h2 h3 => h1.turn h2 h3) HLt.out HW1.out.1 HSz.out (HC.out.1.turn (Turn.of_below HB2.out.1 (S := fun _ => False)) (fun _ _ => id)) (HC.out.2.1.trans (Turn.of_below HB2.out.1)) HC.out.2.2 HT9.out (by simp [aQ, hjx]) (.slice ap F.pay.length cp) (HPv.out.1.below HB2.out.1) (fun h1 g hg => ((HPv.out.2 h1 g hg).imp_right id)) (by simp [aF, hjx]; exact HFe.out) (by simp [aN, hjx]) (by simp [aI, hjx]) (by simp [aE, hjx])
  · have hjx := hj
    have e0 : (xk % 10 == 0) = false := by rw [hj]; rfl
    have e1 : (xk % 10 == 1) = false := by rw [hj]; rfl
    have e2 : (xk % 10 == 2) = false := by rw [hj]; rfl
    have e3 : (xk % 10 == 3) = false := by rw [hj]; rfl
    have e4 : (xk % 10 == 4) = false := by rw [hj]; rfl
    have e5 : (xk % 10 == 5) = false := by rw [hj]; rfl
    have e6 : (xk % 10 == 6) = false := by rw [hj]; rfl
    go_enter Try.func9, Try.ntmps9
    go_wp2_with fail
    refine (pNext20 xn xm HS.out ⟨HX.out.wn, HX.out.wm⟩ HQ.out).mono ?_
    rintro e w1 ⟨fv, B', rfl, hfk, h1, ht1, hb1⟩
    obtain ⟨F, hF⟩ : ∃ F, nextF20 s xn xm = F := ⟨_, rfl⟩
    rw [hF] at hfk
    obtain ⟨pv, rfl, hp, hpb⟩ := hfk
    obtain ⟨ap, cp, rfl, _⟩ := (show _ from hp)
    have HC := Lib.hid (And.intro h1 (And.intro ht1 hb1))
    have HFe := Lib.hid hF
    have HPv := Lib.hid (And.intro hp hpb)
    obtain ⟨W2, hW2⟩ : ∃ W2, w1.alloc (.cells #[.int .i64 F.kind, .int .i64 F.flags, .int .i64 F.stream, .slice ap F.pay.length cp] 34) = W2 := ⟨_, rfl⟩
    have HB2 := Lib.hid (show Below w1.heap.size w1 W2 ∧ W2.heap[w1.heap.size]? = some (.cells #[.int .i64 F.kind, .int .i64 F.flags, .int .i64 F.stream, .slice ap F.pay.length cp] 34 (0, 0)) from by rw [← hW2]; exact ⟨(Below.refl _ _).alloc (Nat.le_refl _) _, heap_alloc_new _ _⟩)
    have hz1 := ht1.obj HW1.out.2.2 (fun e => by have := HLt.out _ e; omega)
    have HZ := Lib.hid ((HB2.out.1.block _ (Array.getElem?_eq_some_iff.1 hz1).1).trans hz1)
    have y0 : W2.cell? ⟨w1.heap.size, 0, none⟩ = some (.int .i64 F.kind) := blk_cell (j := 0) HB2.out.2 rfl
    have y1 : W2.cell? ⟨w1.heap.size, 1, none⟩ = some (.int .i64 F.flags) := blk_cell (j := 1) HB2.out.2 rfl
    have y2 : W2.cell? ⟨w1.heap.size, 2, none⟩ = some (.int .i64 F.stream) := blk_cell (j := 2) HB2.out.2 rfl
    have y3 : W2.cell? ⟨w1.heap.size, 3, none⟩ = some (.slice ap F.pay.length cp) := blk_cell (j := 3) HB2.out.2 rfl
    have y4 := (Array.getElem?_eq_some_iff.1 HB2.out.2).1
    clear h1 ht1 hb1 hp hpb hF hz1
    go_wp2_with (refine wpList_store_row rfl 36 (.tmp 4) (.tmp 83) rfl (w.heap.size + 1) #[.int .i64 F.kind, .int .i64 F.flags, .int .i64 F.stream, .slice ap F.pay.length cp, .int .i64 0, .bool (nextO s xn xm), .int .i64 0] rfl rfl 36 _ HZ.out (by kernel_rfl) rfl (by simp [Value.oneCell']) ?_)
    have HZ9 := Lib.hid (setRow_heap _ _ _ #[.int .i64 F.kind, .int .i64 F.flags, .int .i64 F.stream, .slice ap F.pay.length cp, .int .i64 0, .bool (nextO s xn xm), .int .i64 0] _ _ HZ.out)
    have HT9 := Lib.hid (show Turn (fun k => k = w.heap.size + 1) W2 (W2.setRow (w.heap.size + 1) #[.int .i64 F.kind, .int .i64 F.flags, .int .i64 F.stream, .slice ap F.pay.length cp, .int .i64 0, .bool (nextO s xn xm), .int .i64 0]) from Turn.of_grown (setRow_grown _ _ _))
    generalize W2.setRow (w.heap.size + 1) #[.int .i64 F.kind, .int .i64 F.flags, .int .i64 F.stream, .slice ap F.pay.length cp, .int .i64 0, .bool (nextO s xn xm), .int .i64 0] = W9 at HZ9 HT9 ⊢
    refine bodyPost_ret (results_row0 rfl _ _ (w.heap.size + 1) 36 #[.int .i64 F.kind, .int .i64 F.flags, .int .i64 F.stream, .slice ap F.pay.length cp, .int .i64 0, .bool (nextO s xn xm), .int .i64 0] (0, 0) _ rfl HZ9.out Try.underlying36 rfl (by kernel_rfl)) rfl ?_
    exact tell_end (O := fun W B q => SdAt W T B q) (s := s) (s' := nextS s xn xm) (x := ⟨xk, xi, xn, xm, (xb, .slice pb xb.length pc), xl⟩) (F := F) (N := 0) (I := nextO s xn xm) (E := 0) (fun _ _ _ _ _ (h1 : SdAt _ T _ _) h2 h3 => h1.turn h2 h3) HLt.out HW1.out.1 HSz.out (HC.out.1.turn (Turn.of_below HB2.out.1 (S := fun _ => False)) (fun _ _ => id)) (HC.out.2.1.trans (Turn.of_below HB2.out.1)) HC.out.2.2 HT9.out (by simp [aQ, hjx]) (.slice ap F.pay.length cp) (HPv.out.1.below HB2.out.1) (fun h1 g hg => ((HPv.out.2 h1 g hg).imp_right id)) (by simp [aF, hjx]; exact HFe.out) (by simp [aN, hjx]) (by simp [aI, hjx]) (by simp [aE, hjx])
  · have hjx := hj
    have e0 : (xk % 10 == 0) = false := by rw [hj]; rfl
    have e1 : (xk % 10 == 1) = false := by rw [hj]; rfl
    have e2 : (xk % 10 == 2) = false := by rw [hj]; rfl
    have e3 : (xk % 10 == 3) = false := by rw [hj]; rfl
    have e4 : (xk % 10 == 4) = false := by rw [hj]; rfl
    have e5 : (xk % 10 == 5) = false := by rw [hj]; rfl
    have e6 : (xk % 10 == 6) = false := by rw [hj]; rfl
    go_enter Try.func9, Try.ntmps9
    go_wp2_with fail
    refine (pNext20 xn xm HS.out ⟨HX.out.wn, HX.out.wm⟩ HQ.out).mono ?_
    rintro e w1 ⟨fv, B', rfl, hfk, h1, ht1, hb1⟩
    obtain ⟨F, hF⟩ : ∃ F, nextF20 s xn xm = F := ⟨_, rfl⟩
    rw [hF] at hfk
    obtain ⟨pv, rfl, hp, hpb⟩ := hfk
    obtain ⟨ap, cp, rfl, _⟩ := (show _ from hp)
    have HC := Lib.hid (And.intro h1 (And.intro ht1 hb1))
    have HFe := Lib.hid hF
    have HPv := Lib.hid (And.intro hp hpb)
    obtain ⟨W2, hW2⟩ : ∃ W2, w1.alloc (.cells #[.int .i64 F.kind, .int .i64 F.flags, .int .i64 F.stream, .slice ap F.pay.length cp] 34) = W2 := ⟨_, rfl⟩
    have HB2 := Lib.hid (show Below w1.heap.size w1 W2 ∧ W2.heap[w1.heap.size]? = some (.cells #[.int .i64 F.kind, .int .i64 F.flags, .int .i64 F.stream, .slice ap F.pay.length cp] 34 (0, 0)) from by rw [← hW2]; exact ⟨(Below.refl _ _).alloc (Nat.le_refl _) _, heap_alloc_new _ _⟩)
    have hz1 := ht1.obj HW1.out.2.2 (fun e => by have := HLt.out _ e; omega)
    have HZ := Lib.hid ((HB2.out.1.block _ (Array.getElem?_eq_some_iff.1 hz1).1).trans hz1)
    have y0 : W2.cell? ⟨w1.heap.size, 0, none⟩ = some (.int .i64 F.kind) := blk_cell (j := 0) HB2.out.2 rfl
    have y1 : W2.cell? ⟨w1.heap.size, 1, none⟩ = some (.int .i64 F.flags) := blk_cell (j := 1) HB2.out.2 rfl
    have y2 : W2.cell? ⟨w1.heap.size, 2, none⟩ = some (.int .i64 F.stream) := blk_cell (j := 2) HB2.out.2 rfl
    have y3 : W2.cell? ⟨w1.heap.size, 3, none⟩ = some (.slice ap F.pay.length cp) := blk_cell (j := 3) HB2.out.2 rfl
    have y4 := (Array.getElem?_eq_some_iff.1 HB2.out.2).1
    clear h1 ht1 hb1 hp hpb hF hz1
    go_wp2_with (refine wpList_store_row rfl 36 (.tmp 4) (.tmp 83) rfl (w.heap.size + 1) #[.int .i64 F.kind, .int .i64 F.flags, .int .i64 F.stream, .slice ap F.pay.length cp, .int .i64 0, .bool (nextO s xn xm), .int .i64 0] rfl rfl 36 _ HZ.out (by kernel_rfl) rfl (by simp [Value.oneCell']) ?_)
    have HZ9 := Lib.hid (setRow_heap _ _ _ #[.int .i64 F.kind, .int .i64 F.flags, .int .i64 F.stream, .slice ap F.pay.length cp, .int .i64 0, .bool (nextO s xn xm), .int .i64 0] _ _ HZ.out)
    have HT9 := Lib.hid (show Turn (fun k => k = w.heap.size + 1) W2 (W2.setRow (w.heap.size + 1) #[.int .i64 F.kind, .int .i64 F.flags, .int .i64 F.stream, .slice ap F.pay.length cp, .int .i64 0, .bool (nextO s xn xm), .int .i64 0]) from Turn.of_grown (setRow_grown _ _ _))
    generalize W2.setRow (w.heap.size + 1) #[.int .i64 F.kind, .int .i64 F.flags, .int .i64 F.stream, .slice ap F.pay.length cp, .int .i64 0, .bool (nextO s xn xm), .int .i64 0] = W9 at HZ9 HT9 ⊢
    refine bodyPost_ret (results_row0 rfl _ _ (w.heap.size + 1) 36 #[.int .i64 F.kind, .int .i64 F.flags, .int .i64 F.stream, .slice ap F.pay.length cp, .int .i64 0, .bool (nextO s xn xm), .int .i64 0] (0, 0) _ rfl HZ9.out Try.underlying36 rfl (by kernel_rfl)) rfl ?_
    exact tell_end (O := fun W B q => SdAt W T B q) (s := s) (s' := nextS s xn xm) (x := ⟨xk, xi, xn, xm, (xb, .slice pb xb.length pc), xl⟩) (F := F) (N := 0) (I := nextO s xn xm) (E := 0) (fun _ _ _ _ _ (h1 : SdAt _ T _ _) h2 h3 => h1.turn h2 h3) HLt.out HW1.out.1 HSz.out (HC.out.1.turn (Turn.of_below HB2.out.1 (S := fun _ => False)) (fun _ _ => id)) (HC.out.2.1.trans (Turn.of_below HB2.out.1)) HC.out.2.2 HT9.out (by simp [aQ, hjx]) (.slice ap F.pay.length cp) (HPv.out.1.below HB2.out.1) (fun h1 g hg => ((HPv.out.2 h1 g hg).imp_right id)) (by simp [aF, hjx]; exact HFe.out) (by simp [aN, hjx]) (by simp [aI, hjx]) (by simp [aE, hjx])
end Go.Proofs.Ytnoegbdmjinfjaa

/-
  Layer 20's laws: what want tells of an act (written by wip/tools/gen20s.py).
-/
namespace Go.Proofs.Ytnoegbdmjinfjaa
set_option maxRecDepth 20000
open Go.RowKit

set_option maxHeartbeats 8000000 in
theorem want20_any (T : Nat) (B : Nat → Prop) (s : Sd) (x : A20) (w : World) (h : RsAt w T B s) (hx : Ok20 w x) (hq : Small20 s) (hlb : x.b.1.length ≤ 1000000) (hap : x.b.1 ≠ [] → ∀ g, x.b.2.ownBlock = some g → ¬ B g) :
    Calls Try.prog 10 #[.pointer (some ⟨T, 0, none⟩), .agg #[.int .u8 x.k, .int .i64 x.id, .int .i64 x.n, .int .i64 x.m, x.b.2, .bool x.last]] w fun e w' => Tell20 (fun W B q => RsAt W T B q) w B s x e w' := by
  obtain ⟨xk, xi, xn, xm, ⟨xb, bv⟩, xl⟩ := x
  have hsl := hx.s
  dsimp only at hsl hlb hap
  obtain ⟨pb, pc, rfl, _⟩ := hsl
  have HX := Lib.hid hx
  have HLb := Lib.hid hlb
  have HApB := Lib.hid hap
  have HQ := Lib.hid hq
  have hx0 := hx.k0
  have hx1 := hx.k1
  dsimp only at hx0 hx1
  obtain ⟨W1, hW1⟩ : ∃ W1, (w.alloc (.cells #[.int .u8 xk, .int .i64 xi, .int .i64 xn, .int .i64 xm, .slice pb xb.length pc, .bool xl] 39)).alloc (.cells #[.int .i64 0, .int .i64 0, .int .i64 0, .slice none 0 0, .int .i64 0, .bool false, .int .i64 0] 36) = W1 := ⟨_, rfl⟩
  have HW1 := Lib.hid (show Below w.heap.size w W1 ∧ W1.heap[w.heap.size]? = some (.cells #[.int .u8 xk, .int .i64 xi, .int .i64 xn, .int .i64 xm, .slice pb xb.length pc, .bool xl] 39 (0, 0)) ∧ W1.heap[w.heap.size + 1]? = some (.cells #[.int .i64 0, .int .i64 0, .int .i64 0, .slice none 0 0, .int .i64 0, .bool false, .int .i64 0] 36 (0, 0)) from by
    rw [← hW1]; exact two_new w _ _ _ _)
  have HS := Lib.hid (show RsAt W1 T B s from h.turn (Turn.of_below (by rw [← hW1]; exact (two_new w _ _ _ _).1) (S := fun _ => False)) (fun _ _ => id))
  have HLt := Lib.hid (show ∀ g, B g → g < w.heap.size from fun g hg => h.lt hg)
  have q0 := blk_cell (j := 0) HW1.out.2.1 rfl
  have q1 := blk_cell (j := 1) HW1.out.2.1 rfl
  have q2 := blk_cell (j := 2) HW1.out.2.1 rfl
  have q3 := blk_cell (j := 3) HW1.out.2.1 rfl
  have q4 := blk_cell (j := 4) HW1.out.2.1 rfl
  have q5 := blk_cell (j := 5) HW1.out.2.1 rfl
  have q6 := (Array.getElem?_eq_some_iff.1 HW1.out.2.1).1
  have q7 := (Array.getElem?_eq_some_iff.1 HW1.out.2.2).1
  have HSz := Lib.hid q7
  obtain ⟨j, hj⟩ : ∃ j, xk % 10 = j := ⟨_, rfl⟩
  have hj0 : 0 ≤ j ∧ j ≤ 9 := by omega
  clear h hx hlb hap hq
  rcases (show j = 0 ∨ j = 1 ∨ j = 2 ∨ j = 3 ∨ j = 4 ∨ j = 5 ∨ j = 6 ∨ j = 7 ∨ j = 8 ∨ j = 9 by omega) with rfl | rfl | rfl | rfl | rfl | rfl | rfl | rfl | rfl | rfl
  · have hjx := hj
    have e0 : (xk % 10 == 0) = true := by rw [hj]; rfl
    have e1 : (xk % 10 == 1) = false := by rw [hj]; rfl
    have e2 : (xk % 10 == 2) = false := by rw [hj]; rfl
    have e3 : (xk % 10 == 3) = false := by rw [hj]; rfl
    have e4 : (xk % 10 == 4) = false := by rw [hj]; rfl
    have e5 : (xk % 10 == 5) = false := by rw [hj]; rfl
    have e6 : (xk % 10 == 6) = false := by rw [hj]; rfl
    go_enter Try.func10, Try.ntmps10
    go_wp2_with fail
    refine (ropen20_at xi xn HS.out HQ.out).mono ?_
    rintro e w1 ⟨B', rfl, h1, ht1, hb1⟩
    have HC := Lib.hid (And.intro h1 (And.intro ht1 hb1))
    have HZ := Lib.hid (ht1.obj HW1.out.2.2 (fun e => by have := HLt.out _ e; omega))
    clear h1 ht1 hb1
    go_wp2_with (refine wpList_store_row rfl 36 (.tmp 4) (.tmp 20) rfl (w.heap.size + 1) #[.int .i64 0, .int .i64 0, .int .i64 0, .slice none 0 0, .int .i64 0, .bool false, .int .i64 (openE20 s xi xn)] rfl rfl 36 _ HZ.out (by kernel_rfl) rfl (by simp [Value.oneCell']) ?_)
    have HZ9 := Lib.hid (setRow_heap _ _ _ #[.int .i64 0, .int .i64 0, .int .i64 0, .slice none 0 0, .int .i64 0, .bool false, .int .i64 (openE20 s xi xn)] _ _ HZ.out)
    have HT9 := Lib.hid (show Turn (fun k => k = w.heap.size + 1) w1 (w1.setRow (w.heap.size + 1) #[.int .i64 0, .int .i64 0, .int .i64 0, .slice none 0 0, .int .i64 0, .bool false, .int .i64 (openE20 s xi xn)]) from Turn.of_grown (setRow_grown _ _ _))
    generalize w1.setRow (w.heap.size + 1) #[.int .i64 0, .int .i64 0, .int .i64 0, .slice none 0 0, .int .i64 0, .bool false, .int .i64 (openE20 s xi xn)] = W9 at HZ9 HT9 ⊢
    refine bodyPost_ret (results_row0 rfl _ _ (w.heap.size + 1) 36 #[.int .i64 0, .int .i64 0, .int .i64 0, .slice none 0 0, .int .i64 0, .bool false, .int .i64 (openE20 s xi xn)] (0, 0) _ rfl HZ9.out Try.underlying36 rfl (by kernel_rfl)) rfl ?_
    exact tell_end (O := fun W B q => RsAt W T B q) (s := s) (s' := openQ20 s xi xn) (x := ⟨xk, xi, xn, xm, (xb, .slice pb xb.length pc), xl⟩) (F := Fr.zero) (N := 0) (I := false) (E := (openE20 s xi xn)) (fun _ _ _ _ _ (h1 : RsAt _ T _ _) h2 h3 => h1.turn h2 h3) HLt.out HW1.out.1 HSz.out HC.out.1 HC.out.2.1 HC.out.2.2 HT9.out (by simp [aQ, hjx]) (.slice none 0 0) (Sl.nil _ _) (fun h1 => absurd rfl h1) (by simp [aF, hjx]) (by simp [aN, hjx]) (by simp [aI, hjx]) (by simp [aE, hjx])
  · have hjx := hj
    have e0 : (xk % 10 == 0) = false := by rw [hj]; rfl
    have e1 : (xk % 10 == 1) = true := by rw [hj]; rfl
    have e2 : (xk % 10 == 2) = false := by rw [hj]; rfl
    have e3 : (xk % 10 == 3) = false := by rw [hj]; rfl
    have e4 : (xk % 10 == 4) = false := by rw [hj]; rfl
    have e5 : (xk % 10 == 5) = false := by rw [hj]; rfl
    have e6 : (xk % 10 == 6) = false := by rw [hj]; rfl
    go_enter Try.func10, Try.ntmps10
    go_wp2_with fail
    refine (rhead20_at xi _ xb xl HS.out (HX.out.s.below HW1.out.1)).mono ?_
    rintro e w1 ⟨B', rfl, h1, ht1, hb1⟩
    have HC := Lib.hid (And.intro h1 (And.intro ht1 hb1))
    have HZ := Lib.hid (ht1.obj HW1.out.2.2 (fun e => by have := HLt.out _ e; omega))
    clear h1 ht1 hb1
    go_wp2_with (refine wpList_store_row rfl 36 (.tmp 4) (.tmp 31) rfl (w.heap.size + 1) #[.int .i64 0, .int .i64 0, .int .i64 0, .slice none 0 0, .int .i64 0, .bool false, .int .i64 (headE20 s xi xb)] rfl rfl 36 _ HZ.out (by kernel_rfl) rfl (by simp [Value.oneCell']) ?_)
    have HZ9 := Lib.hid (setRow_heap _ _ _ #[.int .i64 0, .int .i64 0, .int .i64 0, .slice none 0 0, .int .i64 0, .bool false, .int .i64 (headE20 s xi xb)] _ _ HZ.out)
    have HT9 := Lib.hid (show Turn (fun k => k = w.heap.size + 1) w1 (w1.setRow (w.heap.size + 1) #[.int .i64 0, .int .i64 0, .int .i64 0, .slice none 0 0, .int .i64 0, .bool false, .int .i64 (headE20 s xi xb)]) from Turn.of_grown (setRow_grown _ _ _))
    generalize w1.setRow (w.heap.size + 1) #[.int .i64 0, .int .i64 0, .int .i64 0, .slice none 0 0, .int .i64 0, .bool false, .int .i64 (headE20 s xi xb)] = W9 at HZ9 HT9 ⊢
    refine bodyPost_ret (results_row0 rfl _ _ (w.heap.size + 1) 36 #[.int .i64 0, .int .i64 0, .int .i64 0, .slice none 0 0, .int .i64 0, .bool false, .int .i64 (headE20 s xi xb)] (0, 0) _ rfl HZ9.out Try.underlying36 rfl (by kernel_rfl)) rfl ?_
    exact tell_end (O := fun W B q => RsAt W T B q) (s := s) (s' := headQ20 s xi xb xl) (x := ⟨xk, xi, xn, xm, (xb, .slice pb xb.length pc), xl⟩) (F := Fr.zero) (N := 0) (I := false) (E := (headE20 s xi xb)) (fun _ _ _ _ _ (h1 : RsAt _ T _ _) h2 h3 => h1.turn h2 h3) HLt.out HW1.out.1 HSz.out HC.out.1 HC.out.2.1 HC.out.2.2 HT9.out (by simp [aQ, hjx]) (.slice none 0 0) (Sl.nil _ _) (fun h1 => absurd rfl h1) (by simp [aF, hjx]) (by simp [aN, hjx]) (by simp [aI, hjx]) (by simp [aE, hjx])
  · have hjx := hj
    have e0 : (xk % 10 == 0) = false := by rw [hj]; rfl
    have e1 : (xk % 10 == 1) = false := by rw [hj]; rfl
    have e2 : (xk % 10 == 2) = true := by rw [hj]; rfl
    have e3 : (xk % 10 == 3) = false := by rw [hj]; rfl
    have e4 : (xk % 10 == 4) = false := by rw [hj]; rfl
    have e5 : (xk % 10 == 5) = false := by rw [hj]; rfl
    have e6 : (xk % 10 == 6) = false := by rw [hj]; rfl
    go_enter Try.func10, Try.ntmps10
    go_wp2_with fail
    refine (rdata20_at xi _ xb xl HS.out (HX.out.s.below HW1.out.1) HQ.out HLb.out).mono ?_
    rintro e w1 ⟨B', rfl, h1, ht1, hb1⟩
    have HC := Lib.hid (And.intro h1 (And.intro ht1 hb1))
    have HZ := Lib.hid (ht1.obj HW1.out.2.2 (fun e => by have := HLt.out _ e; omega))
    clear h1 ht1 hb1
    go_wp2_with (refine wpList_store_row rfl 36 (.tmp 4) (.tmp 43) rfl (w.heap.size + 1) #[.int .i64 0, .int .i64 0, .int .i64 0, .slice none 0 0, .int .i64 0, .bool false, .int .i64 (dataE20 s xi xb)] rfl rfl 36 _ HZ.out (by kernel_rfl) rfl (by simp [Value.oneCell']) ?_)
    have HZ9 := Lib.hid (setRow_heap _ _ _ #[.int .i64 0, .int .i64 0, .int .i64 0, .slice none 0 0, .int .i64 0, .bool false, .int .i64 (dataE20 s xi xb)] _ _ HZ.out)
    have HT9 := Lib.hid (show Turn (fun k => k = w.heap.size + 1) w1 (w1.setRow (w.heap.size + 1) #[.int .i64 0, .int .i64 0, .int .i64 0, .slice none 0 0, .int .i64 0, .bool false, .int .i64 (dataE20 s xi xb)]) from Turn.of_grown (setRow_grown _ _ _))
    generalize w1.setRow (w.heap.size + 1) #[.int .i64 0, .int .i64 0, .int .i64 0, .slice none 0 0, .int .i64 0, .bool false, .int .i64 (dataE20 s xi xb)] = W9 at HZ9 HT9 ⊢
    refine bodyPost_ret (results_row0 rfl _ _ (w.heap.size + 1) 36 #[.int .i64 0, .int .i64 0, .int .i64 0, .slice none 0 0, .int .i64 0, .bool false, .int .i64 (dataE20 s xi xb)] (0, 0) _ rfl HZ9.out Try.underlying36 rfl (by kernel_rfl)) rfl ?_
    exact tell_end (O := fun W B q => RsAt W T B q) (s := s) (s' := dataQ20 s xi xb xl) (x := ⟨xk, xi, xn, xm, (xb, .slice pb xb.length pc), xl⟩) (F := Fr.zero) (N := 0) (I := false) (E := (dataE20 s xi xb)) (fun _ _ _ _ _ (h1 : RsAt _ T _ _) h2 h3 => h1.turn h2 h3) HLt.out HW1.out.1 HSz.out HC.out.1 HC.out.2.1 HC.out.2.2 HT9.out (by simp [aQ, hjx]) (.slice none 0 0) (Sl.nil _ _) (fun h1 => absurd rfl h1) (by simp [aF, hjx]) (by simp [aN, hjx]) (by simp [aI, hjx]) (by simp [aE, hjx])
  · have hjx := hj
    have e0 : (xk % 10 == 0) = false := by rw [hj]; rfl
    have e1 : (xk % 10 == 1) = false := by rw [hj]; rfl
    have e2 : (xk % 10 == 2) = false := by rw [hj]; rfl
    have e3 : (xk % 10 == 3) = true := by rw [hj]; rfl
    have e4 : (xk % 10 == 4) = false := by rw [hj]; rfl
    have e5 : (xk % 10 == 5) = false := by rw [hj]; rfl
    have e6 : (xk % 10 == 6) = false := by rw [hj]; rfl
    go_enter Try.func10, Try.ntmps10
    go_wp2_with fail
    refine (rdata20_at xi _ xb xl HS.out (HX.out.s.below HW1.out.1) HQ.out HLb.out).mono ?_
    rintro e w1 ⟨B', rfl, h1, ht1, hb1⟩
    have HC := Lib.hid (And.intro h1 (And.intro ht1 hb1))
    have HZ := Lib.hid (ht1.obj HW1.out.2.2 (fun e => by have := HLt.out _ e; omega))
    clear h1 ht1 hb1
    go_wp2_with (refine wpList_store_row rfl 36 (.tmp 4) (.tmp 43) rfl (w.heap.size + 1) #[.int .i64 0, .int .i64 0, .int .i64 0, .slice none 0 0, .int .i64 0, .bool false, .int .i64 (dataE20 s xi xb)] rfl rfl 36 _ HZ.out (by kernel_rfl) rfl (by simp [Value.oneCell']) ?_)
    have HZ9 := Lib.hid (setRow_heap _ _ _ #[.int .i64 0, .int .i64 0, .int .i64 0, .slice none 0 0, .int .i64 0, .bool false, .int .i64 (dataE20 s xi xb)] _ _ HZ.out)
    have HT9 := Lib.hid (show Turn (fun k => k = w.heap.size + 1) w1 (w1.setRow (w.heap.size + 1) #[.int .i64 0, .int .i64 0, .int .i64 0, .slice none 0 0, .int .i64 0, .bool false, .int .i64 (dataE20 s xi xb)]) from Turn.of_grown (setRow_grown _ _ _))
    generalize w1.setRow (w.heap.size + 1) #[.int .i64 0, .int .i64 0, .int .i64 0, .slice none 0 0, .int .i64 0, .bool false, .int .i64 (dataE20 s xi xb)] = W9 at HZ9 HT9 ⊢
    refine bodyPost_ret (results_row0 rfl _ _ (w.heap.size + 1) 36 #[.int .i64 0, .int .i64 0, .int .i64 0, .slice none 0 0, .int .i64 0, .bool false, .int .i64 (dataE20 s xi xb)] (0, 0) _ rfl HZ9.out Try.underlying36 rfl (by kernel_rfl)) rfl ?_
    exact tell_end (O := fun W B q => RsAt W T B q) (s := s) (s' := dataQ20 s xi xb xl) (x := ⟨xk, xi, xn, xm, (xb, .slice pb xb.length pc), xl⟩) (F := Fr.zero) (N := 0) (I := false) (E := (dataE20 s xi xb)) (fun _ _ _ _ _ (h1 : RsAt _ T _ _) h2 h3 => h1.turn h2 h3) HLt.out HW1.out.1 HSz.out HC.out.1 HC.out.2.1 HC.out.2.2 HT9.out (by simp [aQ, hjx]) (.slice none 0 0) (Sl.nil _ _) (fun h1 => absurd rfl h1) (by simp [aF, hjx]) (by simp [aN, hjx]) (by simp [aI, hjx]) (by simp [aE, hjx])
  · have hjx := hj
    have e0 : (xk % 10 == 0) = false := by rw [hj]; rfl
    have e1 : (xk % 10 == 1) = false := by rw [hj]; rfl
    have e2 : (xk % 10 == 2) = false := by rw [hj]; rfl
    have e3 : (xk % 10 == 3) = false := by rw [hj]; rfl
    have e4 : (xk % 10 == 4) = true := by rw [hj]; rfl
    have e5 : (xk % 10 == 5) = false := by rw [hj]; rfl
    have e6 : (xk % 10 == 6) = false := by rw [hj]; rfl
    go_enter Try.func10, Try.ntmps10
    go_wp2_with fail
    refine (rgrow20_at xi xn HS.out).mono ?_
    rintro e w1 ⟨B', rfl, h1, ht1, hb1⟩
    have HC := Lib.hid (And.intro h1 (And.intro ht1 hb1))
    have HZ := Lib.hid (ht1.obj HW1.out.2.2 (fun e => by have := HLt.out _ e; omega))
    clear h1 ht1 hb1
    go_wp2_with (refine wpList_store_row rfl 36 (.tmp 4) (.tmp 57) rfl (w.heap.size + 1) #[.int .i64 0, .int .i64 0, .int .i64 0, .slice none 0 0, .int .i64 0, .bool (growO20 s xi xn), .int .i64 (growE20 s xi)] rfl rfl 36 _ HZ.out (by kernel_rfl) rfl (by simp [Value.oneCell']) ?_)
    have HZ9 := Lib.hid (setRow_heap _ _ _ #[.int .i64 0, .int .i64 0, .int .i64 0, .slice none 0 0, .int .i64 0, .bool (growO20 s xi xn), .int .i64 (growE20 s xi)] _ _ HZ.out)
    have HT9 := Lib.hid (show Turn (fun k => k = w.heap.size + 1) w1 (w1.setRow (w.heap.size + 1) #[.int .i64 0, .int .i64 0, .int .i64 0, .slice none 0 0, .int .i64 0, .bool (growO20 s xi xn), .int .i64 (growE20 s xi)]) from Turn.of_grown (setRow_grown _ _ _))
    generalize w1.setRow (w.heap.size + 1) #[.int .i64 0, .int .i64 0, .int .i64 0, .slice none 0 0, .int .i64 0, .bool (growO20 s xi xn), .int .i64 (growE20 s xi)] = W9 at HZ9 HT9 ⊢
    refine bodyPost_ret (results_row0 rfl _ _ (w.heap.size + 1) 36 #[.int .i64 0, .int .i64 0, .int .i64 0, .slice none 0 0, .int .i64 0, .bool (growO20 s xi xn), .int .i64 (growE20 s xi)] (0, 0) _ rfl HZ9.out Try.underlying36 rfl (by kernel_rfl)) rfl ?_
    exact tell_end (O := fun W B q => RsAt W T B q) (s := s) (s' := growQ20 s xi xn) (x := ⟨xk, xi, xn, xm, (xb, .slice pb xb.length pc), xl⟩) (F := Fr.zero) (N := 0) (I := growO20 s xi xn) (E := growE20 s xi) (fun _ _ _ _ _ (h1 : RsAt _ T _ _) h2 h3 => h1.turn h2 h3) HLt.out HW1.out.1 HSz.out HC.out.1 HC.out.2.1 HC.out.2.2 HT9.out (by simp [aQ, hjx]) (.slice none 0 0) (Sl.nil _ _) (fun h1 => absurd rfl h1) (by simp [aF, hjx]) (by simp [aN, hjx]) (by simp [aI, hjx]) (by simp [aE, hjx])
  · have hjx := hj
    have e0 : (xk % 10 == 0) = false := by rw [hj]; rfl
    have e1 : (xk % 10 == 1) = false := by rw [hj]; rfl
    have e2 : (xk % 10 == 2) = false := by rw [hj]; rfl
    have e3 : (xk % 10 == 3) = false := by rw [hj]; rfl
    have e4 : (xk % 10 == 4) = false := by rw [hj]; rfl
    have e5 : (xk % 10 == 5) = true := by rw [hj]; rfl
    have e6 : (xk % 10 == 6) = false := by rw [hj]; rfl
    go_enter Try.func10, Try.ntmps10
    go_wp2_with fail
    refine (rshift20_at xn HS.out).mono ?_
    rintro e w1 ⟨B', rfl, h1, ht1, hb1⟩
    have HC := Lib.hid (And.intro h1 (And.intro ht1 hb1))
    have HZ := Lib.hid (ht1.obj HW1.out.2.2 (fun e => by have := HLt.out _ e; omega))
    clear h1 ht1 hb1
    go_wp2_with (refine wpList_store_row rfl 36 (.tmp 4) (.tmp 64) rfl (w.heap.size + 1) #[.int .i64 0, .int .i64 0, .int .i64 0, .slice none 0 0, .int .i64 (shiftN s.l xn), .bool false, .int .i64 0] rfl rfl 36 _ HZ.out (by kernel_rfl) rfl (by simp [Value.oneCell']) ?_)
    have HZ9 := Lib.hid (setRow_heap _ _ _ #[.int .i64 0, .int .i64 0, .int .i64 0, .slice none 0 0, .int .i64 (shiftN s.l xn), .bool false, .int .i64 0] _ _ HZ.out)
    have HT9 := Lib.hid (show Turn (fun k => k = w.heap.size + 1) w1 (w1.setRow (w.heap.size + 1) #[.int .i64 0, .int .i64 0, .int .i64 0, .slice none 0 0, .int .i64 (shiftN s.l xn), .bool false, .int .i64 0]) from Turn.of_grown (setRow_grown _ _ _))
    generalize w1.setRow (w.heap.size + 1) #[.int .i64 0, .int .i64 0, .int .i64 0, .slice none 0 0, .int .i64 (shiftN s.l xn), .bool false, .int .i64 0] = W9 at HZ9 HT9 ⊢
    refine bodyPost_ret (results_row0 rfl _ _ (w.heap.size + 1) 36 #[.int .i64 0, .int .i64 0, .int .i64 0, .slice none 0 0, .int .i64 (shiftN s.l xn), .bool false, .int .i64 0] (0, 0) _ rfl HZ9.out Try.underlying36 rfl (by kernel_rfl)) rfl ?_
    exact tell_end (O := fun W B q => RsAt W T B q) (s := s) (s' := shiftS s xn) (x := ⟨xk, xi, xn, xm, (xb, .slice pb xb.length pc), xl⟩) (F := Fr.zero) (N := (shiftN s.l xn)) (I := false) (E := 0) (fun _ _ _ _ _ (h1 : RsAt _ T _ _) h2 h3 => h1.turn h2 h3) HLt.out HW1.out.1 HSz.out HC.out.1 HC.out.2.1 HC.out.2.2 HT9.out (by simp [aQ, hjx]) (.slice none 0 0) (Sl.nil _ _) (fun h1 => absurd rfl h1) (by simp [aF, hjx]) (by simp [aN, hjx]) (by simp [aI, hjx]) (by simp [aE, hjx])
  · have hjx := hj
    have e0 : (xk % 10 == 0) = false := by rw [hj]; rfl
    have e1 : (xk % 10 == 1) = false := by rw [hj]; rfl
    have e2 : (xk % 10 == 2) = false := by rw [hj]; rfl
    have e3 : (xk % 10 == 3) = false := by rw [hj]; rfl
    have e4 : (xk % 10 == 4) = false := by rw [hj]; rfl
    have e5 : (xk % 10 == 5) = false := by rw [hj]; rfl
    have e6 : (xk % 10 == 6) = true := by rw [hj]; rfl
    go_enter Try.func10, Try.ntmps10
    go_wp2_with fail
    refine (rdrop20_at xi HS.out HQ.out).mono ?_
    rintro e w1 ⟨B', rfl, h1, ht1, hb1⟩
    have HC := Lib.hid (And.intro h1 (And.intro ht1 hb1))
    have HZ := Lib.hid (ht1.obj HW1.out.2.2 (fun e => by have := HLt.out _ e; omega))
    clear h1 ht1 hb1
    go_wp2_with (refine wpList_store_row rfl 36 (.tmp 4) (.tmp 71) rfl (w.heap.size + 1) #[.int .i64 0, .int .i64 0, .int .i64 0, .slice none 0 0, .int .i64 0, .bool false, .int .i64 (dropE20 s xi)] rfl rfl 36 _ HZ.out (by kernel_rfl) rfl (by simp [Value.oneCell']) ?_)
    have HZ9 := Lib.hid (setRow_heap _ _ _ #[.int .i64 0, .int .i64 0, .int .i64 0, .slice none 0 0, .int .i64 0, .bool false, .int .i64 (dropE20 s xi)] _ _ HZ.out)
    have HT9 := Lib.hid (show Turn (fun k => k = w.heap.size + 1) w1 (w1.setRow (w.heap.size + 1) #[.int .i64 0, .int .i64 0, .int .i64 0, .slice none 0 0, .int .i64 0, .bool false, .int .i64 (dropE20 s xi)]) from Turn.of_grown (setRow_grown _ _ _))
    generalize w1.setRow (w.heap.size + 1) #[.int .i64 0, .int .i64 0, .int .i64 0, .slice none 0 0, .int .i64 0, .bool false, .int .i64 (dropE20 s xi)] = W9 at HZ9 HT9 ⊢
    refine bodyPost_ret (results_row0 rfl _ _ (w.heap.size + 1) 36 #[.int .i64 0, .int .i64 0, .int .i64 0, .slice none 0 0, .int .i64 0, .bool false, .int .i64 (dropE20 s xi)] (0, 0) _ rfl HZ9.out Try.underlying36 rfl (by kernel_rfl)) rfl ?_
    exact tell_end (O := fun W B q => RsAt W T B q) (s := s) (s' := dropS s xi) (x := ⟨xk, xi, xn, xm, (xb, .slice pb xb.length pc), xl⟩) (F := Fr.zero) (N := 0) (I := false) (E := (dropE20 s xi)) (fun _ _ _ _ _ (h1 : RsAt _ T _ _) h2 h3 => h1.turn h2 h3) HLt.out HW1.out.1 HSz.out HC.out.1 HC.out.2.1 HC.out.2.2 HT9.out (by simp [aQ, hjx]) (.slice none 0 0) (Sl.nil _ _) (fun h1 => absurd rfl h1) (by simp [aF, hjx]) (by simp [aN, hjx]) (by simp [aI, hjx]) (by simp [aE, hjx])
  · have hjx := hj
    have e0 : (xk % 10 == 0) = false := by rw [hj]; rfl
    have e1 : (xk % 10 == 1) = false := by rw [hj]; rfl
    have e2 : (xk % 10 == 2) = false := by rw [hj]; rfl
    have e3 : (xk % 10 == 3) = false := by rw [hj]; rfl
    have e4 : (xk % 10 == 4) = false := by rw [hj]; rfl
    have e5 : (xk % 10 == 5) = false := by rw [hj]; rfl
    have e6 : (xk % 10 == 6) = false := by rw [hj]; rfl
    go_enter Try.func10, Try.ntmps10
    go_wp2_with fail
    refine (rnext20_at xn xm HS.out ⟨HX.out.wn, HX.out.wm⟩ HQ.out).mono ?_
    rintro e w1 ⟨fv, B', rfl, hfk, h1, ht1, hb1⟩
    obtain ⟨F, hF⟩ : ∃ F, nextF20 s xn xm = F := ⟨_, rfl⟩
    rw [hF] at hfk
    obtain ⟨pv, rfl, hp, hpb⟩ := hfk
    obtain ⟨ap, cp, rfl, _⟩ := (show _ from hp)
    have HC := Lib.hid (And.intro h1 (And.intro ht1 hb1))
    have HFe := Lib.hid hF
    have HPv := Lib.hid (And.intro hp hpb)
    obtain ⟨W2, hW2⟩ : ∃ W2, w1.alloc (.cells #[.int .i64 F.kind, .int .i64 F.flags, .int .i64 F.stream, .slice ap F.pay.length cp] 34) = W2 := ⟨_, rfl⟩
    have HB2 := Lib.hid (show Below w1.heap.size w1 W2 ∧ W2.heap[w1.heap.size]? = some (.cells #[.int .i64 F.kind, .int .i64 F.flags, .int .i64 F.stream, .slice ap F.pay.length cp] 34 (0, 0)) from by rw [← hW2]; exact ⟨(Below.refl _ _).alloc (Nat.le_refl _) _, heap_alloc_new _ _⟩)
    have hz1 := ht1.obj HW1.out.2.2 (fun e => by have := HLt.out _ e; omega)
    have HZ := Lib.hid ((HB2.out.1.block _ (Array.getElem?_eq_some_iff.1 hz1).1).trans hz1)
    have y0 : W2.cell? ⟨w1.heap.size, 0, none⟩ = some (.int .i64 F.kind) := blk_cell (j := 0) HB2.out.2 rfl
    have y1 : W2.cell? ⟨w1.heap.size, 1, none⟩ = some (.int .i64 F.flags) := blk_cell (j := 1) HB2.out.2 rfl
    have y2 : W2.cell? ⟨w1.heap.size, 2, none⟩ = some (.int .i64 F.stream) := blk_cell (j := 2) HB2.out.2 rfl
    have y3 : W2.cell? ⟨w1.heap.size, 3, none⟩ = some (.slice ap F.pay.length cp) := blk_cell (j := 3) HB2.out.2 rfl
    have y4 := (Array.getElem?_eq_some_iff.1 HB2.out.2).1
    clear h1 ht1 hb1 hp hpb hF hz1
    go_wp2_with (refine wpList_store_row rfl 36 (.tmp 4) (.tmp 83) rfl (w.heap.size + 1) #[.int .i64 F.kind, .int .i64 F.flags, .int .i64 F.stream, .slice ap F.pay.length cp, .int .i64 0, .bool (nextO s xn xm), .int .i64 0] rfl rfl 36 _ HZ.out (by kernel_rfl) rfl (by simp [Value.oneCell']) ?_)
    have HZ9 := Lib.hid (setRow_heap _ _ _ #[.int .i64 F.kind, .int .i64 F.flags, .int .i64 F.stream, .slice ap F.pay.length cp, .int .i64 0, .bool (nextO s xn xm), .int .i64 0] _ _ HZ.out)
    have HT9 := Lib.hid (show Turn (fun k => k = w.heap.size + 1) W2 (W2.setRow (w.heap.size + 1) #[.int .i64 F.kind, .int .i64 F.flags, .int .i64 F.stream, .slice ap F.pay.length cp, .int .i64 0, .bool (nextO s xn xm), .int .i64 0]) from Turn.of_grown (setRow_grown _ _ _))
    generalize W2.setRow (w.heap.size + 1) #[.int .i64 F.kind, .int .i64 F.flags, .int .i64 F.stream, .slice ap F.pay.length cp, .int .i64 0, .bool (nextO s xn xm), .int .i64 0] = W9 at HZ9 HT9 ⊢
    refine bodyPost_ret (results_row0 rfl _ _ (w.heap.size + 1) 36 #[.int .i64 F.kind, .int .i64 F.flags, .int .i64 F.stream, .slice ap F.pay.length cp, .int .i64 0, .bool (nextO s xn xm), .int .i64 0] (0, 0) _ rfl HZ9.out Try.underlying36 rfl (by kernel_rfl)) rfl ?_
    exact tell_end (O := fun W B q => RsAt W T B q) (s := s) (s' := nextS s xn xm) (x := ⟨xk, xi, xn, xm, (xb, .slice pb xb.length pc), xl⟩) (F := F) (N := 0) (I := nextO s xn xm) (E := 0) (fun _ _ _ _ _ (h1 : RsAt _ T _ _) h2 h3 => h1.turn h2 h3) HLt.out HW1.out.1 HSz.out (HC.out.1.turn (Turn.of_below HB2.out.1 (S := fun _ => False)) (fun _ _ => id)) (HC.out.2.1.trans (Turn.of_below HB2.out.1)) HC.out.2.2 HT9.out (by simp [aQ, hjx]) (.slice ap F.pay.length cp) (HPv.out.1.below HB2.out.1) (fun h1 g hg => .inl (HPv.out.2 h1 g hg)) (by simp [aF, hjx]; exact HFe.out) (by simp [aN, hjx]) (by simp [aI, hjx]) (by simp [aE, hjx])
  · have hjx := hj
    have e0 : (xk % 10 == 0) = false := by rw [hj]; rfl
    have e1 : (xk % 10 == 1) = false := by rw [hj]; rfl
    have e2 : (xk % 10 == 2) = false := by rw [hj]; rfl
    have e3 : (xk % 10 == 3) = false := by rw [hj]; rfl
    have e4 : (xk % 10 == 4) = false := by rw [hj]; rfl
    have e5 : (xk % 10 == 5) = false := by rw [hj]; rfl
    have e6 : (xk % 10 == 6) = false := by rw [hj]; rfl
    go_enter Try.func10, Try.ntmps10
    go_wp2_with fail
    refine (rnext20_at xn xm HS.out ⟨HX.out.wn, HX.out.wm⟩ HQ.out).mono ?_
    rintro e w1 ⟨fv, B', rfl, hfk, h1, ht1, hb1⟩
    obtain ⟨F, hF⟩ : ∃ F, nextF20 s xn xm = F := ⟨_, rfl⟩
    rw [hF] at hfk
    obtain ⟨pv, rfl, hp, hpb⟩ := hfk
    obtain ⟨ap, cp, rfl, _⟩ := (show _ from hp)
    have HC := Lib.hid (And.intro h1 (And.intro ht1 hb1))
    have HFe := Lib.hid hF
    have HPv := Lib.hid (And.intro hp hpb)
    obtain ⟨W2, hW2⟩ : ∃ W2, w1.alloc (.cells #[.int .i64 F.kind, .int .i64 F.flags, .int .i64 F.stream, .slice ap F.pay.length cp] 34) = W2 := ⟨_, rfl⟩
    have HB2 := Lib.hid (show Below w1.heap.size w1 W2 ∧ W2.heap[w1.heap.size]? = some (.cells #[.int .i64 F.kind, .int .i64 F.flags, .int .i64 F.stream, .slice ap F.pay.length cp] 34 (0, 0)) from by rw [← hW2]; exact ⟨(Below.refl _ _).alloc (Nat.le_refl _) _, heap_alloc_new _ _⟩)
    have hz1 := ht1.obj HW1.out.2.2 (fun e => by have := HLt.out _ e; omega)
    have HZ := Lib.hid ((HB2.out.1.block _ (Array.getElem?_eq_some_iff.1 hz1).1).trans hz1)
    have y0 : W2.cell? ⟨w1.heap.size, 0, none⟩ = some (.int .i64 F.kind) := blk_cell (j := 0) HB2.out.2 rfl
    have y1 : W2.cell? ⟨w1.heap.size, 1, none⟩ = some (.int .i64 F.flags) := blk_cell (j := 1) HB2.out.2 rfl
    have y2 : W2.cell? ⟨w1.heap.size, 2, none⟩ = some (.int .i64 F.stream) := blk_cell (j := 2) HB2.out.2 rfl
    have y3 : W2.cell? ⟨w1.heap.size, 3, none⟩ = some (.slice ap F.pay.length cp) := blk_cell (j := 3) HB2.out.2 rfl
    have y4 := (Array.getElem?_eq_some_iff.1 HB2.out.2).1
    clear h1 ht1 hb1 hp hpb hF hz1
    go_wp2_with (refine wpList_store_row rfl 36 (.tmp 4) (.tmp 83) rfl (w.heap.size + 1) #[.int .i64 F.kind, .int .i64 F.flags, .int .i64 F.stream, .slice ap F.pay.length cp, .int .i64 0, .bool (nextO s xn xm), .int .i64 0] rfl rfl 36 _ HZ.out (by kernel_rfl) rfl (by simp [Value.oneCell']) ?_)
    have HZ9 := Lib.hid (setRow_heap _ _ _ #[.int .i64 F.kind, .int .i64 F.flags, .int .i64 F.stream, .slice ap F.pay.length cp, .int .i64 0, .bool (nextO s xn xm), .int .i64 0] _ _ HZ.out)
    have HT9 := Lib.hid (show Turn (fun k => k = w.heap.size + 1) W2 (W2.setRow (w.heap.size + 1) #[.int .i64 F.kind, .int .i64 F.flags, .int .i64 F.stream, .slice ap F.pay.length cp, .int .i64 0, .bool (nextO s xn xm), .int .i64 0]) from Turn.of_grown (setRow_grown _ _ _))
    generalize W2.setRow (w.heap.size + 1) #[.int .i64 F.kind, .int .i64 F.flags, .int .i64 F.stream, .slice ap F.pay.length cp, .int .i64 0, .bool (nextO s xn xm), .int .i64 0] = W9 at HZ9 HT9 ⊢
    refine bodyPost_ret (results_row0 rfl _ _ (w.heap.size + 1) 36 #[.int .i64 F.kind, .int .i64 F.flags, .int .i64 F.stream, .slice ap F.pay.length cp, .int .i64 0, .bool (nextO s xn xm), .int .i64 0] (0, 0) _ rfl HZ9.out Try.underlying36 rfl (by kernel_rfl)) rfl ?_
    exact tell_end (O := fun W B q => RsAt W T B q) (s := s) (s' := nextS s xn xm) (x := ⟨xk, xi, xn, xm, (xb, .slice pb xb.length pc), xl⟩) (F := F) (N := 0) (I := nextO s xn xm) (E := 0) (fun _ _ _ _ _ (h1 : RsAt _ T _ _) h2 h3 => h1.turn h2 h3) HLt.out HW1.out.1 HSz.out (HC.out.1.turn (Turn.of_below HB2.out.1 (S := fun _ => False)) (fun _ _ => id)) (HC.out.2.1.trans (Turn.of_below HB2.out.1)) HC.out.2.2 HT9.out (by simp [aQ, hjx]) (.slice ap F.pay.length cp) (HPv.out.1.below HB2.out.1) (fun h1 g hg => .inl (HPv.out.2 h1 g hg)) (by simp [aF, hjx]; exact HFe.out) (by simp [aN, hjx]) (by simp [aI, hjx]) (by simp [aE, hjx])
  · have hjx := hj
    have e0 : (xk % 10 == 0) = false := by rw [hj]; rfl
    have e1 : (xk % 10 == 1) = false := by rw [hj]; rfl
    have e2 : (xk % 10 == 2) = false := by rw [hj]; rfl
    have e3 : (xk % 10 == 3) = false := by rw [hj]; rfl
    have e4 : (xk % 10 == 4) = false := by rw [hj]; rfl
    have e5 : (xk % 10 == 5) = false := by rw [hj]; rfl
    have e6 : (xk % 10 == 6) = false := by rw [hj]; rfl
    go_enter Try.func10, Try.ntmps10
    go_wp2_with fail
    refine (rnext20_at xn xm HS.out ⟨HX.out.wn, HX.out.wm⟩ HQ.out).mono ?_
    rintro e w1 ⟨fv, B', rfl, hfk, h1, ht1, hb1⟩
    obtain ⟨F, hF⟩ : ∃ F, nextF20 s xn xm = F := ⟨_, rfl⟩
    rw [hF] at hfk
    obtain ⟨pv, rfl, hp, hpb⟩ := hfk
    obtain ⟨ap, cp, rfl, _⟩ := (show _ from hp)
    have HC := Lib.hid (And.intro h1 (And.intro ht1 hb1))
    have HFe := Lib.hid hF
    have HPv := Lib.hid (And.intro hp hpb)
    obtain ⟨W2, hW2⟩ : ∃ W2, w1.alloc (.cells #[.int .i64 F.kind, .int .i64 F.flags, .int .i64 F.stream, .slice ap F.pay.length cp] 34) = W2 := ⟨_, rfl⟩
    have HB2 := Lib.hid (show Below w1.heap.size w1 W2 ∧ W2.heap[w1.heap.size]? = some (.cells #[.int .i64 F.kind, .int .i64 F.flags, .int .i64 F.stream, .slice ap F.pay.length cp] 34 (0, 0)) from by rw [← hW2]; exact ⟨(Below.refl _ _).alloc (Nat.le_refl _) _, heap_alloc_new _ _⟩)
    have hz1 := ht1.obj HW1.out.2.2 (fun e => by have := HLt.out _ e; omega)
    have HZ := Lib.hid ((HB2.out.1.block _ (Array.getElem?_eq_some_iff.1 hz1).1).trans hz1)
    have y0 : W2.cell? ⟨w1.heap.size, 0, none⟩ = some (.int .i64 F.kind) := blk_cell (j := 0) HB2.out.2 rfl
    have y1 : W2.cell? ⟨w1.heap.size, 1, none⟩ = some (.int .i64 F.flags) := blk_cell (j := 1) HB2.out.2 rfl
    have y2 : W2.cell? ⟨w1.heap.size, 2, none⟩ = some (.int .i64 F.stream) := blk_cell (j := 2) HB2.out.2 rfl
    have y3 : W2.cell? ⟨w1.heap.size, 3, none⟩ = some (.slice ap F.pay.length cp) := blk_cell (j := 3) HB2.out.2 rfl
    have y4 := (Array.getElem?_eq_some_iff.1 HB2.out.2).1
    clear h1 ht1 hb1 hp hpb hF hz1
    go_wp2_with (refine wpList_store_row rfl 36 (.tmp 4) (.tmp 83) rfl (w.heap.size + 1) #[.int .i64 F.kind, .int .i64 F.flags, .int .i64 F.stream, .slice ap F.pay.length cp, .int .i64 0, .bool (nextO s xn xm), .int .i64 0] rfl rfl 36 _ HZ.out (by kernel_rfl) rfl (by simp [Value.oneCell']) ?_)
    have HZ9 := Lib.hid (setRow_heap _ _ _ #[.int .i64 F.kind, .int .i64 F.flags, .int .i64 F.stream, .slice ap F.pay.length cp, .int .i64 0, .bool (nextO s xn xm), .int .i64 0] _ _ HZ.out)
    have HT9 := Lib.hid (show Turn (fun k => k = w.heap.size + 1) W2 (W2.setRow (w.heap.size + 1) #[.int .i64 F.kind, .int .i64 F.flags, .int .i64 F.stream, .slice ap F.pay.length cp, .int .i64 0, .bool (nextO s xn xm), .int .i64 0]) from Turn.of_grown (setRow_grown _ _ _))
    generalize W2.setRow (w.heap.size + 1) #[.int .i64 F.kind, .int .i64 F.flags, .int .i64 F.stream, .slice ap F.pay.length cp, .int .i64 0, .bool (nextO s xn xm), .int .i64 0] = W9 at HZ9 HT9 ⊢
    refine bodyPost_ret (results_row0 rfl _ _ (w.heap.size + 1) 36 #[.int .i64 F.kind, .int .i64 F.flags, .int .i64 F.stream, .slice ap F.pay.length cp, .int .i64 0, .bool (nextO s xn xm), .int .i64 0] (0, 0) _ rfl HZ9.out Try.underlying36 rfl (by kernel_rfl)) rfl ?_
    exact tell_end (O := fun W B q => RsAt W T B q) (s := s) (s' := nextS s xn xm) (x := ⟨xk, xi, xn, xm, (xb, .slice pb xb.length pc), xl⟩) (F := F) (N := 0) (I := nextO s xn xm) (E := 0) (fun _ _ _ _ _ (h1 : RsAt _ T _ _) h2 h3 => h1.turn h2 h3) HLt.out HW1.out.1 HSz.out (HC.out.1.turn (Turn.of_below HB2.out.1 (S := fun _ => False)) (fun _ _ => id)) (HC.out.2.1.trans (Turn.of_below HB2.out.1)) HC.out.2.2 HT9.out (by simp [aQ, hjx]) (.slice ap F.pay.length cp) (HPv.out.1.below HB2.out.1) (fun h1 g hg => .inl (HPv.out.2 h1 g hg)) (by simp [aF, hjx]; exact HFe.out) (by simp [aN, hjx]) (by simp [aI, hjx]) (by simp [aE, hjx])
end Go.Proofs.Ytnoegbdmjinfjaa

/-
  Layer 20's laws: what said tells of no sender (written by wip/tools/gen20s.py).
-/
namespace Go.Proofs.Ytnoegbdmjinfjaa
set_option maxRecDepth 20000
open Go.RowKit

def nilE20 (x : A20) : Int := if x.k % 10 = 5 ∨ 7 ≤ x.k % 10 then 0 else 1
set_option maxHeartbeats 2000000 in
theorem said20_nil (x : A20) (w : World) (hx : Ok20 w x) :
    Calls Try.prog 9 #[.pointer none, .agg #[.int .u8 x.k, .int .i64 x.id, .int .i64 x.n, .int .i64 x.m, x.b.2, .bool x.last]] w fun e w' => e = .returned (.agg #[.int .i64 0, .int .i64 0, .int .i64 0, .slice none 0 0, .int .i64 0, .bool false, .int .i64 (nilE20 x)]) ∧ Below w.heap.size w w' := by
  obtain ⟨xk, xi, xn, xm, ⟨xb, bv⟩, xl⟩ := x
  have hsl := hx.s
  dsimp only at hsl
  obtain ⟨pb, pc, rfl, _⟩ := hsl
  have HX := Lib.hid hx
  have hx0 := hx.k0
  have hx1 := hx.k1
  dsimp only at hx0 hx1
  obtain ⟨W1, hW1⟩ : ∃ W1, (w.alloc (.cells #[.int .u8 xk, .int .i64 xi, .int .i64 xn, .int .i64 xm, .slice pb xb.length pc, .bool xl] 39)).alloc (.cells #[.int .i64 0, .int .i64 0, .int .i64 0, .slice none 0 0, .int .i64 0, .bool false, .int .i64 0] 36) = W1 := ⟨_, rfl⟩
  have HW1 := Lib.hid (show Below w.heap.size w W1 ∧ W1.heap[w.heap.size]? = some (.cells #[.int .u8 xk, .int .i64 xi, .int .i64 xn, .int .i64 xm, .slice pb xb.length pc, .bool xl] 39 (0, 0)) ∧ W1.heap[w.heap.size + 1]? = some (.cells #[.int .i64 0, .int .i64 0, .int .i64 0, .slice none 0 0, .int .i64 0, .bool false, .int .i64 0] 36 (0, 0)) from by
    rw [← hW1]; exact two_new w _ _ _ _)
  have q0 := blk_cell (j := 0) HW1.out.2.1 rfl
  have q1 := blk_cell (j := 1) HW1.out.2.1 rfl
  have q2 := blk_cell (j := 2) HW1.out.2.1 rfl
  have q3 := blk_cell (j := 3) HW1.out.2.1 rfl
  have q4 := blk_cell (j := 4) HW1.out.2.1 rfl
  have q5 := blk_cell (j := 5) HW1.out.2.1 rfl
  have q6 := (Array.getElem?_eq_some_iff.1 HW1.out.2.1).1
  have q7 := (Array.getElem?_eq_some_iff.1 HW1.out.2.2).1
  obtain ⟨j, hj⟩ : ∃ j, xk % 10 = j := ⟨_, rfl⟩
  have hj0 : 0 ≤ j ∧ j ≤ 9 := by omega
  clear hx
  rcases (show j = 0 ∨ j = 1 ∨ j = 2 ∨ j = 3 ∨ j = 4 ∨ j = 5 ∨ j = 6 ∨ j = 7 ∨ j = 8 ∨ j = 9 by omega) with rfl | rfl | rfl | rfl | rfl | rfl | rfl | rfl | rfl | rfl
  · have HE := Lib.hid (show nilE20 ⟨xk, xi, xn, xm, (xb, .slice pb xb.length pc), xl⟩ = 1 by simp [nilE20, hj])
    have e0 : (xk % 10 == 0) = true := by rw [hj]; rfl
    have e1 : (xk % 10 == 1) = false := by rw [hj]; rfl
    have e2 : (xk % 10 == 2) = false := by rw [hj]; rfl
    have e3 : (xk % 10 == 3) = false := by rw [hj]; rfl
    have e4 : (xk % 10 == 4) = false := by rw [hj]; rfl
    have e5 : (xk % 10 == 5) = false := by rw [hj]; rfl
    have e6 : (xk % 10 == 6) = false := by rw [hj]; rfl
    go_enter Try.func9, Try.ntmps9
    go_wp2_with fail
    refine (pOpen20_nil xi xn W1).mono ?_
    rintro e w1 ⟨rfl, hb1⟩
    have HZ := Lib.hid ((hb1.block _ q7).trans HW1.out.2.2)
    have HB1 := Lib.hid (HW1.out.1.trans (hb1.mono HW1.out.1.size))
    have HSz := Lib.hid (show w.heap.size + 1 < w1.heap.size from Nat.lt_of_lt_of_le q7 hb1.size)
    clear hb1
    go_wp2_with (refine wpList_store_row rfl 36 (.tmp 4) (.tmp 20) rfl (w.heap.size + 1) #[.int .i64 0, .int .i64 0, .int .i64 0, .slice none 0 0, .int .i64 0, .bool false, .int .i64 1] rfl rfl 36 _ HZ.out (by kernel_rfl) rfl (by simp [Value.oneCell']) ?_)
    have HZ9 := Lib.hid (setRow_heap _ _ _ #[.int .i64 0, .int .i64 0, .int .i64 0, .slice none 0 0, .int .i64 0, .bool false, .int .i64 1] _ _ HZ.out)
    have HT9 := Lib.hid (show Below w.heap.size w (w1.setRow (w.heap.size + 1) #[.int .i64 0, .int .i64 0, .int .i64 0, .slice none 0 0, .int .i64 0, .bool false, .int .i64 1]) from below_setRow HB1.out (by omega) _)
    generalize w1.setRow (w.heap.size + 1) #[.int .i64 0, .int .i64 0, .int .i64 0, .slice none 0 0, .int .i64 0, .bool false, .int .i64 1] = W9 at HZ9 HT9 ⊢
    refine bodyPost_ret (results_row0 rfl _ _ (w.heap.size + 1) 36 #[.int .i64 0, .int .i64 0, .int .i64 0, .slice none 0 0, .int .i64 0, .bool false, .int .i64 1] (0, 0) _ rfl HZ9.out Try.underlying36 rfl (by kernel_rfl)) rfl ?_
    exact ⟨by rw [HE.out], HT9.out⟩
  · have HE := Lib.hid (show nilE20 ⟨xk, xi, xn, xm, (xb, .slice pb xb.length pc), xl⟩ = 1 by simp [nilE20, hj])
    have e0 : (xk % 10 == 0) = false := by rw [hj]; rfl
    have e1 : (xk % 10 == 1) = true := by rw [hj]; rfl
    have e2 : (xk % 10 == 2) = false := by rw [hj]; rfl
    have e3 : (xk % 10 == 3) = false := by rw [hj]; rfl
    have e4 : (xk % 10 == 4) = false := by rw [hj]; rfl
    have e5 : (xk % 10 == 5) = false := by rw [hj]; rfl
    have e6 : (xk % 10 == 6) = false := by rw [hj]; rfl
    go_enter Try.func9, Try.ntmps9
    go_wp2_with fail
    refine (pHead20_nil xi _ xb xl W1 (HX.out.s.below HW1.out.1)).mono ?_
    rintro e w1 ⟨rfl, hb1⟩
    have HZ := Lib.hid ((hb1.block _ q7).trans HW1.out.2.2)
    have HB1 := Lib.hid (HW1.out.1.trans (hb1.mono HW1.out.1.size))
    have HSz := Lib.hid (show w.heap.size + 1 < w1.heap.size from Nat.lt_of_lt_of_le q7 hb1.size)
    clear hb1
    go_wp2_with (refine wpList_store_row rfl 36 (.tmp 4) (.tmp 31) rfl (w.heap.size + 1) #[.int .i64 0, .int .i64 0, .int .i64 0, .slice none 0 0, .int .i64 0, .bool false, .int .i64 1] rfl rfl 36 _ HZ.out (by kernel_rfl) rfl (by simp [Value.oneCell']) ?_)
    have HZ9 := Lib.hid (setRow_heap _ _ _ #[.int .i64 0, .int .i64 0, .int .i64 0, .slice none 0 0, .int .i64 0, .bool false, .int .i64 1] _ _ HZ.out)
    have HT9 := Lib.hid (show Below w.heap.size w (w1.setRow (w.heap.size + 1) #[.int .i64 0, .int .i64 0, .int .i64 0, .slice none 0 0, .int .i64 0, .bool false, .int .i64 1]) from below_setRow HB1.out (by omega) _)
    generalize w1.setRow (w.heap.size + 1) #[.int .i64 0, .int .i64 0, .int .i64 0, .slice none 0 0, .int .i64 0, .bool false, .int .i64 1] = W9 at HZ9 HT9 ⊢
    refine bodyPost_ret (results_row0 rfl _ _ (w.heap.size + 1) 36 #[.int .i64 0, .int .i64 0, .int .i64 0, .slice none 0 0, .int .i64 0, .bool false, .int .i64 1] (0, 0) _ rfl HZ9.out Try.underlying36 rfl (by kernel_rfl)) rfl ?_
    exact ⟨by rw [HE.out], HT9.out⟩
  · have HE := Lib.hid (show nilE20 ⟨xk, xi, xn, xm, (xb, .slice pb xb.length pc), xl⟩ = 1 by simp [nilE20, hj])
    have e0 : (xk % 10 == 0) = false := by rw [hj]; rfl
    have e1 : (xk % 10 == 1) = false := by rw [hj]; rfl
    have e2 : (xk % 10 == 2) = true := by rw [hj]; rfl
    have e3 : (xk % 10 == 3) = false := by rw [hj]; rfl
    have e4 : (xk % 10 == 4) = false := by rw [hj]; rfl
    have e5 : (xk % 10 == 5) = false := by rw [hj]; rfl
    have e6 : (xk % 10 == 6) = false := by rw [hj]; rfl
    go_enter Try.func9, Try.ntmps9
    go_wp2_with fail
    refine (pData20_nil xi _ xb xl W1 (HX.out.s.below HW1.out.1)).mono ?_
    rintro e w1 ⟨rfl, hb1⟩
    have HZ := Lib.hid ((hb1.block _ q7).trans HW1.out.2.2)
    have HB1 := Lib.hid (HW1.out.1.trans (hb1.mono HW1.out.1.size))
    have HSz := Lib.hid (show w.heap.size + 1 < w1.heap.size from Nat.lt_of_lt_of_le q7 hb1.size)
    clear hb1
    go_wp2_with (refine wpList_store_row rfl 36 (.tmp 4) (.tmp 43) rfl (w.heap.size + 1) #[.int .i64 0, .int .i64 0, .int .i64 0, .slice none 0 0, .int .i64 0, .bool false, .int .i64 1] rfl rfl 36 _ HZ.out (by kernel_rfl) rfl (by simp [Value.oneCell']) ?_)
    have HZ9 := Lib.hid (setRow_heap _ _ _ #[.int .i64 0, .int .i64 0, .int .i64 0, .slice none 0 0, .int .i64 0, .bool false, .int .i64 1] _ _ HZ.out)
    have HT9 := Lib.hid (show Below w.heap.size w (w1.setRow (w.heap.size + 1) #[.int .i64 0, .int .i64 0, .int .i64 0, .slice none 0 0, .int .i64 0, .bool false, .int .i64 1]) from below_setRow HB1.out (by omega) _)
    generalize w1.setRow (w.heap.size + 1) #[.int .i64 0, .int .i64 0, .int .i64 0, .slice none 0 0, .int .i64 0, .bool false, .int .i64 1] = W9 at HZ9 HT9 ⊢
    refine bodyPost_ret (results_row0 rfl _ _ (w.heap.size + 1) 36 #[.int .i64 0, .int .i64 0, .int .i64 0, .slice none 0 0, .int .i64 0, .bool false, .int .i64 1] (0, 0) _ rfl HZ9.out Try.underlying36 rfl (by kernel_rfl)) rfl ?_
    exact ⟨by rw [HE.out], HT9.out⟩
  · have HE := Lib.hid (show nilE20 ⟨xk, xi, xn, xm, (xb, .slice pb xb.length pc), xl⟩ = 1 by simp [nilE20, hj])
    have e0 : (xk % 10 == 0) = false := by rw [hj]; rfl
    have e1 : (xk % 10 == 1) = false := by rw [hj]; rfl
    have e2 : (xk % 10 == 2) = false := by rw [hj]; rfl
    have e3 : (xk % 10 == 3) = true := by rw [hj]; rfl
    have e4 : (xk % 10 == 4) = false := by rw [hj]; rfl
    have e5 : (xk % 10 == 5) = false := by rw [hj]; rfl
    have e6 : (xk % 10 == 6) = false := by rw [hj]; rfl
    go_enter Try.func9, Try.ntmps9
    go_wp2_with fail
    refine (pData20_nil xi _ xb xl W1 (HX.out.s.below HW1.out.1)).mono ?_
    rintro e w1 ⟨rfl, hb1⟩
    have HZ := Lib.hid ((hb1.block _ q7).trans HW1.out.2.2)
    have HB1 := Lib.hid (HW1.out.1.trans (hb1.mono HW1.out.1.size))
    have HSz := Lib.hid (show w.heap.size + 1 < w1.heap.size from Nat.lt_of_lt_of_le q7 hb1.size)
    clear hb1
    go_wp2_with (refine wpList_store_row rfl 36 (.tmp 4) (.tmp 43) rfl (w.heap.size + 1) #[.int .i64 0, .int .i64 0, .int .i64 0, .slice none 0 0, .int .i64 0, .bool false, .int .i64 1] rfl rfl 36 _ HZ.out (by kernel_rfl) rfl (by simp [Value.oneCell']) ?_)
    have HZ9 := Lib.hid (setRow_heap _ _ _ #[.int .i64 0, .int .i64 0, .int .i64 0, .slice none 0 0, .int .i64 0, .bool false, .int .i64 1] _ _ HZ.out)
    have HT9 := Lib.hid (show Below w.heap.size w (w1.setRow (w.heap.size + 1) #[.int .i64 0, .int .i64 0, .int .i64 0, .slice none 0 0, .int .i64 0, .bool false, .int .i64 1]) from below_setRow HB1.out (by omega) _)
    generalize w1.setRow (w.heap.size + 1) #[.int .i64 0, .int .i64 0, .int .i64 0, .slice none 0 0, .int .i64 0, .bool false, .int .i64 1] = W9 at HZ9 HT9 ⊢
    refine bodyPost_ret (results_row0 rfl _ _ (w.heap.size + 1) 36 #[.int .i64 0, .int .i64 0, .int .i64 0, .slice none 0 0, .int .i64 0, .bool false, .int .i64 1] (0, 0) _ rfl HZ9.out Try.underlying36 rfl (by kernel_rfl)) rfl ?_
    exact ⟨by rw [HE.out], HT9.out⟩
  · have HE := Lib.hid (show nilE20 ⟨xk, xi, xn, xm, (xb, .slice pb xb.length pc), xl⟩ = 1 by simp [nilE20, hj])
    have e0 : (xk % 10 == 0) = false := by rw [hj]; rfl
    have e1 : (xk % 10 == 1) = false := by rw [hj]; rfl
    have e2 : (xk % 10 == 2) = false := by rw [hj]; rfl
    have e3 : (xk % 10 == 3) = false := by rw [hj]; rfl
    have e4 : (xk % 10 == 4) = true := by rw [hj]; rfl
    have e5 : (xk % 10 == 5) = false := by rw [hj]; rfl
    have e6 : (xk % 10 == 6) = false := by rw [hj]; rfl
    go_enter Try.func9, Try.ntmps9
    go_wp2_with fail
    refine (pGrow20_nil xi xn W1).mono ?_
    rintro e w1 ⟨rfl, hb1⟩
    have HZ := Lib.hid ((hb1.block _ q7).trans HW1.out.2.2)
    have HB1 := Lib.hid (HW1.out.1.trans (hb1.mono HW1.out.1.size))
    have HSz := Lib.hid (show w.heap.size + 1 < w1.heap.size from Nat.lt_of_lt_of_le q7 hb1.size)
    clear hb1
    go_wp2_with (refine wpList_store_row rfl 36 (.tmp 4) (.tmp 57) rfl (w.heap.size + 1) #[.int .i64 0, .int .i64 0, .int .i64 0, .slice none 0 0, .int .i64 0, .bool false, .int .i64 1] rfl rfl 36 _ HZ.out (by kernel_rfl) rfl (by simp [Value.oneCell']) ?_)
    have HZ9 := Lib.hid (setRow_heap _ _ _ #[.int .i64 0, .int .i64 0, .int .i64 0, .slice none 0 0, .int .i64 0, .bool false, .int .i64 1] _ _ HZ.out)
    have HT9 := Lib.hid (show Below w.heap.size w (w1.setRow (w.heap.size + 1) #[.int .i64 0, .int .i64 0, .int .i64 0, .slice none 0 0, .int .i64 0, .bool false, .int .i64 1]) from below_setRow HB1.out (by omega) _)
    generalize w1.setRow (w.heap.size + 1) #[.int .i64 0, .int .i64 0, .int .i64 0, .slice none 0 0, .int .i64 0, .bool false, .int .i64 1] = W9 at HZ9 HT9 ⊢
    refine bodyPost_ret (results_row0 rfl _ _ (w.heap.size + 1) 36 #[.int .i64 0, .int .i64 0, .int .i64 0, .slice none 0 0, .int .i64 0, .bool false, .int .i64 1] (0, 0) _ rfl HZ9.out Try.underlying36 rfl (by kernel_rfl)) rfl ?_
    exact ⟨by rw [HE.out], HT9.out⟩
  · have HE := Lib.hid (show nilE20 ⟨xk, xi, xn, xm, (xb, .slice pb xb.length pc), xl⟩ = 0 by simp [nilE20, hj])
    have e0 : (xk % 10 == 0) = false := by rw [hj]; rfl
    have e1 : (xk % 10 == 1) = false := by rw [hj]; rfl
    have e2 : (xk % 10 == 2) = false := by rw [hj]; rfl
    have e3 : (xk % 10 == 3) = false := by rw [hj]; rfl
    have e4 : (xk % 10 == 4) = false := by rw [hj]; rfl
    have e5 : (xk % 10 == 5) = true := by rw [hj]; rfl
    have e6 : (xk % 10 == 6) = false := by rw [hj]; rfl
    go_enter Try.func9, Try.ntmps9
    go_wp2_with fail
    refine (pShift20_nil xn W1).mono ?_
    rintro e w1 ⟨rfl, hb1⟩
    have HZ := Lib.hid ((hb1.block _ q7).trans HW1.out.2.2)
    have HB1 := Lib.hid (HW1.out.1.trans (hb1.mono HW1.out.1.size))
    have HSz := Lib.hid (show w.heap.size + 1 < w1.heap.size from Nat.lt_of_lt_of_le q7 hb1.size)
    clear hb1
    go_wp2_with (refine wpList_store_row rfl 36 (.tmp 4) (.tmp 64) rfl (w.heap.size + 1) #[.int .i64 0, .int .i64 0, .int .i64 0, .slice none 0 0, .int .i64 0, .bool false, .int .i64 0] rfl rfl 36 _ HZ.out (by kernel_rfl) rfl (by simp [Value.oneCell']) ?_)
    have HZ9 := Lib.hid (setRow_heap _ _ _ #[.int .i64 0, .int .i64 0, .int .i64 0, .slice none 0 0, .int .i64 0, .bool false, .int .i64 0] _ _ HZ.out)
    have HT9 := Lib.hid (show Below w.heap.size w (w1.setRow (w.heap.size + 1) #[.int .i64 0, .int .i64 0, .int .i64 0, .slice none 0 0, .int .i64 0, .bool false, .int .i64 0]) from below_setRow HB1.out (by omega) _)
    generalize w1.setRow (w.heap.size + 1) #[.int .i64 0, .int .i64 0, .int .i64 0, .slice none 0 0, .int .i64 0, .bool false, .int .i64 0] = W9 at HZ9 HT9 ⊢
    refine bodyPost_ret (results_row0 rfl _ _ (w.heap.size + 1) 36 #[.int .i64 0, .int .i64 0, .int .i64 0, .slice none 0 0, .int .i64 0, .bool false, .int .i64 0] (0, 0) _ rfl HZ9.out Try.underlying36 rfl (by kernel_rfl)) rfl ?_
    exact ⟨by rw [HE.out], HT9.out⟩
  · have HE := Lib.hid (show nilE20 ⟨xk, xi, xn, xm, (xb, .slice pb xb.length pc), xl⟩ = 1 by simp [nilE20, hj])
    have e0 : (xk % 10 == 0) = false := by rw [hj]; rfl
    have e1 : (xk % 10 == 1) = false := by rw [hj]; rfl
    have e2 : (xk % 10 == 2) = false := by rw [hj]; rfl
    have e3 : (xk % 10 == 3) = false := by rw [hj]; rfl
    have e4 : (xk % 10 == 4) = false := by rw [hj]; rfl
    have e5 : (xk % 10 == 5) = false := by rw [hj]; rfl
    have e6 : (xk % 10 == 6) = true := by rw [hj]; rfl
    go_enter Try.func9, Try.ntmps9
    go_wp2_with fail
    refine (pDrop20_nil xi W1).mono ?_
    rintro e w1 ⟨rfl, hb1⟩
    have HZ := Lib.hid ((hb1.block _ q7).trans HW1.out.2.2)
    have HB1 := Lib.hid (HW1.out.1.trans (hb1.mono HW1.out.1.size))
    have HSz := Lib.hid (show w.heap.size + 1 < w1.heap.size from Nat.lt_of_lt_of_le q7 hb1.size)
    clear hb1
    go_wp2_with (refine wpList_store_row rfl 36 (.tmp 4) (.tmp 71) rfl (w.heap.size + 1) #[.int .i64 0, .int .i64 0, .int .i64 0, .slice none 0 0, .int .i64 0, .bool false, .int .i64 1] rfl rfl 36 _ HZ.out (by kernel_rfl) rfl (by simp [Value.oneCell']) ?_)
    have HZ9 := Lib.hid (setRow_heap _ _ _ #[.int .i64 0, .int .i64 0, .int .i64 0, .slice none 0 0, .int .i64 0, .bool false, .int .i64 1] _ _ HZ.out)
    have HT9 := Lib.hid (show Below w.heap.size w (w1.setRow (w.heap.size + 1) #[.int .i64 0, .int .i64 0, .int .i64 0, .slice none 0 0, .int .i64 0, .bool false, .int .i64 1]) from below_setRow HB1.out (by omega) _)
    generalize w1.setRow (w.heap.size + 1) #[.int .i64 0, .int .i64 0, .int .i64 0, .slice none 0 0, .int .i64 0, .bool false, .int .i64 1] = W9 at HZ9 HT9 ⊢
    refine bodyPost_ret (results_row0 rfl _ _ (w.heap.size + 1) 36 #[.int .i64 0, .int .i64 0, .int .i64 0, .slice none 0 0, .int .i64 0, .bool false, .int .i64 1] (0, 0) _ rfl HZ9.out Try.underlying36 rfl (by kernel_rfl)) rfl ?_
    exact ⟨by rw [HE.out], HT9.out⟩
  · have HE := Lib.hid (show nilE20 ⟨xk, xi, xn, xm, (xb, .slice pb xb.length pc), xl⟩ = 0 by simp [nilE20, hj])
    have e0 : (xk % 10 == 0) = false := by rw [hj]; rfl
    have e1 : (xk % 10 == 1) = false := by rw [hj]; rfl
    have e2 : (xk % 10 == 2) = false := by rw [hj]; rfl
    have e3 : (xk % 10 == 3) = false := by rw [hj]; rfl
    have e4 : (xk % 10 == 4) = false := by rw [hj]; rfl
    have e5 : (xk % 10 == 5) = false := by rw [hj]; rfl
    have e6 : (xk % 10 == 6) = false := by rw [hj]; rfl
    go_enter Try.func9, Try.ntmps9
    go_wp2_with fail
    refine (pNext20_nil xn xm W1).mono ?_
    rintro e w1 ⟨rfl, hb1⟩
    have HZ := Lib.hid ((hb1.block _ q7).trans HW1.out.2.2)
    have HB1 := Lib.hid (HW1.out.1.trans (hb1.mono HW1.out.1.size))
    have HSz := Lib.hid (show w.heap.size + 1 < w1.heap.size from Nat.lt_of_lt_of_le q7 hb1.size)
    clear hb1
    have HB2 := Lib.hid (show Below w1.heap.size w1 (w1.alloc (.cells #[.int .i64 0, .int .i64 0, .int .i64 0, .slice none 0 0] 34)) from (Below.refl _ _).alloc (Nat.le_refl _) _)
    have HZ2 := Lib.hid ((HB2.out.block _ HSz.out).trans HZ.out)
    have HB3 := Lib.hid (HB1.out.trans (HB2.out.mono HB1.out.size))
    go_wp2_with (refine wpList_store_row rfl 36 (.tmp 4) (.tmp 83) rfl (w.heap.size + 1) #[.int .i64 0, .int .i64 0, .int .i64 0, .slice none 0 0, .int .i64 0, .bool false, .int .i64 0] rfl rfl 36 _ HZ2.out (by kernel_rfl) rfl (by simp [Value.oneCell']) ?_)
    have HZ9 := Lib.hid (setRow_heap _ _ _ #[.int .i64 0, .int .i64 0, .int .i64 0, .slice none 0 0, .int .i64 0, .bool false, .int .i64 0] _ _ HZ2.out)
    have HT9 := Lib.hid (show Below w.heap.size w ((w1.alloc (.cells #[.int .i64 0, .int .i64 0, .int .i64 0, .slice none 0 0] 34)).setRow (w.heap.size + 1) #[.int .i64 0, .int .i64 0, .int .i64 0, .slice none 0 0, .int .i64 0, .bool false, .int .i64 0]) from below_setRow HB3.out (by omega) _)
    generalize (w1.alloc (.cells #[.int .i64 0, .int .i64 0, .int .i64 0, .slice none 0 0] 34)).setRow (w.heap.size + 1) #[.int .i64 0, .int .i64 0, .int .i64 0, .slice none 0 0, .int .i64 0, .bool false, .int .i64 0] = W9 at HZ9 HT9 ⊢
    refine bodyPost_ret (results_row0 rfl _ _ (w.heap.size + 1) 36 #[.int .i64 0, .int .i64 0, .int .i64 0, .slice none 0 0, .int .i64 0, .bool false, .int .i64 0] (0, 0) _ rfl HZ9.out Try.underlying36 rfl (by kernel_rfl)) rfl ?_
    exact ⟨by rw [HE.out], HT9.out⟩
  · have HE := Lib.hid (show nilE20 ⟨xk, xi, xn, xm, (xb, .slice pb xb.length pc), xl⟩ = 0 by simp [nilE20, hj])
    have e0 : (xk % 10 == 0) = false := by rw [hj]; rfl
    have e1 : (xk % 10 == 1) = false := by rw [hj]; rfl
    have e2 : (xk % 10 == 2) = false := by rw [hj]; rfl
    have e3 : (xk % 10 == 3) = false := by rw [hj]; rfl
    have e4 : (xk % 10 == 4) = false := by rw [hj]; rfl
    have e5 : (xk % 10 == 5) = false := by rw [hj]; rfl
    have e6 : (xk % 10 == 6) = false := by rw [hj]; rfl
    go_enter Try.func9, Try.ntmps9
    go_wp2_with fail
    refine (pNext20_nil xn xm W1).mono ?_
    rintro e w1 ⟨rfl, hb1⟩
    have HZ := Lib.hid ((hb1.block _ q7).trans HW1.out.2.2)
    have HB1 := Lib.hid (HW1.out.1.trans (hb1.mono HW1.out.1.size))
    have HSz := Lib.hid (show w.heap.size + 1 < w1.heap.size from Nat.lt_of_lt_of_le q7 hb1.size)
    clear hb1
    have HB2 := Lib.hid (show Below w1.heap.size w1 (w1.alloc (.cells #[.int .i64 0, .int .i64 0, .int .i64 0, .slice none 0 0] 34)) from (Below.refl _ _).alloc (Nat.le_refl _) _)
    have HZ2 := Lib.hid ((HB2.out.block _ HSz.out).trans HZ.out)
    have HB3 := Lib.hid (HB1.out.trans (HB2.out.mono HB1.out.size))
    go_wp2_with (refine wpList_store_row rfl 36 (.tmp 4) (.tmp 83) rfl (w.heap.size + 1) #[.int .i64 0, .int .i64 0, .int .i64 0, .slice none 0 0, .int .i64 0, .bool false, .int .i64 0] rfl rfl 36 _ HZ2.out (by kernel_rfl) rfl (by simp [Value.oneCell']) ?_)
    have HZ9 := Lib.hid (setRow_heap _ _ _ #[.int .i64 0, .int .i64 0, .int .i64 0, .slice none 0 0, .int .i64 0, .bool false, .int .i64 0] _ _ HZ2.out)
    have HT9 := Lib.hid (show Below w.heap.size w ((w1.alloc (.cells #[.int .i64 0, .int .i64 0, .int .i64 0, .slice none 0 0] 34)).setRow (w.heap.size + 1) #[.int .i64 0, .int .i64 0, .int .i64 0, .slice none 0 0, .int .i64 0, .bool false, .int .i64 0]) from below_setRow HB3.out (by omega) _)
    generalize (w1.alloc (.cells #[.int .i64 0, .int .i64 0, .int .i64 0, .slice none 0 0] 34)).setRow (w.heap.size + 1) #[.int .i64 0, .int .i64 0, .int .i64 0, .slice none 0 0, .int .i64 0, .bool false, .int .i64 0] = W9 at HZ9 HT9 ⊢
    refine bodyPost_ret (results_row0 rfl _ _ (w.heap.size + 1) 36 #[.int .i64 0, .int .i64 0, .int .i64 0, .slice none 0 0, .int .i64 0, .bool false, .int .i64 0] (0, 0) _ rfl HZ9.out Try.underlying36 rfl (by kernel_rfl)) rfl ?_
    exact ⟨by rw [HE.out], HT9.out⟩
  · have HE := Lib.hid (show nilE20 ⟨xk, xi, xn, xm, (xb, .slice pb xb.length pc), xl⟩ = 0 by simp [nilE20, hj])
    have e0 : (xk % 10 == 0) = false := by rw [hj]; rfl
    have e1 : (xk % 10 == 1) = false := by rw [hj]; rfl
    have e2 : (xk % 10 == 2) = false := by rw [hj]; rfl
    have e3 : (xk % 10 == 3) = false := by rw [hj]; rfl
    have e4 : (xk % 10 == 4) = false := by rw [hj]; rfl
    have e5 : (xk % 10 == 5) = false := by rw [hj]; rfl
    have e6 : (xk % 10 == 6) = false := by rw [hj]; rfl
    go_enter Try.func9, Try.ntmps9
    go_wp2_with fail
    refine (pNext20_nil xn xm W1).mono ?_
    rintro e w1 ⟨rfl, hb1⟩
    have HZ := Lib.hid ((hb1.block _ q7).trans HW1.out.2.2)
    have HB1 := Lib.hid (HW1.out.1.trans (hb1.mono HW1.out.1.size))
    have HSz := Lib.hid (show w.heap.size + 1 < w1.heap.size from Nat.lt_of_lt_of_le q7 hb1.size)
    clear hb1
    have HB2 := Lib.hid (show Below w1.heap.size w1 (w1.alloc (.cells #[.int .i64 0, .int .i64 0, .int .i64 0, .slice none 0 0] 34)) from (Below.refl _ _).alloc (Nat.le_refl _) _)
    have HZ2 := Lib.hid ((HB2.out.block _ HSz.out).trans HZ.out)
    have HB3 := Lib.hid (HB1.out.trans (HB2.out.mono HB1.out.size))
    go_wp2_with (refine wpList_store_row rfl 36 (.tmp 4) (.tmp 83) rfl (w.heap.size + 1) #[.int .i64 0, .int .i64 0, .int .i64 0, .slice none 0 0, .int .i64 0, .bool false, .int .i64 0] rfl rfl 36 _ HZ2.out (by kernel_rfl) rfl (by simp [Value.oneCell']) ?_)
    have HZ9 := Lib.hid (setRow_heap _ _ _ #[.int .i64 0, .int .i64 0, .int .i64 0, .slice none 0 0, .int .i64 0, .bool false, .int .i64 0] _ _ HZ2.out)
    have HT9 := Lib.hid (show Below w.heap.size w ((w1.alloc (.cells #[.int .i64 0, .int .i64 0, .int .i64 0, .slice none 0 0] 34)).setRow (w.heap.size + 1) #[.int .i64 0, .int .i64 0, .int .i64 0, .slice none 0 0, .int .i64 0, .bool false, .int .i64 0]) from below_setRow HB3.out (by omega) _)
    generalize (w1.alloc (.cells #[.int .i64 0, .int .i64 0, .int .i64 0, .slice none 0 0] 34)).setRow (w.heap.size + 1) #[.int .i64 0, .int .i64 0, .int .i64 0, .slice none 0 0, .int .i64 0, .bool false, .int .i64 0] = W9 at HZ9 HT9 ⊢
    refine bodyPost_ret (results_row0 rfl _ _ (w.heap.size + 1) 36 #[.int .i64 0, .int .i64 0, .int .i64 0, .slice none 0 0, .int .i64 0, .bool false, .int .i64 0] (0, 0) _ rfl HZ9.out Try.underlying36 rfl (by kernel_rfl)) rfl ?_
    exact ⟨by rw [HE.out], HT9.out⟩
end Go.Proofs.Ytnoegbdmjinfjaa

/-
  Layer 20: the law SendPlays.
-/
namespace Go.Proofs.Ytnoegbdmjinfjaa
set_option maxRecDepth 20000
open Go.RowKit

/-- the program's sender and the reference's, apart -/
structure Pl20 (w W : World) (T : Nat) (B : Nat → Prop) (s : Sd) (R : Nat) (K : Nat → Prop) (u : Sd) : Prop where
  p : SdAt W T B s
  r : RsAt W R K u
  b : Below w.heap.size w W
  gB : ∀ g, B g → w.heap.size ≤ g
  gK : ∀ g, K g → w.heap.size ≤ g
  ne : ∀ g, B g → ¬ K g
section
variable {w W W' : World} {T R : Nat} {B B' K K' : Nat → Prop} {s s' u u' : Sd}
theorem Pl20.grown (h : Pl20 w W T B s R K u) (hb : Below W.heap.size W W') : Pl20 w W' T B s R K u :=
  ⟨h.p.turn (Turn.of_below hb (S := fun _ => False)) (fun _ _ => id), h.r.below hb, h.b.trans (hb.mono h.b.size), h.gB, h.gK, h.ne⟩
theorem Pl20.stepP (h : Pl20 w W T B s R K u) (ha : SdAt W' T B' s') (ht : Turn B W W') (hB : ∀ g, B' g → B g ∨ W.heap.size ≤ g) : Pl20 w W' T B' s' R K u :=
  ⟨ha, h.r.turn ht (fun g hg e => h.ne g e hg), ht.base h.b h.b.size h.gB, fun k hk => (hB k hk).elim (h.gB k) (Nat.le_trans h.b.size), h.gK, fun g hg e => (hB g hg).elim (fun hg => h.ne g hg e) (fun hg => by have := h.r.lt e; omega)⟩
theorem Pl20.stepR (h : Pl20 w W T B s R K u) (ha : RsAt W' R K' u') (ht : Turn K W W') (hK : ∀ g, K' g → K g ∨ W.heap.size ≤ g) : Pl20 w W' T B s R K' u' :=
  ⟨h.p.turn ht (fun g hg e => h.ne g hg e), ha, ht.base h.b h.b.size h.gK, h.gB, fun k hk => (hK k hk).elim (h.gK k) (Nat.le_trans h.b.size), fun g hg e => (hK g e).elim (h.ne g hg) (fun e => by have := h.p.lt hg; omega)⟩
end
set_option maxHeartbeats 4000000 in
theorem plays20_any (z : Int) (v : Value) (ys : List A20) (w1 : World) (hz : (Lit.int .i64 z).wf = true) (h : SlA20 w1 v ys) :
    Calls Try.prog 3 #[.int .i64 z, v] w1 fun e w' => e = .returned (.bool true) ∧ Below w1.heap.size w1 w' := by
  obtain ⟨a, c, rfl, hc1, hc2⟩ := h.1.shape
  unfold maxLen at hc2
  have HZ := Lib.hid hz
  clear hz
  go_enter Try.func3, Try.ntmps3
  go_wp2_with fail
  refine (fits20_any _ ys _ h).mono ?_
  rintro e w0 ⟨rfl, e0⟩
  have e1 := e0.symm
  clear e0
  subst e1
  cases hft : fits20 ys
  · go_wp2_with fail
    refine (alive20 _).mono ?_
    rintro e w2 ⟨rfl, hb2⟩
    have HB2 := Lib.hid hb2
    clear hb2
    go_wp2_with fail
    go_ret
    exact ⟨rfl, HB2.out⟩
  obtain ⟨hy30, hyx⟩ := fits20_yes hft
  have HFX := Lib.hid hyx
  obtain ⟨N, hN⟩ : ∃ N, ys.length = N := ⟨_, rfl⟩
  rw [hN] at h hc1 hy30 ⊢
  have HN := Lib.hid (And.intro hN hy30)
  have HS := Lib.hid h
  clear hN h hft hyx
  by_cases hok : 0 ≤ z ∧ z ≤ 65536
  rotate_left
  · have HOk := Lib.hid hok
    by_cases hz1 : z < 0
    · have d0 : decide (z < 0) = true := decide_eq_true hz1
      clear hok hz1
      go_wp2_with fail
      refine (pNew20_no z _ HZ.out HOk.out).mono ?_
      rintro e w2 ⟨rfl, hb2⟩
      have HB2 := Lib.hid hb2
      clear hb2
      go_wp2_with fail
      refine (alive20 _).mono ?_
      rintro e w3 ⟨rfl, hb3⟩
      have HB3 := Lib.hid (HB2.out.trans (hb3.mono HB2.out.size))
      clear hb3
      go_wp2_with fail
      go_ret
      exact ⟨rfl, HB3.out⟩
    · have d0 : decide (z < 0) = false := decide_eq_false hz1
      have d1 : decide (65536 < z) = true := decide_eq_true (by omega)
      clear hok hz1
      go_wp2_with fail
      refine (pNew20_no z _ HZ.out HOk.out).mono ?_
      rintro e w2 ⟨rfl, hb2⟩
      have HB2 := Lib.hid hb2
      clear hb2
      go_wp2_with fail
      refine (alive20 _).mono ?_
      rintro e w3 ⟨rfl, hb3⟩
      have HB3 := Lib.hid (HB2.out.trans (hb3.mono HB2.out.size))
      clear hb3
      go_wp2_with fail
      go_ret
      exact ⟨rfl, HB3.out⟩
  have HOk := Lib.hid hok
  have d0 : decide (z < 0) = false := decide_eq_false (by omega)
  have d1 : decide (65536 < z) = false := decide_eq_false (by omega)
  clear hok
  go_wp2_with fail
  refine (pNew20_yes z w1 HOk.out).mono ?_
  rintro e w2 ⟨T, B0, rfl, h1, h2, hb2⟩
  have HT := Lib.hid (And.intro h1 (And.intro h2 hb2))
  clear hb2 h1 h2
  go_wp2_with fail
  refine (rbegin20_at z w2).mono ?_
  rintro e w3 ⟨R, K0, rfl, hr, hk, hb3⟩
  have HP0 := Lib.hid (show Pl20 w1 w3 T B0 ⟨z, []⟩ R K0 ⟨z, []⟩ from
    ⟨HT.out.1.turn (Turn.of_below hb3 (S := fun _ => False)) (fun _ _ => id), hr, HT.out.2.2.trans (hb3.mono HT.out.2.2.size), HT.out.2.1, fun g hg => Nat.le_trans HT.out.2.2.size (hk g hg), fun g hg e => by have := HT.out.1.lt hg; have := hk g e; omega⟩)
  clear hr hb3 hk d0 d1
  go_wp2_with fail
  go_loopg [9, 10, 11, 12, 13] N (fun q s9 s10 s11 s12 s13 wr => ∃ k : Nat, k + q = N ∧ s9 = .int .i64 k ∧ ∃ s B K, Hid (Pl20 w1 wr T B s R K s ∧ Inv20 k s))
  case atStart => exact ⟨0, by omega, rfl, _, B0, K0, Lib.hid ⟨HP0.out, Inv20.new z⟩⟩
  case round =>
    obtain ⟨k, hkq, rfl, s, B, K, HP⟩ := hrel
    have HKQ := Lib.hid hkq
    have hk : k ≤ N := by omega
    clear hkq HP0
    by_cases hlt : k < N
    · obtain ⟨x, hx⟩ : ∃ x, ys[k]? = some x := ⟨ys[k]'(by rw [HN.out.1]; exact hlt), List.getElem?_eq_getElem (by rw [HN.out.1]; exact hlt)⟩
      obtain ⟨ab, off, rfl, _⟩ := HS.out.1.at_ (i := k) (by rw [HN.out.1]; exact hlt)
      have HCl := Lib.hid (act_cells HS.out HN.out.1 hx)
      have hmem := List.mem_of_getElem? hx
      have HX := Lib.hid (HS.out.2 _ hmem)
      have HLb := Lib.hid (HFX.out _ hmem)
      obtain ⟨xk, xi, xn, xm, ⟨xb, bv⟩, xl⟩ := x
      have hsl := HX.out.s
      dsimp only at hsl HLb
      obtain ⟨xa, xc, rfl, _⟩ := hsl
      have HSm := Lib.hid (HP.out.2.small (by have := HN.out.2; omega))
      have hix := fun q => run_index_sl (P := Try.prog) (t := 22) (s := 6) slice20 (fun _ => by kernel_rfl) ab off N c k hlt q
      clear hmem hx
      obtain ⟨c0, c1, c2, c3, c4, c5, c6⟩ := HCl.out wr HP.out.1.b
      go_wp2_with fail
      refine (said20_any T B s ⟨xk, xi, xn, xm, (xb, .slice xa xb.length xc), xl⟩ wr HP.out.1.p (HX.out.below HP.out.1.b) HSm.out (by have := HLb.out; dsimp only; omega) (fun h1 g hg e => by have := HX.out.s.lt0 h1 hg; have := HP.out.1.gB g e; omega)).mono ?_
      rintro e w2 ⟨pv, B2, rfl, hp, hpb, hs2, ht2, hB2⟩
      obtain ⟨s2, hq⟩ : ∃ s2, aQ s ⟨xk, xi, xn, xm, (xb, .slice xa xb.length xc), xl⟩ = s2 := ⟨_, rfl⟩
      obtain ⟨F, hF⟩ : ∃ F, aF s ⟨xk, xi, xn, xm, (xb, .slice xa xb.length xc), xl⟩ = F := ⟨_, rfl⟩
      obtain ⟨N0, hN0⟩ : ∃ x, aN s ⟨xk, xi, xn, xm, (xb, .slice xa xb.length xc), xl⟩ = x := ⟨_, rfl⟩
      obtain ⟨I0, hI0⟩ : ∃ x, aI s ⟨xk, xi, xn, xm, (xb, .slice xa xb.length xc), xl⟩ = x := ⟨_, rfl⟩
      obtain ⟨E0, hE0⟩ : ∃ x, aE s ⟨xk, xi, xn, xm, (xb, .slice xa xb.length xc), xl⟩ = x := ⟨_, rfl⟩
      rw [hF] at hp hpb
      rw [hq] at hs2
      rw [hF, hN0, hI0, hE0]
      have HE := Lib.hid (And.intro hF (And.intro hN0 (And.intro hI0 (And.intro hE0 hq))))
      clear hF hN0 hI0 hE0 hq
      obtain ⟨fk, fl, fs, fp⟩ := F
      dsimp only at hp hpb HE ⊢
      obtain ⟨pa, pc, rfl, _⟩ := (show _ from hp)
      have HP2 := Lib.hid (HP.out.1.stepP hs2 ht2 hB2)
      have HPv := Lib.hid (And.intro hp hpb)
      have HSz2 := Lib.hid ht2.size
      clear hs2 ht2 hB2 hp hpb c0 c1 c2 c3 c4 c5 c6
      obtain ⟨W3, hW3⟩ : ∃ W3, w2.alloc (.cells #[.int .i64 fk, .int .i64 fl, .int .i64 fs, .slice pa fp.length pc, .int .i64 N0, .bool I0, .int .i64 E0] 36) = W3 := ⟨_, rfl⟩
      obtain ⟨g10, hg10⟩ : ∃ g, w2.heap.size = g := ⟨_, rfl⟩
      have hb3 : Below w2.heap.size w2 W3 := by rw [← hW3]; exact (Below.refl _ _).alloc (Nat.le_refl _) _
      have hz3 : W3.heap[g10]? = some (.cells #[.int .i64 fk, .int .i64 fl, .int .i64 fs, .slice pa fp.length pc, .int .i64 N0, .bool I0, .int .i64 E0] 36 (0, 0)) := by rw [← hW3, ← hg10]; exact heap_alloc_new _ _
      have HP3 := Lib.hid (And.intro (HP2.out.grown hb3) (And.intro hz3 (HPv.out.1.below hb3)))
      have HG := Lib.hid hg10
      obtain ⟨c0, c1, c2, c3, c4, c5, c6⟩ := HCl.out W3 HP3.out.1.b
      clear hb3 hz3
      go_wp2_with fail
      refine (want20_any R K s ⟨xk, xi, xn, xm, (xb, .slice xa xb.length xc), xl⟩ W3 HP3.out.1.r (HX.out.below HP3.out.1.b) HSm.out (by have := HLb.out; dsimp only; omega) (fun h1 g hg e => by have := HX.out.s.lt0 h1 hg; have := HP.out.1.gK g e; omega)).mono ?_
      rintro e w4 ⟨qv, K2, rfl, hp, hpb, hs2, ht2, hB2⟩
      rw [HE.out.1] at hp hpb
      rw [HE.out.2.2.2.2] at hs2
      rw [HE.out.1, HE.out.2.1, HE.out.2.2.1, HE.out.2.2.2.1]
      dsimp only at hp hpb ⊢
      obtain ⟨qa, qc, rfl, _⟩ := (show _ from hp)
      have HP4 := Lib.hid (HP3.out.1.stepR hs2 ht2 hB2)
      have HPa := Lib.hid (show Sl .u8 w4 (.slice pa fp.length pc) fp from HP3.out.2.2.turn0 ht2 (fun h1 g hg e => by
        rcases HPv.out.2 h1 g hg with hg | hg
        · exact HP.out.1.ne g hg e
        · have := HP.out.1.r.lt e; omega))
      have HPb := Lib.hid hp
      have HZ4 := Lib.hid (ht2.obj HP3.out.2.1 (fun e => by have := HP2.out.r.lt e; have := HG.out; omega))
      clear hs2 ht2 hB2 hp hpb c0 c1 c2 c3 c4 c5 c6 hW3 hg10
      obtain ⟨W5, hW5⟩ : ∃ W5, w4.alloc (.cells #[.int .i64 fk, .int .i64 fl, .int .i64 fs, .slice qa fp.length qc, .int .i64 N0, .bool I0, .int .i64 E0] 36) = W5 := ⟨_, rfl⟩
      obtain ⟨g11, hg11⟩ : ∃ g, w4.heap.size = g := ⟨_, rfl⟩
      have hb5 : Below w4.heap.size w4 W5 := by rw [← hW5]; exact (Below.refl _ _).alloc (Nat.le_refl _) _
      have hz5 : W5.heap[g11]? = some (.cells #[.int .i64 fk, .int .i64 fl, .int .i64 fs, .slice qa fp.length qc, .int .i64 N0, .bool I0, .int .i64 E0] 36 (0, 0)) := by rw [← hW5, ← hg11]; exact heap_alloc_new _ _
      have HZ5 := Lib.hid (And.intro ((Turn.of_below hb5 (S := fun _ => False)).obj HZ4.out id) hz5)
      have HP5 := Lib.hid (And.intro (HP4.out.grown hb5) (And.intro (HPa.out.below hb5) (HPb.out.below hb5)))
      have k0 : W5.cell? ⟨g10, 0, none⟩ = some (.int .i64 fk) := blk_cell (j := 0) HZ5.out.1 rfl
      have k1 : W5.cell? ⟨g10, 1, none⟩ = some (.int .i64 fl) := blk_cell (j := 1) HZ5.out.1 rfl
      have k2 : W5.cell? ⟨g10, 2, none⟩ = some (.int .i64 fs) := blk_cell (j := 2) HZ5.out.1 rfl
      have k3 : W5.cell? ⟨g10, 3, none⟩ = some (.slice pa fp.length pc) := blk_cell (j := 3) HZ5.out.1 rfl
      have k4 : W5.cell? ⟨g11, 0, none⟩ = some (.int .i64 fk) := blk_cell (j := 0) HZ5.out.2 rfl
      have k5 : W5.cell? ⟨g11, 1, none⟩ = some (.int .i64 fl) := blk_cell (j := 1) HZ5.out.2 rfl
      have k6 : W5.cell? ⟨g11, 2, none⟩ = some (.int .i64 fs) := blk_cell (j := 2) HZ5.out.2 rfl
      have k7 : W5.cell? ⟨g11, 3, none⟩ = some (.slice qa fp.length qc) := blk_cell (j := 3) HZ5.out.2 rfl
      have k8 := (Array.getElem?_eq_some_iff.1 HZ5.out.1).1
      have k9 := (Array.getElem?_eq_some_iff.1 HZ5.out.2).1
      clear hb5 hz5
      go_wp2_with fail
      refine (refSame_frame _ _ ⟨fk, fl, fs, fp⟩ ⟨fk, fl, fs, fp⟩ W5 ⟨_, rfl, HP5.out.2.1⟩ ⟨_, rfl, HP5.out.2.2⟩).mono ?_
      rintro e w6 ⟨rfl, hb6⟩
      rw [decide_eq_true rfl]
      have HP6 := Lib.hid (And.intro (HP5.out.1.grown hb6) (And.intro ((Turn.of_below hb6 (S := fun _ => False)).obj HZ5.out.1 id) ((Turn.of_below hb6 (S := fun _ => False)).obj HZ5.out.2 id)))
      have HI2 := Lib.hid (show Inv20 (k + 1) s2 from by rw [← HE.out.2.2.2.2]; exact HP.out.2.act HLb.out)
      have HS2 := Lib.hid (HI2.out.small (by have := HN.out.2; omega))
      clear hb6 k0 k1 k2 k3 k4 k5 k6 k7 k8 k9 hW5 hg11
      go_wp2_with fail
      refine (pIDs20 HP6.out.1.p HS2.out).mono ?_
      rintro e w7 ⟨v1, rfl, hv1, hb7, _⟩
      have HP7 := Lib.hid (And.intro (HP6.out.1.grown hb7) (And.intro ((Turn.of_below hb7 (S := fun _ => False)).obj HP6.out.2.1 id) ((Turn.of_below hb7 (S := fun _ => False)).obj HP6.out.2.2 id)))
      have HV1 := Lib.hid hv1
      clear hv1 hb7
      go_wp2_with fail
      refine (rids20_at HP7.out.1.r HS2.out HI2.out.ids).mono ?_
      rintro e w8 ⟨v2, rfl, hv2, hb8, _⟩
      have HP8 := Lib.hid (And.intro (HP7.out.1.grown hb8) (And.intro ((Turn.of_below hb8 (S := fun _ => False)).obj HP7.out.2.1 id) ((Turn.of_below hb8 (S := fun _ => False)).obj HP7.out.2.2 id)))
      have HV2 := Lib.hid (And.intro (HV1.out.below hb8) hv2)
      clear hv2 hb8
      go_wp2_with fail
      refine (ints17_any v1 v2 _ _ w8 HV2.out.1 HV2.out.2).mono ?_
      rintro e w9 ⟨rfl, n9, e9⟩
      rw [decide_eq_true rfl]
      have hb9 : Below w8.heap.size w8 w9 := by rw [e9]; exact below_drewN (Below.refl _ _) _
      have HP9 := Lib.hid (And.intro (HP8.out.1.grown hb9) (And.intro ((Turn.of_below hb9 (S := fun _ => False)).obj HP8.out.2.1 id) ((Turn.of_below hb9 (S := fun _ => False)).obj HP8.out.2.2 id)))
      clear hb9 e9
      have a0 : w9.cell? ⟨g10, 4, none⟩ = some (.int .i64 N0) := blk_cell (j := 4) HP9.out.2.1 rfl
      have a1 : w9.cell? ⟨g10, 5, none⟩ = some (.bool I0) := blk_cell (j := 5) HP9.out.2.1 rfl
      have a2 : w9.cell? ⟨g10, 6, none⟩ = some (.int .i64 E0) := blk_cell (j := 6) HP9.out.2.1 rfl
      have a3 : w9.cell? ⟨g11, 4, none⟩ = some (.int .i64 N0) := blk_cell (j := 4) HP9.out.2.2 rfl
      have a4 : w9.cell? ⟨g11, 5, none⟩ = some (.bool I0) := blk_cell (j := 5) HP9.out.2.2 rfl
      have a5 : w9.cell? ⟨g11, 6, none⟩ = some (.int .i64 E0) := blk_cell (j := 6) HP9.out.2.2 rfl
      have a6 := (Array.getElem?_eq_some_iff.1 HP9.out.2.1).1
      have a7 := (Array.getElem?_eq_some_iff.1 HP9.out.2.2).1
      go_wp2_with fail
      refine (pWaiting20 HP9.out.1.p HS2.out).mono ?_
      rintro e w10 ⟨rfl, hb10⟩
      have HP10 := Lib.hid (HP9.out.1.grown hb10)
      clear hb10 a0 a1 a2 a3 a4 a5 a6 a7
      go_wp2_with fail
      refine (rwaiting20_at HP10.out.r HS2.out).mono ?_
      rintro e w11 ⟨rfl, e0⟩
      have e1 := e0.symm
      clear e0
      subst e1
      go_wp2_with fail
      refine (pHeads20 HP10.out.p HS2.out).mono ?_
      rintro e w11 ⟨rfl, hb11⟩
      have HP11 := Lib.hid (HP10.out.grown hb11)
      clear hb11
      go_wp2_with fail
      refine (rheads20_at HP11.out.r HS2.out).mono ?_
      rintro e w12 ⟨rfl, e0⟩
      have e1 := e0.symm
      clear e0
      subst e1
      go_wp2_with fail
      go_roundg (N - (k + 1))
      case measure => have := HKQ.out; omega
      case rel => exact ⟨k + 1, by omega, by go_num, s2, B2, K2, Lib.hid ⟨HP11.out, HI2.out⟩⟩
    · obtain rfl : k = N := by omega
      clear hlt hk
      have HB := Lib.hid HP.out.1.b
      go_wp2_with fail
      go_loopg [15, 16] 10 (fun q s15 s16 wr2 => ∃ j : Nat, j + q = 10 ∧ s15 = .int .i64 j ∧ Hid (Below w1.heap.size w1 wr2))
      case atStart => exact ⟨0, by omega, rfl, HB⟩
      case round =>
        obtain ⟨j, hjq, rfl, HBw⟩ := hrel
        have HJQ := Lib.hid hjq
        have hj10 : j ≤ 10 := by omega
        clear hjq
        by_cases hj : j < 10
        · have d1 : decide ((j : Int) < 10) = true := decide_eq_true (by omega)
          have hwr : IntKind.u8.wrap (j : Int) = (j : Int) := by simp [IntKind.wrap, IntKind.bits, IntKind.signed]; omega
          have hcase : (j = 5 ∧ nilE20 ⟨(j : Int), 1, 0, 0, ([], .slice none 0 0), false⟩ = 0) ∨ (((j : Int) != 5) = true ∧ decide ((j : Int) < 7) = true ∧ nilE20 ⟨(j : Int), 1, 0, 0, ([], .slice none 0 0), false⟩ = 1) ∨ (((j : Int) != 5) = true ∧ decide ((j : Int) < 7) = false ∧ nilE20 ⟨(j : Int), 1, 0, 0, ([], .slice none 0 0), false⟩ = 0) := by
            have hm : (j : Int) % 10 = j := by omega
            unfold nilE20
            dsimp only
            rw [hm]
            by_cases h5 : j = 5
            · exact .inl ⟨h5, by rw [h5]; rfl⟩
            · have h5' : ((j : Int) != 5) = true := by rw [bne_iff_ne]; omega
              by_cases h7 : j < 7
              · exact .inr (.inl ⟨h5', decide_eq_true (by omega), by rw [if_neg (by omega)]⟩)
              · exact .inr (.inr ⟨h5', decide_eq_false (by omega), by rw [if_pos (by omega)]⟩)
          have HOk0 := Lib.hid (show Ok20 wr ⟨(j : Int), 1, 0, 0, ([], .slice none 0 0), false⟩ from ⟨Sl.nil _ _, by dsimp only; omega, by dsimp only; omega, show (Lit.int .i64 1).wf = true by decide, show (Lit.int .i64 0).wf = true by decide, show (Lit.int .i64 0).wf = true by decide⟩)
          have HCase := Lib.hid hcase
          have HLt := Lib.hid hj
          clear hcase hj
          go_wp2_with fail
          refine (said20_nil _ wr HOk0.out).mono ?_
          rintro e w2 ⟨rfl, hb2⟩
          have HB2 := Lib.hid (HBw.out.trans (hb2.mono HBw.out.size))
          clear hb2
          obtain ⟨E, hE⟩ : ∃ E, nilE20 ⟨(j : Int), 1, 0, 0, ([], .slice none 0 0), false⟩ = E := ⟨_, rfl⟩
          rw [hE] at HCase ⊢
          clear hE
          have HB3 := Lib.hid (show ∀ cs, Below w1.heap.size w1 (w2.alloc (.cells cs 36)) from fun cs => HB2.out.alloc HB2.out.size _)
          rcases HCase.out with ⟨rfl, rfl⟩ | ⟨h5, h7, rfl⟩ | ⟨h5, h7, rfl⟩
          · go_wp2_with fail
            go_roundg 4
            case measure => have := HJQ.out; omega
            case rel => exact ⟨6, by omega, by go_num, Lib.hid (HB3.out _)⟩
          · go_wp2_with fail
            go_roundg (10 - (j + 1))
            case measure => have := HJQ.out; have := HLt.out; omega
            case rel => exact ⟨j + 1, by have := HLt.out; omega, by go_num, Lib.hid (HB3.out _)⟩
          · go_wp2_with fail
            go_roundg (10 - (j + 1))
            case measure => have := HJQ.out; have := HLt.out; omega
            case rel => exact ⟨j + 1, by have := HLt.out; omega, by go_num, Lib.hid (HB3.out _)⟩
        · obtain rfl : j = 10 := by omega
          clear hj hj10
          go_wp2_with fail
          refine (alive20 _).mono ?_
          rintro e w2 ⟨rfl, hb2⟩
          have HB2 := Lib.hid (HBw.out.trans (hb2.mono HBw.out.size))
          clear hb2
          go_wp2_with fail
          refine (pIDs20_nil _).mono ?_
          rintro e w3 ⟨⟨av, cv, rfl⟩, hb3⟩
          have HB3 := Lib.hid (HB2.out.trans (hb3.mono HB2.out.size))
          clear hb3
          go_wp2_with fail
          refine (pWaiting20_nil _).mono ?_
          rintro e w4 ⟨rfl, hb4⟩
          have HB4 := Lib.hid (HB3.out.trans (hb4.mono HB3.out.size))
          clear hb4
          go_wp2_with fail
          refine (pHeads20_nil _).mono ?_
          rintro e w5 ⟨rfl, hb5⟩
          have HB5 := Lib.hid (HB4.out.trans (hb5.mono HB4.out.size))
          clear hb5
          go_wp2_with fail
          go_ret
          exact ⟨rfl, HB5.out⟩
end Go.Proofs.Ytnoegbdmjinfjaa

/-
  How an argument that is a slice of acts of layer 20 is opened. No function of the program is named here.
-/
namespace Go.Proofs.Ytnoegbdmjinfjaa
open Go.ChangeShapes Go.WideShapes Go.ChangeAt Go.RowKit Go.Joins Go.Deep

section
variable {H : Type} {enc : TypeId × Value → H} {P : Program} {W : World}
theorem acts20_open {r : Reach} {b0 : Nat} {t e eb : TypeId} {f0 f1 f2 f3 f4 f5 : Field} {v : Value} {d : DataW H} {p : List MemPlace} (ht : P.underlying t = some (.slice e)) (hs : P.underlying e = some (.struct #[f0, f1, f2, f3, f4, f5])) (h0 : f0.offset = 0 ∧ P.cellsOf f0.type = 1 ∧ P.underlying f0.type = some (.int .u8))
    (h1 : f1.offset = 1 ∧ P.cellsOf f1.type = 1 ∧ P.underlying f1.type = some (.int .i64)) (h2 : f2.offset = 2 ∧ P.cellsOf f2.type = 1 ∧ P.underlying f2.type = some (.int .i64)) (h3 : f3.offset = 3 ∧ P.cellsOf f3.type = 1 ∧ P.underlying f3.type = some (.int .i64))
    (h4 : f4.offset = 4 ∧ P.cellsOf f4.type = 1 ∧ P.underlying f4.type = some (.slice eb)) (h5 : f5.offset = 5 ∧ P.cellsOf f5.type = 1 ∧ P.underlying f5.type = some .bool) (hb : P.underlying eb = some (.int .u8)) (hc : P.cellsOf eb = 1) (hC : P.cellsOf e = 6)
    (hv : Value.okWide P W r b0 t v) (h : DataW.Trod enc P W 0 (fun _ => true) true t v d p) : ∃ ys, SlA20 W v ys := by
  have h1 := Opn.arg (Rd := fun cs => ∃ v ys, cs = [v] ∧ SlC a20C 6 W v ys ∧ ∀ y ∈ ys, Ok20 W y) ht hv h (Opn.rows ht (by decide) hC (fun _ => rfl) (((Opn.len (enc := enc) (W := W) hs).and ((Opn.field hs 0 f0 rfl 0 1 h0.1 h0.2.1 (Opn.u8 h0.2.2)).and ((Opn.field hs 1 f1 rfl 1 1 h1.1 h1.2.1 (Opn.int h1.2.2)).and ((Opn.field hs 2 f2 rfl 2 1 h2.1 h2.2.1 (Opn.int h2.2.2)).and ((Opn.field hs 3 f3 rfl 3 1 h3.1 h3.2.1 (Opn.int h3.2.2)).and
      ((Opn.field hs 4 f4 rfl 4 1 h4.1 h4.2.1 (Opn.ints h4.2.2 hb hc)).and (Opn.field hs 5 f5 rfl 5 1 h5.1 h5.2.1 (Opn.bool h5.2.2)))))))).mono (by
    rintro cs ⟨hl, ⟨k, e0, hk⟩, ⟨i, e1, hi⟩, ⟨n, e2, hn⟩, ⟨m, e3, hm⟩, ⟨bv, bs, e4, hbs⟩, ⟨la, e5⟩⟩
    rw [hC] at hl
    match cs, hl with
    | [c0, c1, c2, c3, c4, c5], _ =>
      simp at e0 e1 e2 e3 e4 e5
      subst e0 e1 e2 e3 e4 e5
      exact ⟨⟨k, i, n, m, (bs, c4), la⟩, rfl, ⟨hbs, hk.1, hk.2, hi, hn, hm⟩⟩)))
  obtain ⟨v', ys, e1, h2, h3⟩ := h1
  simp only [List.cons.injEq, and_true] at e1
  subst e1
  exact ⟨ys, h2, h3⟩
end
end Go.Proofs.Ytnoegbdmjinfjaa

/-
  Layer 20: one stream followed through acts: its window, its bytes, its head; ids stay apart; never more than the cap waits.
-/
namespace Go.Proofs.Ytnoegbdmjinfjaa
open Go.RowKit

/-- no id twice -/
def Uq20 (s : Sd) : Prop := (s.l.map (·.id)).Nodup
/-- the head was not said (0), waits (1), is gone (2) -/
def hd20 (x : Sm) : Int := if x.said = true then (if x.waits = true then 1 else 2) else 0
/-- what has not been said has neither bytes nor a last -/
def Gd20 (x : Sm) : Prop := x.said = false → x.b = [] ∧ x.waits = false ∧ x.fin = false
structure Ref20 (x : Sm) (d : List Int) (h : Int) (l : Bool) (w : Int) : Prop where
  w : x.win = w
  b : x.b = d
  l : x.fin = l
  h : hd20 x = h
structure J20 (k : Nat) (s : Sd) (cap id : Int) (d : List Int) (h : Int) (l : Bool) (w : Int) : Prop where
  i : Inv20 k s
  u : Uq20 s
  c : s.cap = cap
  m : (sumB s.l : Int) ≤ cap
  g : ∀ x ∈ s.l, Gd20 x
  r : ∀ x, get20 s id = some x → Ref20 x d h l w
theorem get_set {l : List Sm} {k : Nat} {y y' : Sm} {p : Sm → Bool} (hy : l[k]? = some y) (hp : p y = false) (hp' : p y' = false) : (l.set k y').find? p = l.find? p := by
  induction l generalizing k with
  | nil => rfl
  | cons z r ih =>
    cases k with
    | zero =>
      obtain rfl : z = y := by simpa using hy
      simp [hp, hp']
    | succ k => simp only [List.set_cons_succ, List.find?_cons]; rw [ih (by simpa using hy)]
theorem get_set_same {l : List Sm} {y' : Sm} {p : Sm → Bool} (h : l.any p = true) (hp' : p y' = true) : (l.set (l.findIdx p) y').find? p = some y' := by
  induction l with
  | nil => cases h
  | cons z r ih =>
    rw [List.findIdx_cons]
    cases hz : p z with
    | true => simp [hp']
    | false =>
      simp only [cond_false, List.set_cons_succ, List.find?_cons, hz]
      exact ih (by simpa [hz] using h)
theorem hasId_iff {id : Int} {x : Sm} : hasId id x = true ↔ x.id = id := by simp [hasId]
theorem get20_id {s : Sd} {id : Int} {x : Sm} (h : get20 s id = some x) : x.id = id := hasId_iff.1 (List.find?_some h)
theorem get20_any {s : Sd} {id : Int} {x : Sm} (h : get20 s id = some x) : s.l.any (hasId id) = true := List.any_eq_true.2 ⟨x, get20_mem h, List.find?_some h⟩
/-- of an id there is one stream -/
theorem Uq20.one {s : Sd} (h : Uq20 s) {k : Nat} {x : Sm} (hx : s.l[k]? = some x) : get20 s x.id = some x ∧ s.l.findIdx (hasId x.id) = k := by
  have ha : s.l.any (hasId x.id) = true := List.any_eq_true.2 ⟨x, List.mem_of_getElem? hx, hasId_iff.2 rfl⟩
  obtain ⟨j, y, hat, hy, hg, _, hid⟩ := get20_some ha
  have hj : s.l.findIdx (hasId x.id) = j := by
    rw [at20, if_pos ha] at hat
    exact Int.ofNat.inj hat
  have e : j = k := by
    have h1 : (s.l.map (·.id))[j]? = some x.id := by rw [List.getElem?_map, hy]; simp [hid]
    have h2 : (s.l.map (·.id))[k]? = some x.id := by rw [List.getElem?_map, hx]; rfl
    obtain ⟨hjl, e1⟩ := List.getElem?_eq_some_iff.1 h1
    obtain ⟨hkl, e2⟩ := List.getElem?_eq_some_iff.1 h2
    have hp := List.pairwise_iff_getElem.1 h
    rcases Nat.lt_trichotomy j k with hlt | e | hlt
    · exact absurd (e1.trans e2.symm) (hp j k hjl hkl hlt)
    · exact e
    · exact absurd (e2.trans e1.symm) (hp k j hkl hjl hlt)
  subst e
  rw [hx] at hy
  obtain rfl := Option.some.inj hy
  exact ⟨hg, hj⟩
theorem Uq20.set {s : Sd} (h : Uq20 s) {k : Nat} {x x' : Sm} (hx : s.l[k]? = some x) (he : x'.id = x.id) : Uq20 { s with l := s.l.set k x' } := by
  unfold Uq20 at h ⊢
  rw [List.map_set, he]
  rwa [set_same20 (by rw [List.getElem?_map, hx]; rfl)]
theorem Uq20.drop {s : Sd} (h : Uq20 s) (id : Int) : Uq20 (dropS s id) := List.Pairwise.sublist (List.Sublist.map _ List.filter_sublist) h
theorem insS_uq {x : Sm} : ∀ {l : List Sm}, (l.map (·.id)).Nodup → l.any (hasId x.id) = false → ((insS x l).map (·.id)).Nodup
  | [], _, _ => by simp [insS]
  | y :: r, h, hn => by
    simp only [List.map_cons] at h
    obtain ⟨h1, h2⟩ := List.nodup_cons.1 h
    simp only [List.any_cons, Bool.or_eq_false_iff] at hn
    have hyx : y.id ≠ x.id := fun e => by rw [hasId_iff.2 e] at hn; cases hn.1
    have hxr : ∀ z ∈ r, z.id ≠ x.id := fun z hz e => by
      have : r.any (hasId x.id) = true := List.any_eq_true.2 ⟨z, hz, hasId_iff.2 e⟩
      rw [hn.2] at this; cases this
    unfold insS
    split
    · simp only [List.map_cons]
      refine List.nodup_cons.2 ⟨fun hm => ?_, h⟩
      rcases List.mem_cons.1 hm with e | hm
      · exact hyx e.symm
      · obtain ⟨z, hz, e⟩ := List.mem_map.1 hm
        exact hxr z hz e
    · simp only [List.map_cons]
      refine List.nodup_cons.2 ⟨fun hm => ?_, insS_uq h2 hn.2⟩
      obtain ⟨z, hz, e⟩ := List.mem_map.1 hm
      rcases insS_mem hz with rfl | hz
      · exact hyx e.symm
      · exact h1 (List.mem_map.2 ⟨z, hz, e⟩)
theorem insS_get {x : Sm} {p : Sm → Bool} (hp : p x = false) : ∀ l : List Sm, (insS x l).find? p = l.find? p
  | [] => by simp [insS, hp]
  | y :: r => by
    unfold insS
    split
    · simp [hp]
    · simp only [List.find?_cons]; rw [insS_get hp r]
theorem insS_own {x : Sm} {p : Sm → Bool} (hp : p x = true) : ∀ {l : List Sm}, l.any p = false → (insS x l).find? p = some x
  | [], _ => by simp [insS, hp]
  | y :: r, h => by
    simp only [List.any_cons, Bool.or_eq_false_iff] at h
    unfold insS
    split
    · simp [hp]
    · simp only [List.find?_cons, h.1]; exact insS_own hp h.2
theorem insS_sum (x : Sm) : ∀ l : List Sm, sumB (insS x l) = x.b.length + sumB l
  | [] => by simp [insS, sumB]
  | y :: r => by
    unfold insS
    split
    · simp [sumB]
    · have := insS_sum x r
      simp only [sumB, List.foldr_cons] at this ⊢
      omega
theorem sum_set {l : List Sm} {k : Nat} {x x' : Sm} (hx : l[k]? = some x) : sumB (l.set k x') + x.b.length = sumB l + x'.b.length := by
  induction l generalizing k with
  | nil => simp at hx
  | cons z r ih =>
    cases k with
    | zero =>
      obtain rfl : z = x := by simpa using hx
      simp only [List.set_cons_zero, sumB, List.foldr_cons]; omega
    | succ k =>
      have := ih (by simpa using hx)
      simp only [List.set_cons_succ, sumB, List.foldr_cons] at this ⊢
      omega
theorem sum_filter (p : Sm → Bool) : ∀ l : List Sm, sumB (l.filter p) ≤ sumB l
  | [] => Nat.le_refl _
  | y :: r => by
    have := sum_filter p r
    rw [List.filter_cons]
    split <;> simp only [sumB, List.foldr_cons] at this ⊢ <;> omega
theorem drop_get {s : Sd} {id id' : Int} (h : id ≠ id') : get20 (dropS s id') id = get20 s id := by
  unfold get20 dropS
  dsimp only
  induction s.l with
  | nil => rfl
  | cons y r ih =>
    rw [List.filter_cons]
    split
    · simp only [List.find?_cons]; rw [ih]
    · rename_i hy
      have hy' : y.id = id' := by simpa [hasId] using hy
      rw [ih, List.find?_cons]
      have : hasId id y = false := by simp [hasId, hy']; exact fun e => h e.symm
      rw [this]
theorem drop_own (s : Sd) (id : Int) : get20 (dropS s id) id = none := List.find?_eq_none.2 (fun x hx e => by
  have := (List.mem_filter.1 hx).2
  rw [e] at this
  cases this)
section
variable {k : Nat} {s : Sd} {cap id : Int} {d : List Int} {h w : Int} {l : Bool}
theorem J20.new (cap id : Int) (hc : 0 ≤ cap) : J20 0 ⟨cap, []⟩ cap id [] 0 false 0 := ⟨Inv20.new cap, List.nodup_nil, rfl, by simpa [sumB] using hc, (fun x hx => by cases hx), (fun x hx => by cases hx)⟩
/-- a stream of whatever id is put in its old one's place -/
theorem J20.put (hj : J20 k s cap id d h l w) {i : Nat} {x x' : Sm} (hi : Inv20 (k + 1) { s with l := s.l.set i x' }) (hx : s.l[i]? = some x) (he : x'.id = x.id) (hm : (sumB s.l : Int) + x'.b.length ≤ cap + x.b.length) (hg : Gd20 x') {d' : List Int} {h' w' : Int} {l' : Bool}
    (hr : x.id = id → Ref20 x' d' h' l' w') (hn : x.id ≠ id → ∀ y, get20 s id = some y → Ref20 y d' h' l' w') : J20 (k + 1) { s with l := s.l.set i x' } cap id d' h' l' w' := by
  refine ⟨hi, hj.u.set hx he, hj.c, by have := sum_set (x' := x') hx; show (sumB (s.l.set i x') : Int) ≤ cap; omega, fun y hy => ?_, fun y hy => ?_⟩
  · rcases List.mem_or_eq_of_mem_set hy with hy | rfl
    · exact hj.g y hy
    · exact hg
  · by_cases e : x.id = id
    · have h1 := hj.u.one hx
      have h2 := get_set_same (y' := x') (get20_any h1.1) (hasId_iff.2 he)
      rw [h1.2] at h2
      rw [e] at h2
      have h3 : some x' = some y := h2.symm.trans hy
      obtain rfl := Option.some.inj h3
      exact hr e
    · have h2 : (s.l.set i x').find? (hasId id) = s.l.find? (hasId id) := get_set hx (by simpa [hasId] using e) (by simpa [hasId, he] using e)
      exact hn e y (h2.symm.trans hy)
theorem J20.drop (hj : J20 k s cap id d h l w) (id' : Int) : J20 k (dropS s id') cap id d h l w := by
  refine ⟨hj.i.drop id', hj.u.drop id', hj.c, by have := sum_filter (fun x => !hasId id' x) s.l; have := hj.m; show (sumB (s.l.filter _) : Int) ≤ cap; omega, fun y hy => hj.g y (List.mem_filter.1 hy).1, fun y hy => ?_⟩
  by_cases e : id = id'
  · subst e
    rw [drop_own] at hy
    cases hy
  · rw [drop_get e] at hy
    exact hj.r y hy
theorem J20.any (hj : J20 k s cap id d h l w) (hn : get20 s id = none) (d' : List Int) (h' : Int) (l' : Bool) (w' : Int) : J20 k s cap id d' h' l' w' := ⟨hj.i, hj.u, hj.c, hj.m, hj.g, fun y hy => by rw [hn] at hy; cases hy⟩
theorem J20.up (hj : J20 k s cap id d h l w) : J20 (k + 1) s cap id d h l w := ⟨hj.i.up, hj.u, hj.c, hj.m, hj.g, hj.r⟩
theorem shiftN_zero {l : List Sm} {n : Int} (h1 : ∀ x ∈ l, 1 ≤ x.id) (h : shiftN l n = 0) : l.all (okS n) = true := by
  unfold shiftN at h
  cases hf : l.find? (fun x => !okS n x) with
  | none => exact List.all_eq_true.2 (fun x hx => by have := List.find?_eq_none.1 hf x hx; simpa using this)
  | some x =>
    rw [hf] at h
    have := h1 x (List.mem_of_find?_eq_some hf)
    dsimp only at h
    omega
theorem map_get (n : Int) (id : Int) : ∀ l : List Sm, (l.map (movS n)).find? (hasId id) = (l.find? (hasId id)).map (movS n)
  | [] => rfl
  | y :: r => by
    simp only [List.map_cons, List.find?_cons]
    have : hasId id (movS n y) = hasId id y := rfl
    rw [this]
    cases hasId id y with
    | true => rfl
    | false => exact map_get n id r
theorem map_sum (n : Int) : ∀ l : List Sm, sumB (l.map (movS n)) = sumB l
  | [] => rfl
  | y :: r => by
    have := map_sum n r
    simp only [List.map_cons, sumB, List.foldr_cons] at this ⊢
    rw [this]; rfl
end
end Go.Proofs.Ytnoegbdmjinfjaa

/-
  Layer 20: one stream followed through each kind of act.
-/
namespace Go.Proofs.Ytnoegbdmjinfjaa
open Go.RowKit

section
variable {k : Nat} {s : Sd} {cap id : Int} {d : List Int} {h w : Int} {l : Bool} {x : A20}
theorem put_at {q : Sd} {id : Int} {y : Sm} (hg : get20 q id = some y) : ∃ i, q.l[i]? = some y ∧ ∀ y', put20 q id y' = { q with l := q.l.set i y' } := by
  obtain ⟨i, y2, _, h1, h2, h3, _⟩ := get20_some (get20_any hg)
  rw [hg] at h2
  obtain rfl := Option.some.inj h2
  exact ⟨i, h1, h3⟩
/-- an act that changes one stream by its own id -/
theorem J20.own (hj : J20 k s cap id d h l w) {y y' : Sm} {id' : Int} (hg : get20 s id' = some y) (hi : Inv20 (k + 1) (put20 s id' y')) (he : y'.id = y.id) (hm : (sumB s.l : Int) + y'.b.length ≤ cap + y.b.length) (hgd : Gd20 y') {d' : List Int} {h' w' : Int} {l' : Bool}
    (hr : id' = id → Ref20 y' d' h' l' w') (hn : id' ≠ id → ∀ z, get20 s id = some z → Ref20 z d' h' l' w') : J20 (k + 1) (put20 s id' y') cap id d' h' l' w' := by
  obtain ⟨i, h1, h2⟩ := put_at hg
  rw [h2] at hi ⊢
  have hid := get20_id hg
  exact hj.put hi h1 he hm hgd (fun e => hr (hid.symm.trans e)) (fun e => hn (fun e2 => e (hid.trans e2)))
theorem act_shift (hj : J20 k s cap id d h l w) (hb : x.b.1.length ≤ 300) (hk : x.k % 10 = 5) : J20 (k + 1) (aQ s x) cap id d h l (if aN s x = 0 then (shiftW w x.n).1 else w) := by
  have hi := hj.i.act hb
  have e1 : aQ s x = shiftS s x.n := by simp [aQ, hk]
  have e2 : aN s x = shiftN s.l x.n := by simp [aN, hk]
  rw [e1] at hi ⊢
  rw [e2]
  by_cases h0 : shiftN s.l x.n = 0
  · have ha := shiftN_zero (fun y hy => (hj.i.o y hy).i.1) h0
    have e3 := (shift_ok ha).2
    rw [e3] at hi ⊢
    rw [if_pos h0]
    refine ⟨hi, ?_, hj.c, by show (sumB (s.l.map _) : Int) ≤ cap; rw [map_sum]; exact hj.m, fun y hy => ?_, fun y hy => ?_⟩
    · show ((s.l.map (movS x.n)).map (·.id)).Nodup
      rw [List.map_map]
      exact hj.u
    · obtain ⟨z, hz, rfl⟩ := List.mem_map.1 hy
      exact hj.g z hz
    · have h1 : get20 { s with l := s.l.map (movS x.n) } id = (get20 s id).map (movS x.n) := map_get x.n id s.l
      rw [h1] at hy
      obtain ⟨z, hz, rfl⟩ := Option.map_eq_some_iff.1 hy
      have hr := hj.r z hz
      exact ⟨by show (shiftW z.win x.n).1 = _; rw [hr.w], hr.b, hr.l, hr.h⟩
  · rw [if_neg h0]
    have e3 : shiftS s x.n = s := by
      unfold shiftS
      rw [if_neg (fun ha => h0 (shift_ok ha).1)]
    rw [e3]
    exact hj.up
theorem act_drop (hj : J20 k s cap id d h l w) (hk : x.k % 10 = 6) : J20 (k + 1) (aQ s x) cap id d h l w := by
  have e1 : aQ s x = dropS s x.id := by simp [aQ, hk]
  rw [e1]
  exact (hj.drop _).up
theorem act_open (hj : J20 k s cap id d h l w) (hb : x.b.1.length ≤ 300) (hk : x.k % 10 = 0) : (x.id = id → aE s x = 0 → J20 (k + 1) (aQ s x) cap id [] 0 false x.n) ∧ (¬ (x.id = id ∧ aE s x = 0) → J20 (k + 1) (aQ s x) cap id d h l w) := by
  have hi := hj.i.act hb
  have e1 : aQ s x = openQ20 s x.id x.n := by simp [aQ, hk]
  have e2 : aE s x = openE20 s x.id x.n := by simp [aE, hk]
  rw [e1] at hi ⊢
  rw [e2]
  by_cases h0 : openE20 s x.id x.n = 0
  · have e3 : openQ20 s x.id x.n = open20 s x.id x.n := by unfold openQ20; rw [if_pos h0]
    rw [e3] at hi ⊢
    have hno : s.l.any (hasId x.id) = false := by
      unfold openE20 at h0
      split at h0
      · split at h0
        · cases h0
        · rename_i h1; simpa using h1
      · cases h0
    have base : ∀ {d' : List Int} {h' w' : Int} {l' : Bool}, (∀ y, get20 (open20 s x.id x.n) id = some y → Ref20 y d' h' l' w') → J20 (k + 1) (open20 s x.id x.n) cap id d' h' l' w' := fun hr =>
      ⟨hi, insS_uq hj.u hno, hj.c, by show (sumB (insS _ s.l) : Int) ≤ cap; rw [insS_sum]; have := hj.m; simpa using this, fun y hy => (insS_mem hy).elim (fun e _ => by rw [e]; exact ⟨rfl, rfl, rfl⟩) (hj.g y), hr⟩
    refine ⟨fun e _ => base (fun y hy => ?_), fun hne => base (fun y hy => ?_)⟩
    · have h1 : get20 (open20 s x.id x.n) id = some ⟨x.id, x.n, [], false, false, false, []⟩ := insS_own (by simp [hasId, e]) (by rw [← e]; exact hno)
      rw [h1] at hy
      obtain rfl := Option.some.inj hy
      exact ⟨rfl, rfl, rfl, rfl⟩
    · have hne' : x.id ≠ id := fun e => hne ⟨e, h0⟩
      have h1 : get20 (open20 s x.id x.n) id = get20 s id := insS_get (by simpa [hasId] using hne') s.l
      rw [h1] at hy
      exact hj.r y hy
  · have e3 : openQ20 s x.id x.n = s := by unfold openQ20; rw [if_neg h0]
    rw [e3]
    exact ⟨fun _ e => absurd e h0, fun _ => hj.up⟩
theorem act_head (hj : J20 k s cap id d h l w) (hb : x.b.1.length ≤ 300) (hk : x.k % 10 = 1) : (x.id = id → aE s x = 0 → J20 (k + 1) (aQ s x) cap id d 1 x.last w) ∧ (¬ (x.id = id ∧ aE s x = 0) → J20 (k + 1) (aQ s x) cap id d h l w) := by
  have hi := hj.i.act hb
  have e1 : aQ s x = headQ20 s x.id x.b.1 x.last := by simp [aQ, hk]
  have e2 : aE s x = headE20 s x.id x.b.1 := by simp [aE, hk]
  rw [e1] at hi ⊢
  rw [e2]
  cases hg : get20 s x.id with
  | none =>
    have e3 : headQ20 s x.id x.b.1 x.last = s := by unfold headQ20; rw [hg]
    have e4 : headE20 s x.id x.b.1 = 5 := by unfold headE20; rw [hg]
    rw [e3, e4]
    exact ⟨fun _ e => by omega, fun _ => hj.up⟩
  | some y =>
    by_cases h0 : headE20 s x.id x.b.1 = 0
    · have e3 : headQ20 s x.id x.b.1 x.last = put20 s x.id { y with head := x.b.1, waits := true, said := true, fin := x.last } := by unfold headQ20; rw [hg]; exact if_pos h0
      rw [e3] at hi ⊢
      have ap := fun {d' : List Int} {h' w' : Int} {l' : Bool} (hr : x.id = id → Ref20 { y with head := x.b.1, waits := true, said := true, fin := x.last } d' h' l' w') (hn : x.id ≠ id → ∀ z, get20 s id = some z → Ref20 z d' h' l' w') => hj.own hg hi rfl (by have := hj.m; dsimp only; omega) (fun e => by cases e) hr hn
      refine ⟨fun e _ => ap (fun _ => ?_) (fun e2 => absurd e e2), fun hne => ap (fun e => absurd ⟨e, h0⟩ hne) (fun _ z hz => hj.r z hz)⟩
      rw [e] at hg
      have hr := hj.r y hg
      exact ⟨hr.w, hr.b, rfl, rfl⟩
    · have e3 : headQ20 s x.id x.b.1 x.last = s := by unfold headQ20; rw [hg]; exact if_neg h0
      rw [e3]
      exact ⟨fun _ e => absurd e h0, fun _ => hj.up⟩
theorem act_data (hj : J20 k s cap id d h l w) (hb : x.b.1.length ≤ 300) (hk : x.k % 10 = 2 ∨ x.k % 10 = 3) : (x.id = id → aE s x = 0 → J20 (k + 1) (aQ s x) cap id (d ++ x.b.1) h x.last w) ∧ (¬ (x.id = id ∧ aE s x = 0) → J20 (k + 1) (aQ s x) cap id d h l w) := by
  have hi := hj.i.act hb
  have e1 : aQ s x = dataQ20 s x.id x.b.1 x.last := by rcases hk with hk | hk <;> simp [aQ, hk]
  have e2 : aE s x = dataE20 s x.id x.b.1 := by rcases hk with hk | hk <;> simp [aE, hk]
  rw [e1] at hi ⊢
  rw [e2]
  cases hg : get20 s x.id with
  | none =>
    have e3 : dataQ20 s x.id x.b.1 x.last = s := by unfold dataQ20; rw [hg]
    have e4 : dataE20 s x.id x.b.1 = 5 := by unfold dataE20; rw [hg]
    rw [e3, e4]
    exact ⟨fun _ e => by omega, fun _ => hj.up⟩
  | some y =>
    by_cases h0 : dataE20 s x.id x.b.1 = 0
    · have e3 : dataQ20 s x.id x.b.1 x.last = put20 s x.id { y with b := y.b ++ x.b.1, fin := x.last } := by unfold dataQ20; rw [hg]; exact if_pos h0
      have hh : (y.said = true ∧ y.fin = false) ∧ ¬ s.cap < sumB s.l + x.b.1.length := by
        unfold dataE20 at h0
        rw [hg] at h0
        dsimp only at h0
        split at h0
        · rename_i h1
          refine ⟨h1, fun h2 => ?_⟩
          rw [if_pos h2] at h0; cases h0
        · cases h0
      rw [e3] at hi ⊢
      have ap := fun {d' : List Int} {h' w' : Int} {l' : Bool} (hr : x.id = id → Ref20 { y with b := y.b ++ x.b.1, fin := x.last } d' h' l' w') (hn : x.id ≠ id → ∀ z, get20 s id = some z → Ref20 z d' h' l' w') => hj.own hg hi rfl (by have := hh.2; rw [hj.c] at this; dsimp only; rw [List.length_append]; omega) (fun e => by have e' : y.said = false := e; rw [hh.1.1] at e'; cases e') hr hn
      refine ⟨fun e _ => ap (fun _ => ?_) (fun e2 => absurd e e2), fun hne => ap (fun e => absurd ⟨e, h0⟩ hne) (fun _ z hz => hj.r z hz)⟩
      rw [e] at hg
      have hr := hj.r y hg
      exact ⟨hr.w, by show y.b ++ _ = _; rw [hr.b], rfl, hr.h⟩
    · have e3 : dataQ20 s x.id x.b.1 x.last = s := by unfold dataQ20; rw [hg]; exact if_neg h0
      rw [e3]
      exact ⟨fun _ e => absurd e h0, fun _ => hj.up⟩
theorem act_grow (hj : J20 k s cap id d h l w) (hb : x.b.1.length ≤ 300) (hk : x.k % 10 = 4) : (x.id = id → aE s x = 0 → J20 (k + 1) (aQ s x) cap id d h l (growW w x.n).1) ∧ (¬ (x.id = id ∧ aE s x = 0) → J20 (k + 1) (aQ s x) cap id d h l w) := by
  have hi := hj.i.act hb
  have e1 : aQ s x = growQ20 s x.id x.n := by simp [aQ, hk]
  have e2 : aE s x = growE20 s x.id := by simp [aE, hk]
  rw [e1] at hi ⊢
  rw [e2]
  cases hg : get20 s x.id with
  | none =>
    have e3 : growQ20 s x.id x.n = s := by unfold growQ20; rw [hg]
    rw [e3]
    exact ⟨fun e _ => hj.up.any (by rw [← e]; exact hg) _ _ _ _, fun _ => hj.up⟩
  | some y =>
    have h0 : growE20 s x.id = 0 := by unfold growE20; rw [if_pos (get20_any hg)]
    have e3 : growQ20 s x.id x.n = put20 s x.id { y with win := (growW y.win x.n).1 } := by unfold growQ20; rw [hg]
    rw [e3] at hi ⊢
    have ap := fun {d' : List Int} {h' w' : Int} {l' : Bool} (hr : x.id = id → Ref20 { y with win := (growW y.win x.n).1 } d' h' l' w') (hn : x.id ≠ id → ∀ z, get20 s id = some z → Ref20 z d' h' l' w') => hj.own hg hi rfl (by have := hj.m; dsimp only; omega) (hj.g y (get20_mem hg)) hr hn
    refine ⟨fun e _ => ap (fun _ => ?_) (fun e2 => absurd e e2), fun hne => ap (fun e => absurd ⟨e, h0⟩ hne) (fun _ z hz => hj.r z hz)⟩
    rw [e] at hg
    have hr := hj.r y hg
    exact ⟨by show (growW y.win x.n).1 = _; rw [hr.w], hr.b, hr.l, hr.h⟩
/-- may a frame go? -/
def wentB (F : Fr) (d : List Int) (l : Bool) (h : Int) : Bool :=
  if F.kind = 1 then (h == 1) && ((F.flags == 5) == (l && d.isEmpty)) && (F.flags == 5 || F.flags == 4)
  else if F.kind ≠ 0 ∨ h ≠ 2 ∨ d.length < F.pay.length then false
  else decide (F.pay = d.take F.pay.length) && (F.flags == 0 || F.flags == 1) && ((F.flags == 1) == (l && F.pay.length == d.length)) && (decide (0 < F.pay.length) || F.flags == 1)
theorem frX_gd {y : Sm} (hg : Gd20 y) (room most : Int) : Gd20 (frX y room most) := by
  intro hs
  have hs' : y.said = false := by
    unfold frX at hs
    split at hs
    · exact hs
    · split at hs
      · exact hs
      · split at hs <;> exact hs
  obtain ⟨h1, h2, h3⟩ := hg hs'
  unfold frX
  rw [h2, if_neg (by decide), if_pos h1]
  exact ⟨h1, h2, h3⟩
theorem frX_len (y : Sm) (room most : Int) : (frX y room most).b.length ≤ y.b.length := by
  unfold frX
  split
  · exact Nat.le_refl _
  · split
    · exact Nat.le_refl _
    · split
      · exact Nat.le_refl _
      · show (y.b.drop _).length ≤ _
        rw [List.length_drop]; omega
/-- Next: which stream's frame goes -/
theorem next_of {room most : Int} (ho : nextO s room most = true) : ∃ i y, s.l[i]? = some y ∧ frO y room most = true ∧ nextF20 s room most = frF y room most ∧ nextS s room most = if (frF y room most).flags % 2 = 1 then dropS { s with l := s.l.set i (frX y room most) } y.id else { s with l := s.l.set i (frX y room most) } := by
  have hl : s.l.findIdx (hasF room most) < s.l.length := List.findIdx_lt_length_of_exists (by simpa [nextO] using ho)
  have hp := List.findIdx_getElem (w := hl)
  have hf : s.l.find? (hasF room most) = some s.l[s.l.findIdx (hasF room most)] := by
    rw [List.find?_eq_some_iff_getElem]
    exact ⟨hp, _, hl, rfl, fun j hj => by have := List.not_of_lt_findIdx hj; simpa using this⟩
  exact ⟨_, _, List.getElem?_eq_getElem hl, hp, by unfold nextF20; rw [hf], by unfold nextS; rw [hf]⟩
theorem act_next (hj : J20 k s cap id d h l w) (hb : x.b.1.length ≤ 300) (hk : 7 ≤ x.k % 10) :
    (aI s x = true → (aF s x).stream = id → wentB (aF s x) d l h = true ∧ ((aF s x).kind = 0 → 0 < (aF s x).pay.length → ((aF s x).pay.length : Int) ≤ w ∧ ((aF s x).pay.length : Int) ≤ x.n ∧ ((aF s x).pay.length : Int) ≤ x.m) ∧
      J20 (k + 1) (aQ s x) cap id (if (aF s x).kind = 0 then d.drop (aF s x).pay.length else d) 2 l (if (aF s x).kind = 0 then w - (aF s x).pay.length else w)) ∧
    (¬ (aI s x = true ∧ (aF s x).stream = id) → J20 (k + 1) (aQ s x) cap id d h l w) := by
  have hi := hj.i.act hb
  have e1 : aQ s x = nextS s x.n x.m := by
    unfold aQ
    rw [if_neg (by omega), if_neg (by omega), if_neg (by omega), if_neg (by omega), if_neg (by omega), if_neg (by omega)]
  have e2 : aF s x = nextF20 s x.n x.m := by unfold aF; rw [if_pos hk]
  have e3 : aI s x = nextO s x.n x.m := by unfold aI; rw [if_neg (by omega), if_pos hk]
  rw [e1] at hi ⊢
  rw [e2, e3]
  cases ho : nextO s x.n x.m with
  | false =>
    have e4 := (next_none ho).2.2
    rw [e4]
    exact ⟨fun e => (by cases e), fun _ => hj.up⟩
  | true =>
    obtain ⟨i, y, hy, hfo, hF, hS⟩ := next_of ho
    rw [hF, frF_stream]
    have hmem := List.mem_of_getElem? hy
    have hgd := hj.g y hmem
    have hone := hj.u.one hy
    have h1 : Inv20 (k + 1) { s with l := s.l.set i (frX y x.n x.m) } := hj.i.set i (frX_one (hj.i.o y hmem).up x.n x.m)
    have ap := fun {d' : List Int} {h' w' : Int} {l' : Bool} (hr : y.id = id → Ref20 (frX y x.n x.m) d' h' l' w') (hn : y.id ≠ id → ∀ z, get20 s id = some z → Ref20 z d' h' l' w') => hj.put h1 hy (frX_id y x.n x.m) (by have := hj.m; have := frX_len y x.n x.m; omega) (frX_gd hgd x.n x.m) hr hn
    refine ⟨fun _ e => ?_, fun hne => ?_⟩
    · rw [e] at hone
      have hr := hj.r y hone.1
      have hsaid : y.waits = true ∨ y.b ≠ [] ∨ y.fin = true → y.said = true := fun hh => by
        cases hs : y.said with
        | true => rfl
        | false =>
          obtain ⟨g1, g2, g3⟩ := hgd hs
          rcases hh with hh | hh | hh
          · rw [g2] at hh; cases hh
          · exact absurd g1 hh
          · rw [g3] at hh; cases hh
      by_cases hw : y.waits = true
      · have hsd := hsaid (.inl hw)
        have eF : frF y x.n x.m = ⟨1, if y.fin = true ∧ y.b = [] then 5 else 4, y.id, y.head⟩ := by unfold frF; rw [if_pos hw]
        have eX : frX y x.n x.m = { y with waits := false, head := [] } := by unfold frX; rw [if_pos hw]
        have hh1 : h = 1 := by rw [← hr.h]; unfold hd20; rw [if_pos hsd, if_pos hw]
        refine ⟨?_, fun e0 => ?_, ?_⟩
        · rw [eF]
          unfold wentB
          rw [if_pos rfl, hh1, ← hr.b, ← hr.l]
          by_cases hfb : y.fin = true ∧ y.b = []
          · simp [hfb.1, hfb.2]
          · rw [if_neg hfb]
            have : (y.fin && y.b.isEmpty) = false := by
              cases hf : y.fin with
              | false => rfl
              | true =>
                have : y.b ≠ [] := fun e => hfb ⟨hf, e⟩
                simpa using this
            simp [this]
        · rw [eF] at e0; cases e0
        · have nk : ∀ {α : Type} (a b : α), (if (⟨1, if y.fin = true ∧ y.b = [] then 5 else 4, y.id, y.head⟩ : Fr).kind = 0 then a else b) = b := fun a b => if_neg (fun e => by have e' : (1 : Int) = 0 := e; omega)
          rw [hS, eF, nk, nk]
          have hput := ap (d' := d) (h' := 2) (l' := l) (w' := w) (fun _ => by rw [eX]; exact ⟨hr.w, hr.b, hr.l, by unfold hd20; rw [if_pos hsd]; rfl⟩) (fun e2 => absurd e e2)
          dsimp only
          split
          · exact hput.drop _
          · exact hput
      · have hw' : y.waits = false := by simpa using hw
        by_cases hyb : y.b = []
        · have hfin : y.fin = true := by
            unfold frO at hfo
            rw [if_neg hw, if_pos hyb] at hfo
            exact hfo
          have hsd := hsaid (.inr (.inr hfin))
          have eF : frF y x.n x.m = ⟨0, 1, y.id, []⟩ := by unfold frF; rw [if_neg hw, if_pos hyb]
          have hh2 : h = 2 := by rw [← hr.h]; unfold hd20; rw [if_pos hsd, if_neg hw]
          refine ⟨?_, fun _ e1 => ?_, ?_⟩
          · rw [eF]
            unfold wentB
            dsimp only
            rw [if_neg (by decide), if_neg (by rw [hh2]; simp), ← hr.b, hyb, ← hr.l, hfin]
            rfl
          · rw [eF] at e1; exact absurd e1 (by simp)
          · rw [hS, eF]
            have hput := ap (d' := d) (h' := 2) (l' := l) (w' := w) (fun _ => by
              have eX : frX y x.n x.m = y := by unfold frX; rw [if_neg hw, if_pos hyb]
              rw [eX]
              exact ⟨hr.w, hr.b, hr.l, by rw [hr.h, hh2]⟩) (fun e2 => absurd e e2)
            rw [if_pos rfl]
            rw [e]
            exact (hput.drop id).any (drop_own _ _) _ _ _ _
        · have hz : frN y x.n x.m ≠ 0 := by
            unfold frO at hfo
            rw [if_neg hw, if_neg hyb] at hfo
            simpa using hfo
          have hsd := hsaid (.inr (.inl hyb))
          have hh2 : h = 2 := by rw [← hr.h]; unfold hd20; rw [if_pos hsd, if_neg hw]
          have hrg := frN_rng y x.n x.m
          obtain ⟨m, hm⟩ : ∃ m : Nat, frN y x.n x.m = (m : Int) := ⟨(frN y x.n x.m).toNat, by omega⟩
          have hm0 : 0 < m := by omega
          have hml : m ≤ y.b.length := by omega
          have hmr := hrg.2.2 hz
          rw [hm] at hmr
          have eF : frF y x.n x.m = ⟨0, if (m : Int) = y.b.length ∧ y.fin = true then 1 else 0, y.id, y.b.take m⟩ := by unfold frF; rw [if_neg hw, if_neg hyb, if_neg hz, hm, Int.toNat_natCast]
          have eX : frX y x.n x.m = { y with b := y.b.drop m, win := y.win - m } := by unfold frX; rw [if_neg hw, if_neg hyb, if_neg hz, hm, Int.toNat_natCast]
          have htl : (y.b.take m).length = m := by rw [List.length_take]; omega
          refine ⟨?_, fun _ _ => ?_, ?_⟩
          · rw [eF]
            unfold wentB
            dsimp only
            rw [if_neg (by decide), htl, if_neg (by rw [hh2, ← hr.b]; omega), ← hr.b, ← hr.l]
            by_cases hlf : (m : Int) = y.b.length ∧ y.fin = true
            · have : m = y.b.length := by omega
              simp [hlf.2, this]
            · rw [if_neg hlf]
              have : (y.fin && m == y.b.length) = false := by
                cases hf : y.fin with
                | false => rfl
                | true =>
                  have : m ≠ y.b.length := fun e => hlf ⟨by omega, hf⟩
                  simpa using this
              simp [this, hm0]
          · rw [eF]
            dsimp only
            rw [htl, ← hr.w]
            exact hmr
          · rw [hS, eF]
            dsimp only
            rw [if_pos rfl, if_pos rfl, htl]
            have hput := ap (d' := d.drop m) (h' := 2) (l' := l) (w' := w - m) (fun _ => by
              rw [eX]
              exact ⟨by show y.win - _ = _; rw [hr.w], by show y.b.drop m = _; rw [hr.b], hr.l, by unfold hd20; dsimp only; rw [if_pos hsd, if_neg hw]⟩) (fun e2 => absurd e e2)
            split
            · exact hput.drop _
            · exact hput
    · have hne' : y.id ≠ id := fun e => hne ⟨rfl, e⟩
      rw [hS]
      have hput := ap (d' := d) (h' := h) (l' := l) (w' := w) (fun e => absurd e hne') (fun _ z hz => hj.r z hz)
      split
      · exact hput.drop _
      · exact hput
theorem sum_act (hj : J20 k s cap id d h l w) (hb : x.b.1.length ≤ 300) : (sumB (aQ s x).l : Int) ≤ cap := by
  have hk : x.k % 10 = 0 ∨ x.k % 10 = 1 ∨ (x.k % 10 = 2 ∨ x.k % 10 = 3) ∨ x.k % 10 = 4 ∨ x.k % 10 = 5 ∨ x.k % 10 = 6 ∨ 7 ≤ x.k % 10 := by omega
  rcases hk with hk | hk | hk | hk | hk | hk | hk
  · by_cases e : x.id = id ∧ aE s x = 0
    · exact ((act_open hj hb hk).1 e.1 e.2).m
    · exact ((act_open hj hb hk).2 e).m
  · by_cases e : x.id = id ∧ aE s x = 0
    · exact ((act_head hj hb hk).1 e.1 e.2).m
    · exact ((act_head hj hb hk).2 e).m
  · by_cases e : x.id = id ∧ aE s x = 0
    · exact ((act_data hj hb hk).1 e.1 e.2).m
    · exact ((act_data hj hb hk).2 e).m
  · by_cases e : x.id = id ∧ aE s x = 0
    · exact ((act_grow hj hb hk).1 e.1 e.2).m
    · exact ((act_grow hj hb hk).2 e).m
  · exact (act_shift hj hb hk).m
  · exact (act_drop hj hk).m
  · by_cases e : aI s x = true ∧ (aF s x).stream = id
    · exact ((act_next hj hb hk).1 e.1 e.2).2.2.m
    · exact ((act_next hj hb hk).2 e).m
end
end Go.Proofs.Ytnoegbdmjinfjaa

/-
  Layer 20's laws: went, of a frame that may go (written by wip/tools/gen20w.py).
-/
namespace Go.Proofs.Ytnoegbdmjinfjaa
set_option maxRecDepth 20000
open Go.RowKit

theorem went_cases {F : Fr} {d : List Int} {l : Bool} {h : Int} (hw : wentB F d l h = true) :
    (F.kind = 1 ∧ h = 1 ∧ ((F.flags = 5 ∧ l = true ∧ d.length = 0) ∨ (F.flags = 4 ∧ l = false) ∨ (F.flags = 4 ∧ l = true ∧ d.length ≠ 0))) ∨
    (F.kind = 0 ∧ h = 2 ∧ F.pay.length ≤ d.length ∧ F.pay = d.take F.pay.length ∧ ((F.flags = 1 ∧ l = true ∧ F.pay.length = d.length ∧ 0 < F.pay.length) ∨ (F.flags = 1 ∧ l = true ∧ F.pay.length = d.length ∧ F.pay.length = 0) ∨ (F.flags = 0 ∧ l = false ∧ 0 < F.pay.length) ∨ (F.flags = 0 ∧ l = true ∧ F.pay.length ≠ d.length ∧ 0 < F.pay.length))) := by
  unfold wentB at hw
  split at hw
  · rename_i hk
    left
    simp only [Bool.and_eq_true, Bool.or_eq_true, beq_iff_eq] at hw
    obtain ⟨⟨h1, h2⟩, h3⟩ := hw
    refine ⟨hk, h1, ?_⟩
    rcases h3 with h3 | h3
    · rw [h3] at h2
      have h2' : (l && d.isEmpty) = true := by rw [← h2]; rfl
      simp only [Bool.and_eq_true, List.isEmpty_iff] at h2'
      exact .inl ⟨h3, h2'.1, by rw [h2'.2]; rfl⟩
    · rw [h3] at h2
      have h2' : (l && d.isEmpty) = false := by rw [← h2]; rfl
      cases l with
      | false => exact .inr (.inl ⟨h3, rfl⟩)
      | true =>
        refine .inr (.inr ⟨h3, rfl, fun e => ?_⟩)
        rw [List.eq_nil_of_length_eq_zero e] at h2'
        cases h2'
  · split at hw
    · cases hw
    · rename_i hk
      right
      simp only [Bool.and_eq_true, Bool.or_eq_true, beq_iff_eq, decide_eq_true_eq] at hw
      obtain ⟨⟨⟨h1, h2⟩, h3⟩, h4⟩ := hw
      refine ⟨by omega, by omega, by omega, h1, ?_⟩
      rcases h2 with h2 | h2
      · rw [h2] at h3 h4
        have h3' : (l && F.pay.length == d.length) = false := by rw [← h3]; rfl
        have h4' : 0 < F.pay.length := h4.resolve_right (by decide)
        cases l with
        | false => exact .inr (.inr (.inl ⟨h2, rfl, h4'⟩))
        | true => exact .inr (.inr (.inr ⟨h2, rfl, by simpa using h3', h4'⟩))
      · rw [h2] at h3
        have h3' : (l && F.pay.length == d.length) = true := by rw [← h3]; rfl
        simp only [Bool.and_eq_true, beq_iff_eq] at h3'
        by_cases h0 : F.pay.length = 0
        · exact .inr (.inl ⟨h2, h3'.1, h3'.2, h0⟩)
        · exact .inl ⟨h2, h3'.1, h3'.2, by omega⟩
set_option maxHeartbeats 4000000 in
theorem went20_yes (F : Fr) (pv : Value) (d : List Int) (dv : Value) (l : Bool) (h : Int) (w : World) (hp : Sl .u8 w pv F.pay) (hd : Sl .u8 w dv d) (hw : wentB F d l h = true) :
    Calls Try.prog 20 #[.agg #[.int .i64 F.kind, .int .i64 F.flags, .int .i64 F.stream, pv], dv, .bool l, .int .i64 h] w fun e w' => e = .returned (.bool true) ∧ Below w.heap.size w w' := by
  have hcs := went_cases hw
  obtain ⟨fk, fl, fs, fp⟩ := F
  dsimp only at hp hcs ⊢
  obtain ⟨pa, pc, rfl, _⟩ := (show _ from hp)
  obtain ⟨da, dc, rfl, _⟩ := (show _ from hd)
  obtain ⟨W1, hW1⟩ : ∃ W1, w.alloc (.cells #[.int .i64 fk, .int .i64 fl, .int .i64 fs, .slice pa fp.length pc] 34) = W1 := ⟨_, rfl⟩
  have HB1 := Lib.hid (show Below w.heap.size w W1 ∧ W1.heap[w.heap.size]? = some (.cells #[.int .i64 fk, .int .i64 fl, .int .i64 fs, .slice pa fp.length pc] 34 (0, 0)) from by rw [← hW1]; exact ⟨(Below.refl _ _).alloc (Nat.le_refl _) _, heap_alloc_new _ _⟩)
  have HP := Lib.hid (And.intro (hp.below HB1.out.1) (hd.below HB1.out.1))
  have k0 := blk_cell (j := 0) HB1.out.2 rfl
  have k1 := blk_cell (j := 1) HB1.out.2 rfl
  have k2 := blk_cell (j := 2) HB1.out.2 rfl
  have k3 := blk_cell (j := 3) HB1.out.2 rfl
  have k4 := (Array.getElem?_eq_some_iff.1 HB1.out.2).1
  clear hp hd hw
  rcases hcs with ⟨rfl, rfl, hcs⟩ | ⟨rfl, rfl, hle, htk, hcs⟩
  · rcases hcs with ⟨rfl, rfl, h3⟩ | ⟨rfl, rfl⟩ | ⟨rfl, rfl, h3⟩
    · have e0 : ((d.length : Int) == 0) = true := by rw [beq_iff_eq]; omega
      clear h3
      go_enter Try.func20, Try.ntmps20
      go_wp2_with fail
      go_ret
      exact ⟨rfl, HB1.out.1⟩
    · go_enter Try.func20, Try.ntmps20
      go_wp2_with fail
      go_ret
      exact ⟨rfl, HB1.out.1⟩
    · have e0 : ((d.length : Int) == 0) = false := by rw [beq_eq_false_iff_ne]; omega
      clear h3
      go_enter Try.func20, Try.ntmps20
      go_wp2_with fail
      go_ret
      exact ⟨rfl, HB1.out.1⟩
  · obtain ⟨af, cf, hrf, hsf, _⟩ := cut_first HP.out.2 fp.length hle
    rw [← htk] at hsf
    have HSa := Lib.hid (show ∀ n, Calls Try.prog 36 #[.slice pa fp.length pc, .slice af fp.length cf] (W1.drewN n) fun e w' => e = .returned (.bool true) ∧ ∃ m, w' = (W1.drewN n).drewN m from fun n =>
      (same_any _ _ fp fp (W1.drewN n) (HP.out.1.below (below_drewN (Below.refl _ _) n)) (hsf.below (below_drewN (Below.refl _ _) n))).mono (by rintro e w' ⟨rfl, m, rfl⟩; exact ⟨by rw [decide_eq_true rfl], m, rfl⟩))
    have dl : decide ((d.length : Int) < (fp.length : Int)) = false := decide_eq_false (by omega)
    have dl' : decide (d.length < fp.length) = false := decide_eq_false (by omega)
    have hle' : (fp.length : Int) ≤ (d.length : Int) := by omega
    clear htk hsf
    rcases hcs with ⟨rfl, rfl, h3, h4⟩ | ⟨rfl, rfl, h3, h4⟩ | ⟨rfl, rfl, h4⟩ | ⟨rfl, rfl, h3, h4⟩
    · have e0 : ((fp.length : Int) == (d.length : Int)) = true := by rw [beq_iff_eq]; omega
      have e1 : decide ((0 : Int) < (fp.length : Int)) = true := decide_eq_true (by omega)
      have e2 : decide (0 < fp.length) = true := decide_eq_true (by omega)
      clear h3
      go_enter Try.func20, Try.ntmps20
      go_wp2_with fail
      go_quiet ((go_at_call 36; exact Calls.quiet_of (HSa.out _)))
      go_wp2_with fail
      go_ret
      exact ⟨rfl, below_drewN HB1.out.1 _⟩
    · have e0 : ((fp.length : Int) == (d.length : Int)) = true := by rw [beq_iff_eq]; omega
      have e1 : decide ((0 : Int) < (fp.length : Int)) = false := decide_eq_false (by omega)
      have e2 : decide (0 < fp.length) = false := decide_eq_false (by omega)
      clear h3 h4
      go_enter Try.func20, Try.ntmps20
      go_wp2_with fail
      go_quiet ((go_at_call 36; exact Calls.quiet_of (HSa.out _)))
      go_wp2_with fail
      go_ret
      exact ⟨rfl, below_drewN HB1.out.1 _⟩
    · have e1 : decide ((0 : Int) < (fp.length : Int)) = true := decide_eq_true (by omega)
      have e2 : decide (0 < fp.length) = true := decide_eq_true (by omega)
      go_enter Try.func20, Try.ntmps20
      go_wp2_with fail
      go_quiet ((go_at_call 36; exact Calls.quiet_of (HSa.out _)))
      go_wp2_with fail
      go_ret
      exact ⟨rfl, below_drewN HB1.out.1 _⟩
    · have e0 : ((fp.length : Int) == (d.length : Int)) = false := by rw [beq_eq_false_iff_ne]; omega
      have e1 : decide ((0 : Int) < (fp.length : Int)) = true := decide_eq_true (by omega)
      have e2 : decide (0 < fp.length) = true := decide_eq_true (by omega)
      clear h3
      go_enter Try.func20, Try.ntmps20
      go_wp2_with fail
      go_quiet ((go_at_call 36; exact Calls.quiet_of (HSa.out _)))
      go_wp2_with fail
      go_ret
      exact ⟨rfl, below_drewN HB1.out.1 _⟩
end Go.Proofs.Ytnoegbdmjinfjaa

/-
  A great function's loop, cut into declarations: its body, taken out of the translation. No function of the program is named here.
-/
namespace Go.Proofs.Ytnoegbdmjinfjaa

/-- the first loop of a code, and the next ones behind it (not those within) -/
def loopsOf : Code → List Code
  | .loop c => [c]
  | .seq a b => loopsOf a ++ loopsOf b
  | .block _ c => loopsOf c
  | .scope c => loopsOf c
  | .cond _ a b => loopsOf a ++ loopsOf b
  | _ => []
noncomputable def loopOf (f : Func) (k : Nat) : Code := (loopsOf ((f.body).getD .skip)).getD k .skip
end Go.Proofs.Ytnoegbdmjinfjaa

/-
  Layer 20: SendWhole: the loop, its invariant (written by wip/tools/gen20x.py).
-/
namespace Go.Proofs.Ytnoegbdmjinfjaa
set_option maxRecDepth 20000
open Go.RowKit

/-- one stream followed through acts on the program's sender -/
structure Wh20 (w1 W : World) (T : Nat) (B : Nat → Prop) (s : Sd) (cap id : Int) (k : Nat) (d : List Int) (dv : Value) (h : Int) (l : Bool) (w : Int) : Prop where
  p : SdAt W T B s
  b : Below w1.heap.size w1 W
  gB : ∀ g, B g → w1.heap.size ≤ g
  sl : Sl .u8 W dv d
  nb : d ≠ [] → ∀ g, dv.ownBlock = some g → ¬ B g
  j : J20 k s cap id d h l w
  dl : d.length ≤ 300 * k
  ww : winB w = true
/-- an act was told: what lies there behind it -/
structure Md20 (w1 W : World) (T : Nat) (B : Nat → Prop) (s : Sd) (d : List Int) (dv : Value) (g15 g16 : Nat) (ac sc : Array Value) : Prop where
  p : SdAt W T B s
  b : Below w1.heap.size w1 W
  gB : ∀ g, B g → w1.heap.size ≤ g
  sl : Sl .u8 W dv d
  nb : d ≠ [] → ∀ g, dv.ownBlock = some g → ¬ B g
  z15 : W.heap[g15]? = some (.cells ac 39 (0, 0))
  z16 : W.heap[g16]? = some (.cells sc 36 (0, 0))
theorem Md20.grown {w1 W W' : World} {T : Nat} {B : Nat → Prop} {s : Sd} {d : List Int} {dv : Value} {g15 g16 : Nat} {ac sc : Array Value} (h : Md20 w1 W T B s d dv g15 g16 ac sc) (hb : Below W.heap.size W W') : Md20 w1 W' T B s d dv g15 g16 ac sc :=
  ⟨h.p.turn (Turn.of_below hb (S := fun _ => False)) (fun _ _ => id), h.b.trans (hb.mono h.b.size), h.gB, h.sl.below hb, h.nb, (Turn.of_below hb (S := fun _ => False)).obj h.z15 id, (Turn.of_below hb (S := fun _ => False)).obj h.z16 id⟩
theorem Md20.end_ {w1 W : World} {T : Nat} {B : Nat → Prop} {s : Sd} {d : List Int} {dv : Value} {g15 g16 : Nat} {ac sc : Array Value} {cap id : Int} {k : Nat} {h w : Int} {l : Bool} (hm : Md20 w1 W T B s d dv g15 g16 ac sc) (hj : J20 k s cap id d h l w) (hd : d.length ≤ 300 * k) (hw : winB w = true) : Wh20 w1 W T B s cap id k d dv h l w :=
  ⟨hm.p, hm.b, hm.gB, hm.sl, hm.nb, hj, hd, hw⟩
noncomputable def wh_body : Code := loopOf Try.f4 0
set_option linter.unusedVariables false in
/-- what holds when at most n rounds are to come -/
def wh_R (w1 : World) (T : Nat) (cap id : Int) (ys : List A20) (N c : Nat) (ad : Option Addr) (n : Nat) (s10 s11 s12 s13 s14 : Value) (wr : World) : Prop := ∃ k : Nat, k + n = N ∧ s14 = .int .i64 k ∧ ∃ h l w, s11 = .int .i64 h ∧ s12 = .bool l ∧ s13 = .int .i64 w ∧ Hid (∃ s B d, Wh20 w1 wr T B s cap id k d s10 h l w)
set_option maxRecDepth 1000000 in
def wh_I (w1 : World) (T : Nat) (cap id : Int) (ys : List A20) (N c : Nat) (ad : Option Addr) (c3 c4 c5 c7 c9 c23 c24 c25 c26 c27 c28 c29 c30 c31 c32 c33 c34 c35 c36 c37 c38 c39 c185 : Value) (n : Nat) (a : Act) (wr : World) : Prop := ∃ u6 u10 u11 u12 u13 u14 u15 u16 u17 u18 u19 u20 u21 u22 u40 u41 u42 u43 u44 u45 u46 u47 u48 u49 u50 u51 u52 u53 u54 u55 u56 u57 u58 u59 u60 u61 u62 u63 u64 u65 u66 u67 u68 u69 u70 u71 u72 u73 u74 u75 u76 u77 u78 u79 u80 u81 u82 u83 u84 u85 u86 u87 u88 u89 u90 u91 u92 u93 u94 u95 u96 u97 u98 u99 u100 u101 u102 u103 u104 u105 u106 u107 u108 u109 u110 u111 u112 u113 u114 u115 u116 u117 u118 u119 u120 u121 u122 u123 u124 u125 u126 u127 u128 u129 u130 u131 u132 u133 u134 u135 u136 u137 u138 u139 u140 u141 u142 u143 u144 u145 u146 u147 u148 u149 u150 u151 u152 u153 u154 u155 u156 u157 u158 u159 u160 u161 u162 u163 u164 u165 u166 u167 u168 u169 u170 u171 u172 u173 u174 u175 u176 u177 u178 u179 u180 u181 u182 u183 u184 : Value, wh_R w1 T cap id ys N c ad n u10 u11 u12 u13 u14 wr ∧ a = ⟨#[.int .u16 cap, .slice ad N c, .int .i64 id, c3, c4, c5, u6, c7, .pointer (some ⟨T, 0, none⟩), c9, u10, u11, u12, u13, u14, u15, u16, u17, u18, u19, u20, u21, u22, c23, c24, c25, c26, c27, c28, c29, c30, c31, c32, c33, c34, c35, c36, c37, c38, c39, u40, u41, u42, u43, u44, u45, u46, u47, u48, u49, u50, u51, u52, u53, u54, u55, u56, u57, u58, u59, u60, u61, u62, u63, u64, u65, u66, u67, u68, u69, u70, u71, u72, u73, u74, u75, u76, u77, u78, u79, u80, u81, u82, u83, u84, u85, u86, u87, u88, u89, u90, u91, u92, u93, u94, u95, u96, u97, u98, u99, u100, u101, u102, u103, u104, u105, u106, u107, u108, u109, u110, u111, u112, u113, u114, u115, u116, u117, u118, u119, u120, u121, u122, u123, u124, u125, u126, u127, u128, u129, u130, u131, u132, u133, u134, u135, u136, u137, u138, u139, u140, u141, u142, u143, u144, u145, u146, u147, u148, u149, u150, u151, u152, u153, u154, u155, u156, u157, u158, u159, u160, u161, u162, u163, u164, u165, u166, u167, u168, u169, u170, u171, u172, u173, u174, u175, u176, u177, u178, u179, u180, u181, u182, u183, u184, c185], []⟩
end Go.Proofs.Ytnoegbdmjinfjaa

/-
  Layer 20: SendWhole: rounds of kinds 0, 1 (written by wip/tools/gen20x.py).
-/
namespace Go.Proofs.Ytnoegbdmjinfjaa
set_option maxRecDepth 20000
open Go.RowKit

set_option maxRecDepth 1000000 in
set_option maxHeartbeats 8000000 in
theorem wh_k0 (w1 : World) (T : Nat) (cap id : Int) (ys : List A20) (N c : Nat) (ad : Option Addr) (c3 c4 c5 c7 c9 c23 c24 c25 c26 c27 c28 c29 c30 c31 c32 c33 c34 c35 c36 c37 c38 c39 c185 : Value) (n : Nat) (wr : World) (K : Act → World → Prop) (Q : Exit → Act → World → Prop) (k : Nat) (s : Sd) (B : Nat → Prop) (d : List Int) (dv : Value) (h w : Int) (l : Bool)
    (u6 u15 u16 u17 u18 u19 u20 u21 u22 u40 u41 u42 u43 u44 u45 u46 u47 u48 u49 u50 u51 u52 u53 u54 u55 u56 u57 u58 u59 u60 u61 u62 u63 u64 u65 u66 u67 u68 u69 u70 u71 u72 u73 u74 u75 u76 u77 u78 u79 u80 u81 u82 u83 u84 u85 u86 u87 u88 u89 u90 u91 u92 u93 u94 u95 u96 u97 u98 u99 u100 u101 u102 u103 u104 u105 u106 u107 u108 u109 u110 u111 u112 u113 u114 u115 u116 u117 u118 u119 u120 u121 u122 u123 u124 u125 u126 u127 u128 u129 u130 u131 u132 u133 u134 u135 u136 u137 u138 u139 u140 u141 u142 u143 u144 u145 u146 u147 u148 u149 u150 u151 u152 u153 u154 u155 u156 u157 u158 u159 u160 u161 u162 u163 u164 u165 u166 u167 u168 u169 u170 u171 u172 u173 u174 u175 u176 u177 u178 u179 u180 u181 u182 u183 u184 : Value)
    (hK : Hid (∀ (m : Nat) (u6 u10 u11 u12 u13 u14 u15 u16 u17 u18 u19 u20 u21 u22 u40 u41 u42 u43 u44 u45 u46 u47 u48 u49 u50 u51 u52 u53 u54 u55 u56 u57 u58 u59 u60 u61 u62 u63 u64 u65 u66 u67 u68 u69 u70 u71 u72 u73 u74 u75 u76 u77 u78 u79 u80 u81 u82 u83 u84 u85 u86 u87 u88 u89 u90 u91 u92 u93 u94 u95 u96 u97 u98 u99 u100 u101 u102 u103 u104 u105 u106 u107 u108 u109 u110 u111 u112 u113 u114 u115 u116 u117 u118 u119 u120 u121 u122 u123 u124 u125 u126 u127 u128 u129 u130 u131 u132 u133 u134 u135 u136 u137 u138 u139 u140 u141 u142 u143 u144 u145 u146 u147 u148 u149 u150 u151 u152 u153 u154 u155 u156 u157 u158 u159 u160 u161 u162 u163 u164 u165 u166 u167 u168 u169 u170 u171 u172 u173 u174 u175 u176 u177 u178 u179 u180 u181 u182 u183 u184 : Value) (w2 : World), m < n → wh_R w1 T cap id ys N c ad m u10 u11 u12 u13 u14 w2 → K ⟨#[.int .u16 cap, .slice ad N c, .int .i64 id, c3, c4, c5, u6, c7, .pointer (some ⟨T, 0, none⟩), c9, u10, u11, u12, u13, u14, u15, u16, u17, u18, u19, u20, u21, u22, c23, c24, c25, c26, c27, c28, c29, c30, c31, c32, c33, c34, c35, c36, c37, c38, c39, u40, u41, u42, u43, u44, u45, u46, u47, u48, u49, u50, u51, u52, u53, u54, u55, u56, u57, u58, u59, u60, u61, u62, u63, u64, u65, u66, u67, u68, u69, u70, u71, u72, u73, u74, u75, u76, u77, u78, u79, u80, u81, u82, u83, u84, u85, u86, u87, u88, u89, u90, u91, u92, u93, u94, u95, u96, u97, u98, u99, u100, u101, u102, u103, u104, u105, u106, u107, u108, u109, u110, u111, u112, u113, u114, u115, u116, u117, u118, u119, u120, u121, u122, u123, u124, u125, u126, u127, u128, u129, u130, u131, u132, u133, u134, u135, u136, u137, u138, u139, u140, u141, u142, u143, u144, u145, u146, u147, u148, u149, u150, u151, u152, u153, u154, u155, u156, u157, u158, u159, u160, u161, u162, u163, u164, u165, u166, u167, u168, u169, u170, u171, u172, u173, u174, u175, u176, u177, u178, u179, u180, u181, u182, u183, u184, c185], []⟩ w2))
    (HN : Hid (ys.length = N ∧ N ≤ 100)) (HS : Hid (SlA20 w1 (.slice ad N c) ys)) (HFX : Hid (∀ x ∈ ys, x.b.1.length ≤ 300)) (hc1 : N ≤ c) (hc2 : c ≤ 2 ^ 63 - 1) (HC : Hid (0 ≤ cap ∧ cap ≤ 65535)) (hkq : k + n = N) (HP : Hid (Wh20 w1 wr T B s cap id k d dv h l w)) (hlt : k < N) (hkind : ∀ x : A20, ys[k]? = some x → x.k % 10 = 0) :
    Code.wp Try.prog wh_body (Exit.then K Q) ⟨#[.int .u16 cap, .slice ad N c, .int .i64 id, c3, c4, c5, u6, c7, .pointer (some ⟨T, 0, none⟩), c9, dv, .int .i64 h, .bool l, .int .i64 w, .int .i64 (k : Int), u15, u16, u17, u18, u19, u20, u21, u22, c23, c24, c25, c26, c27, c28, c29, c30, c31, c32, c33, c34, c35, c36, c37, c38, c39, u40, u41, u42, u43, u44, u45, u46, u47, u48, u49, u50, u51, u52, u53, u54, u55, u56, u57, u58, u59, u60, u61, u62, u63, u64, u65, u66, u67, u68, u69, u70, u71, u72, u73, u74, u75, u76, u77, u78, u79, u80, u81, u82, u83, u84, u85, u86, u87, u88, u89, u90, u91, u92, u93, u94, u95, u96, u97, u98, u99, u100, u101, u102, u103, u104, u105, u106, u107, u108, u109, u110, u111, u112, u113, u114, u115, u116, u117, u118, u119, u120, u121, u122, u123, u124, u125, u126, u127, u128, u129, u130, u131, u132, u133, u134, u135, u136, u137, u138, u139, u140, u141, u142, u143, u144, u145, u146, u147, u148, u149, u150, u151, u152, u153, u154, u155, u156, u157, u158, u159, u160, u161, u162, u163, u164, u165, u166, u167, u168, u169, u170, u171, u172, u173, u174, u175, u176, u177, u178, u179, u180, u181, u182, u183, u184, c185], []⟩ wr := by
  conv => arg 2; whnf
  have HKQ := Lib.hid hkq
  have hk : k ≤ N := by omega
  obtain ⟨hcl, hch⟩ := HC.out
  have hwc : IntKind.i64.wrap cap = cap := wrap_i64_small (by omega) (by omega)
  clear hkq
  obtain ⟨x, hx⟩ : ∃ x, ys[k]? = some x := ⟨ys[k]'(by rw [HN.out.1]; exact hlt), List.getElem?_eq_getElem (by rw [HN.out.1]; exact hlt)⟩
  obtain ⟨ab, off, rfl, _⟩ := HS.out.1.at_ (i := k) (by rw [HN.out.1]; exact hlt)
  have HCl := Lib.hid (act_cells HS.out HN.out.1 hx)
  have hmem := List.mem_of_getElem? hx
  have HKd := Lib.hid (hkind _ hx)
  have HX := Lib.hid (HS.out.2 _ hmem)
  have HLb := Lib.hid (HFX.out _ hmem)
  obtain ⟨xk, xi, xn, xm, ⟨xb, bv⟩, xl⟩ := x
  have hsl := HX.out.s
  dsimp only at hsl HLb
  obtain ⟨xa, xc, rfl, _⟩ := hsl
  have hx0 := HX.out.k0
  have hx1 := HX.out.k1
  dsimp only at hx0 hx1
  have hdl := HP.out.dl
  obtain ⟨da, dc, rfl, hdcap, hdmax, _⟩ := (show _ from HP.out.sl)
  unfold maxLen at hdmax
  have HSm := Lib.hid (HP.out.j.i.small (by have := HN.out.2; omega))
  have hix := fun q => run_index_sl (P := Try.prog) (t := 22) (s := 6) slice20 (fun _ => by kernel_rfl) ab off N c k hlt q
  clear hmem hx hkind
  obtain ⟨c0, c1, c2, c3, c4, c5, c6⟩ := HCl.out wr HP.out.b
  obtain ⟨W2, hW2⟩ : ∃ W2, wr.alloc (.cells #[.int .u8 xk, .int .i64 xi, .int .i64 xn, .int .i64 xm, .slice xa xb.length xc, .bool xl] 39) = W2 := ⟨_, rfl⟩
  obtain ⟨g15, hg15⟩ : ∃ g, wr.heap.size = g := ⟨_, rfl⟩
  have hb2 : Below wr.heap.size wr W2 := by rw [← hW2]; exact (Below.refl _ _).alloc (Nat.le_refl _) _
  have hz2 : W2.heap[g15]? = some (.cells #[.int .u8 xk, .int .i64 xi, .int .i64 xn, .int .i64 xm, .slice xa xb.length xc, .bool xl] 39 (0, 0)) := by rw [← hW2, ← hg15]; exact heap_alloc_new _ _
  have HM2 := Lib.hid (show SdAt W2 T B s ∧ Below w1.heap.size w1 W2 ∧ W2.heap[g15]? = some (.cells #[.int .u8 xk, .int .i64 xi, .int .i64 xn, .int .i64 xm, .slice xa xb.length xc, .bool xl] 39 (0, 0)) ∧ ¬ B g15 ∧ Sl .u8 W2 (.slice da d.length dc) d from
    ⟨HP.out.p.turn (Turn.of_below hb2 (S := fun _ => False)) (fun _ _ e => e), HP.out.b.trans (hb2.mono HP.out.b.size), hz2, fun e => by have := HP.out.p.lt e; omega, HP.out.sl.below hb2⟩)
  have y0 : W2.cell? ⟨g15, 0, none⟩ = some (.int .u8 xk) := blk_cell (j := 0) hz2 rfl
  have y1 : W2.cell? ⟨g15, 1, none⟩ = some (.int .i64 xi) := blk_cell (j := 1) hz2 rfl
  have y2 : W2.cell? ⟨g15, 2, none⟩ = some (.int .i64 xn) := blk_cell (j := 2) hz2 rfl
  have y3 : W2.cell? ⟨g15, 3, none⟩ = some (.int .i64 xm) := blk_cell (j := 3) hz2 rfl
  have y4 : W2.cell? ⟨g15, 4, none⟩ = some (.slice xa xb.length xc) := blk_cell (j := 4) hz2 rfl
  have y5 : W2.cell? ⟨g15, 5, none⟩ = some (.bool xl) := blk_cell (j := 5) hz2 rfl
  have y6 := (Array.getElem?_eq_some_iff.1 hz2).1
  clear hb2 hz2
  go_wp2_with fail
  refine (said20_any T B s ⟨xk, xi, xn, xm, (xb, .slice xa xb.length xc), xl⟩ W2 HM2.out.1 (HX.out.below HM2.out.2.1) HSm.out (by have := HLb.out; dsimp only; omega) (fun h1 g hg e => by have := HX.out.s.lt0 h1 hg; have := HP.out.gB g e; omega)).mono ?_
  rintro e w3 ⟨pv, B2, rfl, hp, hpb, hs2, ht2, hB2⟩
  obtain ⟨s2, hq⟩ : ∃ s2, aQ s ⟨xk, xi, xn, xm, (xb, .slice xa xb.length xc), xl⟩ = s2 := ⟨_, rfl⟩
  obtain ⟨F, hF⟩ : ∃ F, aF s ⟨xk, xi, xn, xm, (xb, .slice xa xb.length xc), xl⟩ = F := ⟨_, rfl⟩
  obtain ⟨N0, hN0⟩ : ∃ x, aN s ⟨xk, xi, xn, xm, (xb, .slice xa xb.length xc), xl⟩ = x := ⟨_, rfl⟩
  obtain ⟨I0, hI0⟩ : ∃ x, aI s ⟨xk, xi, xn, xm, (xb, .slice xa xb.length xc), xl⟩ = x := ⟨_, rfl⟩
  obtain ⟨E0, hE0⟩ : ∃ x, aE s ⟨xk, xi, xn, xm, (xb, .slice xa xb.length xc), xl⟩ = x := ⟨_, rfl⟩
  rw [hF] at hp hpb
  rw [hq] at hs2
  rw [hF, hN0, hI0, hE0]
  have HE := Lib.hid (And.intro hF (And.intro hN0 (And.intro hI0 (And.intro hE0 hq))))
  clear hF hN0 hI0 hE0 hq
  obtain ⟨fk, fl, fs, fp⟩ := F
  dsimp only at hp hpb HE ⊢
  obtain ⟨pa, pc, rfl, _⟩ := (show _ from hp)
  obtain ⟨W4, hW4⟩ : ∃ W4, w3.alloc (.cells #[.int .i64 fk, .int .i64 fl, .int .i64 fs, .slice pa fp.length pc, .int .i64 N0, .bool I0, .int .i64 E0] 36) = W4 := ⟨_, rfl⟩
  obtain ⟨g16, hg16⟩ : ∃ g, w3.heap.size = g := ⟨_, rfl⟩
  have hb4 : Below w3.heap.size w3 W4 := by rw [← hW4]; exact (Below.refl _ _).alloc (Nat.le_refl _) _
  have hz4 : W4.heap[g16]? = some (.cells #[.int .i64 fk, .int .i64 fl, .int .i64 fs, .slice pa fp.length pc, .int .i64 N0, .bool I0, .int .i64 E0] 36 (0, 0)) := by rw [← hW4, ← hg16]; exact heap_alloc_new _ _
  have HM4 := Lib.hid (show Md20 w1 W4 T B2 s2 d (.slice da d.length dc) g15 g16 #[.int .u8 xk, .int .i64 xi, .int .i64 xn, .int .i64 xm, .slice xa xb.length xc, .bool xl] #[.int .i64 fk, .int .i64 fl, .int .i64 fs, .slice pa fp.length pc, .int .i64 N0, .bool I0, .int .i64 E0] from by
    have hb3 := ht2.base HM2.out.2.1 HM2.out.2.1.size HP.out.gB
    refine ⟨hs2.turn (Turn.of_below hb4 (S := fun _ => False)) (fun _ _ e => e), hb3.trans (hb4.mono hb3.size), fun g hg => (hB2 g hg).elim (HP.out.gB g) (Nat.le_trans HM2.out.2.1.size), (HM2.out.2.2.2.2.turn0 ht2 HP.out.nb).below hb4, fun h1 g hg e => ?_, (Turn.of_below hb4 (S := fun _ => False)).obj (ht2.obj HM2.out.2.2.1 HM2.out.2.2.2.1) (fun e => e), hz4⟩
    rcases hB2 g e with e | e
    · exact HP.out.nb h1 g hg e
    · have := HM2.out.2.2.2.2.lt0 h1 hg; omega)
  have HPv := Lib.hid (hp.below hb4)
  have HJ' := Lib.hid (HP.out.j)
  clear hs2 ht2 hB2 hp hpb c0 c1 c2 c3 c4 c5 c6 y0 y1 y2 y3 y4 y5 y6 hb4 hz4 hW2
  have HI2 := Lib.hid (show Inv20 (k + 1) s2 from by rw [← HE.out.2.2.2.2]; exact HP.out.j.i.act HLb.out)
  have HS2 := Lib.hid (HI2.out.small (by have := HN.out.2; omega))
  have HSum := Lib.hid (show (sumB s2.l : Int) ≤ cap from by rw [← HE.out.2.2.2.2]; exact sum_act HP.out.j HLb.out)
  have hsum := HSum.out
  have dq : decide (cap < (sumB s2.l : Int)) = false := decide_eq_false (by omega)
  have dq0 : decide ((sumB s2.l : Int) < 0) = false := decide_eq_false (by omega)
  go_wp2_with fail
  refine (pWaiting20 HM4.out.p HS2.out).mono ?_
  rintro e w5 ⟨rfl, hb5⟩
  have HM5 := Lib.hid (And.intro (HM4.out.grown hb5) (HPv.out.below hb5))
  clear hb5 hW4 hg16 hg15
  go_wp2_with fail
  refine (pWaiting20 HM5.out.1.p HS2.out).mono ?_
  rintro e w6 ⟨rfl, hb6⟩
  have HM := Lib.hid (HM5.out.1.grown hb6)
  have HPy := Lib.hid (HM5.out.2.below hb6)
  clear hb6
  have y0 : w6.cell? ⟨g15, 0, none⟩ = some (.int .u8 xk) := blk_cell (j := 0) HM.out.z15 rfl
  have y1 : w6.cell? ⟨g15, 1, none⟩ = some (.int .i64 xi) := blk_cell (j := 1) HM.out.z15 rfl
  have y2 : w6.cell? ⟨g15, 2, none⟩ = some (.int .i64 xn) := blk_cell (j := 2) HM.out.z15 rfl
  have y3 : w6.cell? ⟨g15, 3, none⟩ = some (.int .i64 xm) := blk_cell (j := 3) HM.out.z15 rfl
  have y4 : w6.cell? ⟨g15, 4, none⟩ = some (.slice xa xb.length xc) := blk_cell (j := 4) HM.out.z15 rfl
  have y5 : w6.cell? ⟨g15, 5, none⟩ = some (.bool xl) := blk_cell (j := 5) HM.out.z15 rfl
  have y6 := (Array.getElem?_eq_some_iff.1 HM.out.z15).1
  have z0 : w6.cell? ⟨g16, 0, none⟩ = some (.int .i64 fk) := blk_cell (j := 0) HM.out.z16 rfl
  have z1 : w6.cell? ⟨g16, 1, none⟩ = some (.int .i64 fl) := blk_cell (j := 1) HM.out.z16 rfl
  have z2 : w6.cell? ⟨g16, 2, none⟩ = some (.int .i64 fs) := blk_cell (j := 2) HM.out.z16 rfl
  have z3 : w6.cell? ⟨g16, 3, none⟩ = some (.slice pa fp.length pc) := blk_cell (j := 3) HM.out.z16 rfl
  have z4 : w6.cell? ⟨g16, 4, none⟩ = some (.int .i64 N0) := blk_cell (j := 4) HM.out.z16 rfl
  have z5 : w6.cell? ⟨g16, 5, none⟩ = some (.bool I0) := blk_cell (j := 5) HM.out.z16 rfl
  have z6 : w6.cell? ⟨g16, 6, none⟩ = some (.int .i64 E0) := blk_cell (j := 6) HM.out.z16 rfl
  have z7 := (Array.getElem?_eq_some_iff.1 HM.out.z16).1
  clear hsum
  have HLt := Lib.hid hlt
  have hj : xk % 10 = 0 := HKd.out
  have e0 : (xk % 10 == 0) = true := by rw [hj]; rfl
  have e1 : (xk % 10 == 1) = false := by rw [hj]; rfl
  have e2 : (xk % 10 == 2) = false := by rw [hj]; rfl
  have e3 : (xk % 10 == 3) = false := by rw [hj]; rfl
  have e4 : (xk % 10 == 4) = false := by rw [hj]; rfl
  have e5 : (xk % 10 == 5) = false := by rw [hj]; rfl
  have e7 : decide (7 ≤ xk % 10) = false := by rw [hj]; rfl
  have HJ := Lib.hid hj
  have HWn := Lib.hid (show E0 = 0 → winB xn = true from fun e => by
    have h1 := HE.out.2.2.2.1.trans e
    unfold aE at h1
    rw [if_pos HJ.out] at h1
    unfold openE20 at h1
    split at h1
    · rename_i h2; exact h2.2.2
    · cases h1)
  by_cases hid : xi = id
  · by_cases he : E0 = 0
    · have ei : (xi != id) = false := by rw [bne_eq_false_iff_eq]; exact hid
      have ee : (E0 != 0) = false := by rw [bne_eq_false_iff_eq]; exact he
      have HId := Lib.hid (And.intro hid he)
      clear hid he
      go_wp2_with fail
      exact hK.out (N - (k + 1)) _ _ _ _ _ _ _ _ _ _ _ _ _ _ _ _ _ _ _ _ _ _ _ _ _ _ _ _ _ _ _ _ _ _ _ _ _ _ _ _ _ _ _ _ _ _ _ _ _ _ _ _ _ _ _ _ _ _ _ _ _ _ _ _ _ _ _ _ _ _ _ _ _ _ _ _ _ _ _ _ _ _ _ _ _ _ _ _ _ _ _ _ _ _ _ _ _ _ _ _ _ _ _ _ _ _ _ _ _ _ _ _ _ _ _ _ _ _ _ _ _ _ _ _ _ _ _ _ _ _ _ _ _ _ _ _ _ _ _ _ _ _ _ _ _ _ _ _ _ _ _ _ _ _ _ _ _ _ _ _ (by have := HKQ.out; have := HLt.out; omega) (⟨k + 1, by have := HLt.out; omega, by go_num, 0, false, xn, rfl, rfl, rfl, Lib.hid ⟨s2, B2, [], (show Md20 w1 w6 T B2 s2 [] (.slice none 0 0) g15 g16 _ _ from ⟨HM.out.p, HM.out.b, HM.out.gB, Sl.nil _ _, fun h => absurd rfl h, HM.out.z15, HM.out.z16⟩).end_ (show J20 (k + 1) s2 cap id [] 0 false xn from by rw [← HE.out.2.2.2.2]; exact (act_open HP.out.j HLb.out HJ.out).1 HId.out.1 (HE.out.2.2.2.1.trans HId.out.2)) (Nat.zero_le _) (HWn.out HId.out.2)⟩⟩)
    · have ei : (xi != id) = false := by rw [bne_eq_false_iff_eq]; exact hid
      have ee : (E0 != 0) = true := by rw [bne_iff_ne]; exact he
      have HId := Lib.hid he
      clear hid he
      go_wp2_with fail
      exact hK.out (N - (k + 1)) _ _ _ _ _ _ _ _ _ _ _ _ _ _ _ _ _ _ _ _ _ _ _ _ _ _ _ _ _ _ _ _ _ _ _ _ _ _ _ _ _ _ _ _ _ _ _ _ _ _ _ _ _ _ _ _ _ _ _ _ _ _ _ _ _ _ _ _ _ _ _ _ _ _ _ _ _ _ _ _ _ _ _ _ _ _ _ _ _ _ _ _ _ _ _ _ _ _ _ _ _ _ _ _ _ _ _ _ _ _ _ _ _ _ _ _ _ _ _ _ _ _ _ _ _ _ _ _ _ _ _ _ _ _ _ _ _ _ _ _ _ _ _ _ _ _ _ _ _ _ _ _ _ _ _ _ _ _ _ _ (by have := HKQ.out; have := HLt.out; omega) (⟨k + 1, by have := HLt.out; omega, by go_num, h, l, w, rfl, rfl, rfl, Lib.hid ⟨s2, B2, d, HM.out.end_ (show J20 (k + 1) s2 cap id d h l w from by rw [← HE.out.2.2.2.2]; exact (act_open HP.out.j HLb.out HJ.out).2 (fun e => HId.out (HE.out.2.2.2.1.symm.trans e.2))) (by have := HP.out.dl; omega) HP.out.ww⟩⟩)
  · have ei : (xi != id) = true := by rw [bne_iff_ne]; exact hid
    have HId := Lib.hid hid
    clear hid
    go_wp2_with fail
    exact hK.out (N - (k + 1)) _ _ _ _ _ _ _ _ _ _ _ _ _ _ _ _ _ _ _ _ _ _ _ _ _ _ _ _ _ _ _ _ _ _ _ _ _ _ _ _ _ _ _ _ _ _ _ _ _ _ _ _ _ _ _ _ _ _ _ _ _ _ _ _ _ _ _ _ _ _ _ _ _ _ _ _ _ _ _ _ _ _ _ _ _ _ _ _ _ _ _ _ _ _ _ _ _ _ _ _ _ _ _ _ _ _ _ _ _ _ _ _ _ _ _ _ _ _ _ _ _ _ _ _ _ _ _ _ _ _ _ _ _ _ _ _ _ _ _ _ _ _ _ _ _ _ _ _ _ _ _ _ _ _ _ _ _ _ _ _ (by have := HKQ.out; have := HLt.out; omega) (⟨k + 1, by have := HLt.out; omega, by go_num, h, l, w, rfl, rfl, rfl, Lib.hid ⟨s2, B2, d, HM.out.end_ (show J20 (k + 1) s2 cap id d h l w from by rw [← HE.out.2.2.2.2]; exact (act_open HP.out.j HLb.out HJ.out).2 (fun e => HId.out e.1)) (by have := HP.out.dl; omega) HP.out.ww⟩⟩)
set_option maxRecDepth 1000000 in
set_option maxHeartbeats 8000000 in
theorem wh_k1 (w1 : World) (T : Nat) (cap id : Int) (ys : List A20) (N c : Nat) (ad : Option Addr) (c3 c4 c5 c7 c9 c23 c24 c25 c26 c27 c28 c29 c30 c31 c32 c33 c34 c35 c36 c37 c38 c39 c185 : Value) (n : Nat) (wr : World) (K : Act → World → Prop) (Q : Exit → Act → World → Prop) (k : Nat) (s : Sd) (B : Nat → Prop) (d : List Int) (dv : Value) (h w : Int) (l : Bool)
    (u6 u15 u16 u17 u18 u19 u20 u21 u22 u40 u41 u42 u43 u44 u45 u46 u47 u48 u49 u50 u51 u52 u53 u54 u55 u56 u57 u58 u59 u60 u61 u62 u63 u64 u65 u66 u67 u68 u69 u70 u71 u72 u73 u74 u75 u76 u77 u78 u79 u80 u81 u82 u83 u84 u85 u86 u87 u88 u89 u90 u91 u92 u93 u94 u95 u96 u97 u98 u99 u100 u101 u102 u103 u104 u105 u106 u107 u108 u109 u110 u111 u112 u113 u114 u115 u116 u117 u118 u119 u120 u121 u122 u123 u124 u125 u126 u127 u128 u129 u130 u131 u132 u133 u134 u135 u136 u137 u138 u139 u140 u141 u142 u143 u144 u145 u146 u147 u148 u149 u150 u151 u152 u153 u154 u155 u156 u157 u158 u159 u160 u161 u162 u163 u164 u165 u166 u167 u168 u169 u170 u171 u172 u173 u174 u175 u176 u177 u178 u179 u180 u181 u182 u183 u184 : Value)
    (hK : Hid (∀ (m : Nat) (u6 u10 u11 u12 u13 u14 u15 u16 u17 u18 u19 u20 u21 u22 u40 u41 u42 u43 u44 u45 u46 u47 u48 u49 u50 u51 u52 u53 u54 u55 u56 u57 u58 u59 u60 u61 u62 u63 u64 u65 u66 u67 u68 u69 u70 u71 u72 u73 u74 u75 u76 u77 u78 u79 u80 u81 u82 u83 u84 u85 u86 u87 u88 u89 u90 u91 u92 u93 u94 u95 u96 u97 u98 u99 u100 u101 u102 u103 u104 u105 u106 u107 u108 u109 u110 u111 u112 u113 u114 u115 u116 u117 u118 u119 u120 u121 u122 u123 u124 u125 u126 u127 u128 u129 u130 u131 u132 u133 u134 u135 u136 u137 u138 u139 u140 u141 u142 u143 u144 u145 u146 u147 u148 u149 u150 u151 u152 u153 u154 u155 u156 u157 u158 u159 u160 u161 u162 u163 u164 u165 u166 u167 u168 u169 u170 u171 u172 u173 u174 u175 u176 u177 u178 u179 u180 u181 u182 u183 u184 : Value) (w2 : World), m < n → wh_R w1 T cap id ys N c ad m u10 u11 u12 u13 u14 w2 → K ⟨#[.int .u16 cap, .slice ad N c, .int .i64 id, c3, c4, c5, u6, c7, .pointer (some ⟨T, 0, none⟩), c9, u10, u11, u12, u13, u14, u15, u16, u17, u18, u19, u20, u21, u22, c23, c24, c25, c26, c27, c28, c29, c30, c31, c32, c33, c34, c35, c36, c37, c38, c39, u40, u41, u42, u43, u44, u45, u46, u47, u48, u49, u50, u51, u52, u53, u54, u55, u56, u57, u58, u59, u60, u61, u62, u63, u64, u65, u66, u67, u68, u69, u70, u71, u72, u73, u74, u75, u76, u77, u78, u79, u80, u81, u82, u83, u84, u85, u86, u87, u88, u89, u90, u91, u92, u93, u94, u95, u96, u97, u98, u99, u100, u101, u102, u103, u104, u105, u106, u107, u108, u109, u110, u111, u112, u113, u114, u115, u116, u117, u118, u119, u120, u121, u122, u123, u124, u125, u126, u127, u128, u129, u130, u131, u132, u133, u134, u135, u136, u137, u138, u139, u140, u141, u142, u143, u144, u145, u146, u147, u148, u149, u150, u151, u152, u153, u154, u155, u156, u157, u158, u159, u160, u161, u162, u163, u164, u165, u166, u167, u168, u169, u170, u171, u172, u173, u174, u175, u176, u177, u178, u179, u180, u181, u182, u183, u184, c185], []⟩ w2))
    (HN : Hid (ys.length = N ∧ N ≤ 100)) (HS : Hid (SlA20 w1 (.slice ad N c) ys)) (HFX : Hid (∀ x ∈ ys, x.b.1.length ≤ 300)) (hc1 : N ≤ c) (hc2 : c ≤ 2 ^ 63 - 1) (HC : Hid (0 ≤ cap ∧ cap ≤ 65535)) (hkq : k + n = N) (HP : Hid (Wh20 w1 wr T B s cap id k d dv h l w)) (hlt : k < N) (hkind : ∀ x : A20, ys[k]? = some x → x.k % 10 = 1) :
    Code.wp Try.prog wh_body (Exit.then K Q) ⟨#[.int .u16 cap, .slice ad N c, .int .i64 id, c3, c4, c5, u6, c7, .pointer (some ⟨T, 0, none⟩), c9, dv, .int .i64 h, .bool l, .int .i64 w, .int .i64 (k : Int), u15, u16, u17, u18, u19, u20, u21, u22, c23, c24, c25, c26, c27, c28, c29, c30, c31, c32, c33, c34, c35, c36, c37, c38, c39, u40, u41, u42, u43, u44, u45, u46, u47, u48, u49, u50, u51, u52, u53, u54, u55, u56, u57, u58, u59, u60, u61, u62, u63, u64, u65, u66, u67, u68, u69, u70, u71, u72, u73, u74, u75, u76, u77, u78, u79, u80, u81, u82, u83, u84, u85, u86, u87, u88, u89, u90, u91, u92, u93, u94, u95, u96, u97, u98, u99, u100, u101, u102, u103, u104, u105, u106, u107, u108, u109, u110, u111, u112, u113, u114, u115, u116, u117, u118, u119, u120, u121, u122, u123, u124, u125, u126, u127, u128, u129, u130, u131, u132, u133, u134, u135, u136, u137, u138, u139, u140, u141, u142, u143, u144, u145, u146, u147, u148, u149, u150, u151, u152, u153, u154, u155, u156, u157, u158, u159, u160, u161, u162, u163, u164, u165, u166, u167, u168, u169, u170, u171, u172, u173, u174, u175, u176, u177, u178, u179, u180, u181, u182, u183, u184, c185], []⟩ wr := by
  conv => arg 2; whnf
  have HKQ := Lib.hid hkq
  have hk : k ≤ N := by omega
  obtain ⟨hcl, hch⟩ := HC.out
  have hwc : IntKind.i64.wrap cap = cap := wrap_i64_small (by omega) (by omega)
  clear hkq
  obtain ⟨x, hx⟩ : ∃ x, ys[k]? = some x := ⟨ys[k]'(by rw [HN.out.1]; exact hlt), List.getElem?_eq_getElem (by rw [HN.out.1]; exact hlt)⟩
  obtain ⟨ab, off, rfl, _⟩ := HS.out.1.at_ (i := k) (by rw [HN.out.1]; exact hlt)
  have HCl := Lib.hid (act_cells HS.out HN.out.1 hx)
  have hmem := List.mem_of_getElem? hx
  have HKd := Lib.hid (hkind _ hx)
  have HX := Lib.hid (HS.out.2 _ hmem)
  have HLb := Lib.hid (HFX.out _ hmem)
  obtain ⟨xk, xi, xn, xm, ⟨xb, bv⟩, xl⟩ := x
  have hsl := HX.out.s
  dsimp only at hsl HLb
  obtain ⟨xa, xc, rfl, _⟩ := hsl
  have hx0 := HX.out.k0
  have hx1 := HX.out.k1
  dsimp only at hx0 hx1
  have hdl := HP.out.dl
  obtain ⟨da, dc, rfl, hdcap, hdmax, _⟩ := (show _ from HP.out.sl)
  unfold maxLen at hdmax
  have HSm := Lib.hid (HP.out.j.i.small (by have := HN.out.2; omega))
  have hix := fun q => run_index_sl (P := Try.prog) (t := 22) (s := 6) slice20 (fun _ => by kernel_rfl) ab off N c k hlt q
  clear hmem hx hkind
  obtain ⟨c0, c1, c2, c3, c4, c5, c6⟩ := HCl.out wr HP.out.b
  obtain ⟨W2, hW2⟩ : ∃ W2, wr.alloc (.cells #[.int .u8 xk, .int .i64 xi, .int .i64 xn, .int .i64 xm, .slice xa xb.length xc, .bool xl] 39) = W2 := ⟨_, rfl⟩
  obtain ⟨g15, hg15⟩ : ∃ g, wr.heap.size = g := ⟨_, rfl⟩
  have hb2 : Below wr.heap.size wr W2 := by rw [← hW2]; exact (Below.refl _ _).alloc (Nat.le_refl _) _
  have hz2 : W2.heap[g15]? = some (.cells #[.int .u8 xk, .int .i64 xi, .int .i64 xn, .int .i64 xm, .slice xa xb.length xc, .bool xl] 39 (0, 0)) := by rw [← hW2, ← hg15]; exact heap_alloc_new _ _
  have HM2 := Lib.hid (show SdAt W2 T B s ∧ Below w1.heap.size w1 W2 ∧ W2.heap[g15]? = some (.cells #[.int .u8 xk, .int .i64 xi, .int .i64 xn, .int .i64 xm, .slice xa xb.length xc, .bool xl] 39 (0, 0)) ∧ ¬ B g15 ∧ Sl .u8 W2 (.slice da d.length dc) d from
    ⟨HP.out.p.turn (Turn.of_below hb2 (S := fun _ => False)) (fun _ _ e => e), HP.out.b.trans (hb2.mono HP.out.b.size), hz2, fun e => by have := HP.out.p.lt e; omega, HP.out.sl.below hb2⟩)
  have y0 : W2.cell? ⟨g15, 0, none⟩ = some (.int .u8 xk) := blk_cell (j := 0) hz2 rfl
  have y1 : W2.cell? ⟨g15, 1, none⟩ = some (.int .i64 xi) := blk_cell (j := 1) hz2 rfl
  have y2 : W2.cell? ⟨g15, 2, none⟩ = some (.int .i64 xn) := blk_cell (j := 2) hz2 rfl
  have y3 : W2.cell? ⟨g15, 3, none⟩ = some (.int .i64 xm) := blk_cell (j := 3) hz2 rfl
  have y4 : W2.cell? ⟨g15, 4, none⟩ = some (.slice xa xb.length xc) := blk_cell (j := 4) hz2 rfl
  have y5 : W2.cell? ⟨g15, 5, none⟩ = some (.bool xl) := blk_cell (j := 5) hz2 rfl
  have y6 := (Array.getElem?_eq_some_iff.1 hz2).1
  clear hb2 hz2
  go_wp2_with fail
  refine (said20_any T B s ⟨xk, xi, xn, xm, (xb, .slice xa xb.length xc), xl⟩ W2 HM2.out.1 (HX.out.below HM2.out.2.1) HSm.out (by have := HLb.out; dsimp only; omega) (fun h1 g hg e => by have := HX.out.s.lt0 h1 hg; have := HP.out.gB g e; omega)).mono ?_
  rintro e w3 ⟨pv, B2, rfl, hp, hpb, hs2, ht2, hB2⟩
  obtain ⟨s2, hq⟩ : ∃ s2, aQ s ⟨xk, xi, xn, xm, (xb, .slice xa xb.length xc), xl⟩ = s2 := ⟨_, rfl⟩
  obtain ⟨F, hF⟩ : ∃ F, aF s ⟨xk, xi, xn, xm, (xb, .slice xa xb.length xc), xl⟩ = F := ⟨_, rfl⟩
  obtain ⟨N0, hN0⟩ : ∃ x, aN s ⟨xk, xi, xn, xm, (xb, .slice xa xb.length xc), xl⟩ = x := ⟨_, rfl⟩
  obtain ⟨I0, hI0⟩ : ∃ x, aI s ⟨xk, xi, xn, xm, (xb, .slice xa xb.length xc), xl⟩ = x := ⟨_, rfl⟩
  obtain ⟨E0, hE0⟩ : ∃ x, aE s ⟨xk, xi, xn, xm, (xb, .slice xa xb.length xc), xl⟩ = x := ⟨_, rfl⟩
  rw [hF] at hp hpb
  rw [hq] at hs2
  rw [hF, hN0, hI0, hE0]
  have HE := Lib.hid (And.intro hF (And.intro hN0 (And.intro hI0 (And.intro hE0 hq))))
  clear hF hN0 hI0 hE0 hq
  obtain ⟨fk, fl, fs, fp⟩ := F
  dsimp only at hp hpb HE ⊢
  obtain ⟨pa, pc, rfl, _⟩ := (show _ from hp)
  obtain ⟨W4, hW4⟩ : ∃ W4, w3.alloc (.cells #[.int .i64 fk, .int .i64 fl, .int .i64 fs, .slice pa fp.length pc, .int .i64 N0, .bool I0, .int .i64 E0] 36) = W4 := ⟨_, rfl⟩
  obtain ⟨g16, hg16⟩ : ∃ g, w3.heap.size = g := ⟨_, rfl⟩
  have hb4 : Below w3.heap.size w3 W4 := by rw [← hW4]; exact (Below.refl _ _).alloc (Nat.le_refl _) _
  have hz4 : W4.heap[g16]? = some (.cells #[.int .i64 fk, .int .i64 fl, .int .i64 fs, .slice pa fp.length pc, .int .i64 N0, .bool I0, .int .i64 E0] 36 (0, 0)) := by rw [← hW4, ← hg16]; exact heap_alloc_new _ _
  have HM4 := Lib.hid (show Md20 w1 W4 T B2 s2 d (.slice da d.length dc) g15 g16 #[.int .u8 xk, .int .i64 xi, .int .i64 xn, .int .i64 xm, .slice xa xb.length xc, .bool xl] #[.int .i64 fk, .int .i64 fl, .int .i64 fs, .slice pa fp.length pc, .int .i64 N0, .bool I0, .int .i64 E0] from by
    have hb3 := ht2.base HM2.out.2.1 HM2.out.2.1.size HP.out.gB
    refine ⟨hs2.turn (Turn.of_below hb4 (S := fun _ => False)) (fun _ _ e => e), hb3.trans (hb4.mono hb3.size), fun g hg => (hB2 g hg).elim (HP.out.gB g) (Nat.le_trans HM2.out.2.1.size), (HM2.out.2.2.2.2.turn0 ht2 HP.out.nb).below hb4, fun h1 g hg e => ?_, (Turn.of_below hb4 (S := fun _ => False)).obj (ht2.obj HM2.out.2.2.1 HM2.out.2.2.2.1) (fun e => e), hz4⟩
    rcases hB2 g e with e | e
    · exact HP.out.nb h1 g hg e
    · have := HM2.out.2.2.2.2.lt0 h1 hg; omega)
  have HPv := Lib.hid (hp.below hb4)
  have HJ' := Lib.hid (HP.out.j)
  clear hs2 ht2 hB2 hp hpb c0 c1 c2 c3 c4 c5 c6 y0 y1 y2 y3 y4 y5 y6 hb4 hz4 hW2
  have HI2 := Lib.hid (show Inv20 (k + 1) s2 from by rw [← HE.out.2.2.2.2]; exact HP.out.j.i.act HLb.out)
  have HS2 := Lib.hid (HI2.out.small (by have := HN.out.2; omega))
  have HSum := Lib.hid (show (sumB s2.l : Int) ≤ cap from by rw [← HE.out.2.2.2.2]; exact sum_act HP.out.j HLb.out)
  have hsum := HSum.out
  have dq : decide (cap < (sumB s2.l : Int)) = false := decide_eq_false (by omega)
  have dq0 : decide ((sumB s2.l : Int) < 0) = false := decide_eq_false (by omega)
  go_wp2_with fail
  refine (pWaiting20 HM4.out.p HS2.out).mono ?_
  rintro e w5 ⟨rfl, hb5⟩
  have HM5 := Lib.hid (And.intro (HM4.out.grown hb5) (HPv.out.below hb5))
  clear hb5 hW4 hg16 hg15
  go_wp2_with fail
  refine (pWaiting20 HM5.out.1.p HS2.out).mono ?_
  rintro e w6 ⟨rfl, hb6⟩
  have HM := Lib.hid (HM5.out.1.grown hb6)
  have HPy := Lib.hid (HM5.out.2.below hb6)
  clear hb6
  have y0 : w6.cell? ⟨g15, 0, none⟩ = some (.int .u8 xk) := blk_cell (j := 0) HM.out.z15 rfl
  have y1 : w6.cell? ⟨g15, 1, none⟩ = some (.int .i64 xi) := blk_cell (j := 1) HM.out.z15 rfl
  have y2 : w6.cell? ⟨g15, 2, none⟩ = some (.int .i64 xn) := blk_cell (j := 2) HM.out.z15 rfl
  have y3 : w6.cell? ⟨g15, 3, none⟩ = some (.int .i64 xm) := blk_cell (j := 3) HM.out.z15 rfl
  have y4 : w6.cell? ⟨g15, 4, none⟩ = some (.slice xa xb.length xc) := blk_cell (j := 4) HM.out.z15 rfl
  have y5 : w6.cell? ⟨g15, 5, none⟩ = some (.bool xl) := blk_cell (j := 5) HM.out.z15 rfl
  have y6 := (Array.getElem?_eq_some_iff.1 HM.out.z15).1
  have z0 : w6.cell? ⟨g16, 0, none⟩ = some (.int .i64 fk) := blk_cell (j := 0) HM.out.z16 rfl
  have z1 : w6.cell? ⟨g16, 1, none⟩ = some (.int .i64 fl) := blk_cell (j := 1) HM.out.z16 rfl
  have z2 : w6.cell? ⟨g16, 2, none⟩ = some (.int .i64 fs) := blk_cell (j := 2) HM.out.z16 rfl
  have z3 : w6.cell? ⟨g16, 3, none⟩ = some (.slice pa fp.length pc) := blk_cell (j := 3) HM.out.z16 rfl
  have z4 : w6.cell? ⟨g16, 4, none⟩ = some (.int .i64 N0) := blk_cell (j := 4) HM.out.z16 rfl
  have z5 : w6.cell? ⟨g16, 5, none⟩ = some (.bool I0) := blk_cell (j := 5) HM.out.z16 rfl
  have z6 : w6.cell? ⟨g16, 6, none⟩ = some (.int .i64 E0) := blk_cell (j := 6) HM.out.z16 rfl
  have z7 := (Array.getElem?_eq_some_iff.1 HM.out.z16).1
  clear hsum
  have HLt := Lib.hid hlt
  have hj : xk % 10 = 1 := HKd.out
  have e0 : (xk % 10 == 0) = false := by rw [hj]; rfl
  have e1 : (xk % 10 == 1) = true := by rw [hj]; rfl
  have e2 : (xk % 10 == 2) = false := by rw [hj]; rfl
  have e3 : (xk % 10 == 3) = false := by rw [hj]; rfl
  have e4 : (xk % 10 == 4) = false := by rw [hj]; rfl
  have e5 : (xk % 10 == 5) = false := by rw [hj]; rfl
  have e7 : decide (7 ≤ xk % 10) = false := by rw [hj]; rfl
  have HJ := Lib.hid hj
  by_cases hid : xi = id
  · by_cases he : E0 = 0
    · have ei : (xi != id) = false := by rw [bne_eq_false_iff_eq]; exact hid
      have ee : (E0 != 0) = false := by rw [bne_eq_false_iff_eq]; exact he
      have HId := Lib.hid (And.intro hid he)
      clear hid he
      go_wp2_with fail
      exact hK.out (N - (k + 1)) _ _ _ _ _ _ _ _ _ _ _ _ _ _ _ _ _ _ _ _ _ _ _ _ _ _ _ _ _ _ _ _ _ _ _ _ _ _ _ _ _ _ _ _ _ _ _ _ _ _ _ _ _ _ _ _ _ _ _ _ _ _ _ _ _ _ _ _ _ _ _ _ _ _ _ _ _ _ _ _ _ _ _ _ _ _ _ _ _ _ _ _ _ _ _ _ _ _ _ _ _ _ _ _ _ _ _ _ _ _ _ _ _ _ _ _ _ _ _ _ _ _ _ _ _ _ _ _ _ _ _ _ _ _ _ _ _ _ _ _ _ _ _ _ _ _ _ _ _ _ _ _ _ _ _ _ _ _ _ _ (by have := HKQ.out; have := HLt.out; omega) (⟨k + 1, by have := HLt.out; omega, by go_num, 1, xl, w, rfl, rfl, rfl, Lib.hid ⟨s2, B2, d, HM.out.end_ (show J20 (k + 1) s2 cap id d 1 xl w from by rw [← HE.out.2.2.2.2]; exact (act_head HP.out.j HLb.out HJ.out).1 HId.out.1 (HE.out.2.2.2.1.trans HId.out.2)) (by have := HP.out.dl; omega) HP.out.ww⟩⟩)
    · have ei : (xi != id) = false := by rw [bne_eq_false_iff_eq]; exact hid
      have ee : (E0 != 0) = true := by rw [bne_iff_ne]; exact he
      have HId := Lib.hid he
      clear hid he
      go_wp2_with fail
      exact hK.out (N - (k + 1)) _ _ _ _ _ _ _ _ _ _ _ _ _ _ _ _ _ _ _ _ _ _ _ _ _ _ _ _ _ _ _ _ _ _ _ _ _ _ _ _ _ _ _ _ _ _ _ _ _ _ _ _ _ _ _ _ _ _ _ _ _ _ _ _ _ _ _ _ _ _ _ _ _ _ _ _ _ _ _ _ _ _ _ _ _ _ _ _ _ _ _ _ _ _ _ _ _ _ _ _ _ _ _ _ _ _ _ _ _ _ _ _ _ _ _ _ _ _ _ _ _ _ _ _ _ _ _ _ _ _ _ _ _ _ _ _ _ _ _ _ _ _ _ _ _ _ _ _ _ _ _ _ _ _ _ _ _ _ _ _ (by have := HKQ.out; have := HLt.out; omega) (⟨k + 1, by have := HLt.out; omega, by go_num, h, l, w, rfl, rfl, rfl, Lib.hid ⟨s2, B2, d, HM.out.end_ (show J20 (k + 1) s2 cap id d h l w from by rw [← HE.out.2.2.2.2]; exact (act_head HP.out.j HLb.out HJ.out).2 (fun e => HId.out (HE.out.2.2.2.1.symm.trans e.2))) (by have := HP.out.dl; omega) HP.out.ww⟩⟩)
  · have ei : (xi != id) = true := by rw [bne_iff_ne]; exact hid
    have HId := Lib.hid hid
    clear hid
    go_wp2_with fail
    exact hK.out (N - (k + 1)) _ _ _ _ _ _ _ _ _ _ _ _ _ _ _ _ _ _ _ _ _ _ _ _ _ _ _ _ _ _ _ _ _ _ _ _ _ _ _ _ _ _ _ _ _ _ _ _ _ _ _ _ _ _ _ _ _ _ _ _ _ _ _ _ _ _ _ _ _ _ _ _ _ _ _ _ _ _ _ _ _ _ _ _ _ _ _ _ _ _ _ _ _ _ _ _ _ _ _ _ _ _ _ _ _ _ _ _ _ _ _ _ _ _ _ _ _ _ _ _ _ _ _ _ _ _ _ _ _ _ _ _ _ _ _ _ _ _ _ _ _ _ _ _ _ _ _ _ _ _ _ _ _ _ _ _ _ _ _ _ (by have := HKQ.out; have := HLt.out; omega) (⟨k + 1, by have := HLt.out; omega, by go_num, h, l, w, rfl, rfl, rfl, Lib.hid ⟨s2, B2, d, HM.out.end_ (show J20 (k + 1) s2 cap id d h l w from by rw [← HE.out.2.2.2.2]; exact (act_head HP.out.j HLb.out HJ.out).2 (fun e => HId.out e.1)) (by have := HP.out.dl; omega) HP.out.ww⟩⟩)
end Go.Proofs.Ytnoegbdmjinfjaa
