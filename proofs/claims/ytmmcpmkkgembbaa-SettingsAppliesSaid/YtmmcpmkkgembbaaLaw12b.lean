
/-
  Layer 12: the law SettingsApplies (written by wip/tools/gen12l.py).
-/
import Derived.Test.YtmmcpmkkgembbaaLaw12
import Derived.Test.YtmmcpmkkgembbaaLaw12o
import Derived.Test.YtmmcpmkkgembbaaSetRefApp
import Derived.Test.YtmmcpmkkgembbaaQuiet
import Derived.Test.YtmmcpmkkgembbaaFrameInts
import Derived.Shelf.Abstract
namespace Go.Proofs.Ytmmcpmkkgembbaa
set_option maxRecDepth 20000
open Go.RowKit

theorem inB_low {n : Int} (h : inB n = true) : -4294967296 ≤ n ∧ n ≤ 4294967296 := by
  unfold inB at h
  simp only [Bool.and_eq_true, Bool.not_eq_true', decide_eq_false_iff_not] at h
  omega
theorem tupA_shape (x : S6) (ps : List Pr) : ∃ (r : S6) (n c : Int), tupA x ps = .tuple #[r.v, .int .i64 n, .int .i64 c] := by
  unfold tupA
  cases firstF ps == 0
  · exact ⟨_, _, _, rfl⟩
  · exact ⟨_, _, _, rfl⟩
set_option maxHeartbeats 8000000 in
theorem tells12_any (x : S6) (v : Value) (ps : List Pr) (w : World) (h : SlP w v ps) :
    Calls Try.prog 3 #[x.v, v] w fun e w' => e = .returned (.bool true) ∧ Below w.heap.size w w' := by
  obtain ⟨a, cp, rfl, _⟩ := id h
  obtain ⟨N, hN⟩ : ∃ N, ps.length = N := ⟨_, rfl⟩
  rw [hN] at h ⊢
  have HN := Lib.hid hN
  have HS := Lib.hid h
  clear hN h
  unfold S6.v S6.cs setC
  obtain ⟨W1, hW1⟩ : ∃ W1, w.alloc (.cells #[.int .i64 x.t, .int .i64 x.p, .int .i64 x.s, .int .i64 x.u, .int .i64 x.f, .int .i64 x.l] 23) = W1 := ⟨_, rfl⟩
  have HB1 := Lib.hid (show Below w.heap.size w W1 ∧ W1.heap[w.heap.size]? = some (.cells #[.int .i64 x.t, .int .i64 x.p, .int .i64 x.s, .int .i64 x.u, .int .i64 x.f, .int .i64 x.l] 23 (0, 0)) from by
    rw [← hW1]; exact ⟨(Below.refl _ _).alloc (Nat.le_refl _) _, heap_alloc_new _ _⟩)
  obtain ⟨f0, f1, f2, f3, f4, f5, f6⟩ := cells6 HB1.out.2
  go_enter Try.func3, Try.ntmps3
  go_wp2_with fail
  refine (small12_any x.t x.p x.s x.u x.f x.l _ ps W1 (HS.out.below HB1.out.1)).mono ?_
  rintro e w2 ⟨rfl, hb2⟩
  clear f0 f1 f2 f3 f4 f5 f6 hW1
  have HB2 := Lib.hid (show Below w.heap.size w w2 ∧ w2.heap[w.heap.size]? = some (.cells #[.int .i64 x.t, .int .i64 x.p, .int .i64 x.s, .int .i64 x.u, .int .i64 x.f, .int .i64 x.l] 23 (0, 0)) from
    ⟨HB1.out.1.trans (hb2.mono HB1.out.1.size), (hb2.block _ (Array.getElem?_eq_some_iff.1 HB1.out.2).1).trans HB1.out.2⟩)
  clear hb2 HB1
  obtain ⟨sm, hsm⟩ : ∃ b, smallP x.u ps = b := ⟨_, rfl⟩
  rw [hsm]
  cases sm
  · clear hsm
    go_wp2_with fail
    refine (alive12 _).mono ?_
    rintro e w3 ⟨rfl, hb3⟩
    have HB3 := Lib.hid (HB2.out.1.trans (hb3.mono HB2.out.1.size))
    clear hb3
    go_wp2_with fail
    go_ret
    exact ⟨rfl, HB3.out⟩
  have HL := Lib.hid (show ps.length ≤ 50 ∧ Low ps ∧ -4294967296 ≤ x.u ∧ x.u ≤ 4294967296 from by
    unfold smallP at hsm
    simp only [Bool.and_eq_true, decide_eq_true_iff] at hsm
    have h1 := inB_low hsm.1.2
    exact ⟨hsm.1.1, fun p hp => inB_low (List.all_eq_true.1 hsm.2 p hp), h1.1, h1.2⟩)
  clear hsm
  obtain ⟨r, n, c, hr⟩ := tupA_shape x ps
  have HR := Lib.hid hr
  clear hr
  obtain ⟨y, z, hz⟩ : ∃ y z, encP ps = (y, z) := ⟨_, _, rfl⟩
  have HZ := Lib.hid hz
  clear hz
  obtain ⟨f0, f1, f2, f3, f4, f5, f6⟩ := cells6 HB2.out.2
  go_wp2_with fail
  refine (apply_any x _ ps w2 (HS.out.below HB2.out.1) HL.out.2.1 HL.out.2.2.1 HL.out.2.2.2).mono ?_
  rintro e w3 ⟨rfl, hb3⟩
  rw [HR.out]
  unfold S6.v S6.cs setC
  clear f0 f1 f2 f3 f4 f5 f6
  obtain ⟨W3, hW3⟩ : ∃ W3, w3.alloc (.cells #[.int .i64 r.t, .int .i64 r.p, .int .i64 r.s, .int .i64 r.u, .int .i64 r.f, .int .i64 r.l] 23) = W3 := ⟨_, rfl⟩
  obtain ⟨g3, hg3⟩ : ∃ g, w3.heap.size = g := ⟨_, rfl⟩
  have HB3 := Lib.hid (show Below w.heap.size w W3 ∧ W3.heap[w.heap.size]? = some (.cells #[.int .i64 x.t, .int .i64 x.p, .int .i64 x.s, .int .i64 x.u, .int .i64 x.f, .int .i64 x.l] 23 (0, 0)) ∧ W3.heap[g3]? = some (.cells #[.int .i64 r.t, .int .i64 r.p, .int .i64 r.s, .int .i64 r.u, .int .i64 r.f, .int .i64 r.l] 23 (0, 0)) from by
    have h2 := hb3.alloc hb3.size (.cells #[.int .i64 r.t, .int .i64 r.p, .int .i64 r.s, .int .i64 r.u, .int .i64 r.f, .int .i64 r.l] 23)
    rw [hW3] at h2
    exact ⟨HB2.out.1.trans (h2.mono HB2.out.1.size), (h2.block _ (Array.getElem?_eq_some_iff.1 HB2.out.2).1).trans HB2.out.2, by rw [← hW3, ← hg3]; exact heap_alloc_new w3 _⟩)
  clear hb3 HB2
  obtain ⟨f0, f1, f2, f3, f4, f5, f6⟩ := cells6 HB3.out.2.1
  go_wp2_with fail
  refine (set12_any x _).mono ?_
  rintro e w4 ⟨rfl, hb4⟩
  clear f0 f1 f2 f3 f4 f5 f6 hW3 hg3
  unfold S6.v S6.cs setC
  have HB4 := Lib.hid (show Below w.heap.size w w4 ∧ w4.heap[g3]? = some (.cells #[.int .i64 r.t, .int .i64 r.p, .int .i64 r.s, .int .i64 r.u, .int .i64 r.f, .int .i64 r.l] 23 (0, 0)) from
    ⟨HB3.out.1.trans (hb4.mono HB3.out.1.size), (hb4.block _ (Array.getElem?_eq_some_iff.1 HB3.out.2.2).1).trans HB3.out.2.2⟩)
  clear hb4 HB3
  go_wp2_with fail
  refine (of12_any _ ps w4 (HS.out.below HB4.out.1) (by have := HL.out.1; omega)).mono ?_
  rintro e w5 ⟨v5, rfl, hs5, hb5⟩
  have HB5 := Lib.hid (show Below w.heap.size w w5 ∧ w5.heap[g3]? = some (.cells #[.int .i64 r.t, .int .i64 r.p, .int .i64 r.s, .int .i64 r.u, .int .i64 r.f, .int .i64 r.l] 23 (0, 0)) from
    ⟨HB4.out.1.trans (hb5.mono HB4.out.1.size), (hb5.block _ (Array.getElem?_eq_some_iff.1 HB4.out.2).1).trans HB4.out.2⟩)
  have HV5 := Lib.hid hs5
  obtain ⟨a5, c5, rfl, _⟩ := id hs5
  clear hb5 HB4 hs5
  go_wp2_with fail
  refine (refApply_any x _ ps w5 HV5.out HL.out.2.1 HL.out.2.2.1 HL.out.2.2.2).mono ?_
  rintro e w6 ⟨rfl, hb6⟩
  rw [HR.out]
  unfold S6.v S6.cs setC
  obtain ⟨W6, hW6⟩ : ∃ W6, w6.alloc (.cells #[.int .i64 r.t, .int .i64 r.p, .int .i64 r.s, .int .i64 r.u, .int .i64 r.f, .int .i64 r.l] 30) = W6 := ⟨_, rfl⟩
  obtain ⟨g6, hg6⟩ : ∃ g, w6.heap.size = g := ⟨_, rfl⟩
  have HB6 := Lib.hid (show Below w.heap.size w W6 ∧ W6.heap[g3]? = some (.cells #[.int .i64 r.t, .int .i64 r.p, .int .i64 r.s, .int .i64 r.u, .int .i64 r.f, .int .i64 r.l] 23 (0, 0)) ∧ W6.heap[g6]? = some (.cells #[.int .i64 r.t, .int .i64 r.p, .int .i64 r.s, .int .i64 r.u, .int .i64 r.f, .int .i64 r.l] 30 (0, 0)) from by
    have h2 := hb6.alloc hb6.size (.cells #[.int .i64 r.t, .int .i64 r.p, .int .i64 r.s, .int .i64 r.u, .int .i64 r.f, .int .i64 r.l] 30)
    rw [hW6] at h2
    exact ⟨HB5.out.1.trans (h2.mono HB5.out.1.size), (h2.block _ (Array.getElem?_eq_some_iff.1 HB5.out.2).1).trans HB5.out.2, by rw [← hW6, ← hg6]; exact heap_alloc_new w6 _⟩)
  clear hb6 HB5 HV5
  go_wp2_with fail
  refine (encode12_any _ ps W6 (HS.out.below HB6.out.1) (by have := HL.out.1; omega)).mono ?_
  rintro e w7 ⟨vx, rfl, hs7, hb7⟩
  clear hW6 hg6
  rw [HZ.out] at hs7 ⊢
  simp only at hs7 ⊢
  have HB7 := Lib.hid (show Below w.heap.size w w7 ∧ w7.heap[g3]? = some (.cells #[.int .i64 r.t, .int .i64 r.p, .int .i64 r.s, .int .i64 r.u, .int .i64 r.f, .int .i64 r.l] 23 (0, 0)) ∧ w7.heap[g6]? = some (.cells #[.int .i64 r.t, .int .i64 r.p, .int .i64 r.s, .int .i64 r.u, .int .i64 r.f, .int .i64 r.l] 30 (0, 0)) from
    ⟨HB6.out.1.trans (hb7.mono HB6.out.1.size), (hb7.block _ (Array.getElem?_eq_some_iff.1 HB6.out.2.1).1).trans HB6.out.2.1, (hb7.block _ (Array.getElem?_eq_some_iff.1 HB6.out.2.2).1).trans HB6.out.2.2⟩)
  have HX7 := Lib.hid hs7
  obtain ⟨ax, cx, rfl, _⟩ := id hs7
  clear hb7 HB6 hs7
  go_wp2_with fail
  refine (of12_any _ ps w7 (HS.out.below HB7.out.1) (by have := HL.out.1; omega)).mono ?_
  rintro e w8 ⟨v8, rfl, hs8, hb8⟩
  have HB8 := Lib.hid (show Below w.heap.size w w8 ∧ w8.heap[g3]? = some (.cells #[.int .i64 r.t, .int .i64 r.p, .int .i64 r.s, .int .i64 r.u, .int .i64 r.f, .int .i64 r.l] 23 (0, 0)) ∧ w8.heap[g6]? = some (.cells #[.int .i64 r.t, .int .i64 r.p, .int .i64 r.s, .int .i64 r.u, .int .i64 r.f, .int .i64 r.l] 30 (0, 0)) from
    ⟨HB7.out.1.trans (hb8.mono HB7.out.1.size), (hb8.block _ (Array.getElem?_eq_some_iff.1 HB7.out.2.1).1).trans HB7.out.2.1, (hb8.block _ (Array.getElem?_eq_some_iff.1 HB7.out.2.2).1).trans HB7.out.2.2⟩)
  have HX8 := Lib.hid (HX7.out.below hb8)
  have HV8 := Lib.hid hs8
  obtain ⟨a8, c8, rfl, _⟩ := id hs8
  clear hb8 HB7 HX7 hs8
  go_wp2_with fail
  refine (refEncode12_any _ ps w8 HV8.out (by have := HL.out.1; omega)).mono ?_
  rintro e w9 ⟨vy, rfl, hs9, hb9⟩
  rw [HZ.out] at hs9 ⊢
  simp only at hs9 ⊢
  have HB9 := Lib.hid (show Below w.heap.size w w9 ∧ w9.heap[g3]? = some (.cells #[.int .i64 r.t, .int .i64 r.p, .int .i64 r.s, .int .i64 r.u, .int .i64 r.f, .int .i64 r.l] 23 (0, 0)) ∧ w9.heap[g6]? = some (.cells #[.int .i64 r.t, .int .i64 r.p, .int .i64 r.s, .int .i64 r.u, .int .i64 r.f, .int .i64 r.l] 30 (0, 0)) from
    ⟨HB8.out.1.trans (hb9.mono HB8.out.1.size), (hb9.block _ (Array.getElem?_eq_some_iff.1 HB8.out.2.1).1).trans HB8.out.2.1, (hb9.block _ (Array.getElem?_eq_some_iff.1 HB8.out.2.2).1).trans HB8.out.2.2⟩)
  have HX9 := Lib.hid (HX8.out.below hb9)
  have HY9 := Lib.hid hs9
  obtain ⟨ay, cy, rfl, _⟩ := id hs9
  clear hb9 HB8 HX8 HV8 hs9
  go_wp2_with fail
  refine (same_any _ _ y y w9 HX9.out HY9.out).mono ?_
  rintro e w10 ⟨rfl, dn, rfl⟩
  rw [show decide (y = y) = true by simp]
  have HQ := Lib.hid (show (w9.drewN dn).heap[g3]? = some (.cells #[.int .i64 r.t, .int .i64 r.p, .int .i64 r.s, .int .i64 r.u, .int .i64 r.f, .int .i64 r.l] 23 (0, 0)) ∧ (w9.drewN dn).heap[g6]? = some (.cells #[.int .i64 r.t, .int .i64 r.p, .int .i64 r.s, .int .i64 r.u, .int .i64 r.f, .int .i64 r.l] 30 (0, 0)) ∧ Below w.heap.size w (w9.drewN dn) from ⟨HB9.out.2.1, HB9.out.2.2, below_drewN HB9.out.1 dn⟩)
  clear HB9 HX9 HY9
  generalize w9.drewN dn = w11 at HQ ⊢
  go_wp2_with fail
  refine wp_region_quiet (C := fun w' => Below w11.heap.size w11 w') (by kernel_rfl) (by kernel_rfl) (Below.refl _ _).drew ?_
  refine quiet_take (.bool true) rfl (quiet_call 5 _ _ rfl [] rfl (enters_of Try.func5 (by kernel_rfl) rfl) (fun w hw => (alive12 w).mono (by rintro e w'' ⟨rfl, hb⟩; exact ⟨rfl, hw.trans (hb.mono hw.size)⟩))) ?_
  simp only [Act.put, List.setIfInBounds_toArray, List.set_cons_zero, List.set_cons_succ]
  refine quiet_take (.bool true) rfl (quiet_pure (fun w => rfl)) ?_
  simp only [Act.put, List.setIfInBounds_toArray, List.set_cons_zero, List.set_cons_succ]
  refine quiet_take (.agg #[.int .i64 r.t, .int .i64 r.p, .int .i64 r.s, .int .i64 r.u, .int .i64 r.f, .int .i64 r.l]) rfl (quiet_is (fun w hw => by obtain ⟨f0, f1, f2, f3, f4, f5, f6⟩ := cells6 ((hw.block _ (Array.getElem?_eq_some_iff.1 HQ.out.1).1).trans HQ.out.1); simp [go_sem, f0, f1, f2, f3, f4, f5])) ?_
  simp only [Act.put, List.setIfInBounds_toArray, List.set_cons_zero, List.set_cons_succ]
  refine quiet_take (.agg #[.int .i64 r.t, .int .i64 r.p, .int .i64 r.s, .int .i64 r.u, .int .i64 r.f, .int .i64 r.l]) rfl (quiet_call 8 _ _ rfl [.agg #[.int .i64 r.t, .int .i64 r.p, .int .i64 r.s, .int .i64 r.u, .int .i64 r.f, .int .i64 r.l]] rfl (enters_of Try.func8 (by kernel_rfl) rfl) (fun w hw => (set12_any r w).mono (by rintro e w'' ⟨rfl, hb⟩; exact ⟨rfl, hw.trans (hb.mono hw.size)⟩))) ?_
  simp only [Act.put, List.setIfInBounds_toArray, List.set_cons_zero, List.set_cons_succ]
  refine quiet_take (.agg #[.int .i64 r.t, .int .i64 r.p, .int .i64 r.s, .int .i64 r.u, .int .i64 r.f, .int .i64 r.l]) rfl (quiet_is (fun w hw => by obtain ⟨f0, f1, f2, f3, f4, f5, f6⟩ := cells6 ((hw.block _ (Array.getElem?_eq_some_iff.1 HQ.out.2.1).1).trans HQ.out.2.1); simp [go_sem, f0, f1, f2, f3, f4, f5])) ?_
  simp only [Act.put, List.setIfInBounds_toArray, List.set_cons_zero, List.set_cons_succ]
  refine quiet_take (.bool true) rfl (quiet_pure (fun w => by simp [go_sem, refset_eql r])) ?_
  simp only [Act.put, List.setIfInBounds_toArray, List.set_cons_zero, List.set_cons_succ]
  refine quiet_take (.bool true) rfl (quiet_pure (fun w => rfl)) ?_
  simp only [Act.put, List.setIfInBounds_toArray, List.set_cons_zero, List.set_cons_succ]
  refine quiet_take (.bool true) rfl (quiet_pure (fun w => rfl)) ?_
  simp only [Act.put, List.setIfInBounds_toArray, List.set_cons_zero, List.set_cons_succ]
  refine quiet_take (.int .i64 n) rfl (quiet_pure (fun w => rfl)) ?_
  simp only [Act.put, List.setIfInBounds_toArray, List.set_cons_zero, List.set_cons_succ]
  refine quiet_take (.int .i64 n) rfl (quiet_pure (fun w => rfl)) ?_
  simp only [Act.put, List.setIfInBounds_toArray, List.set_cons_zero, List.set_cons_succ]
  refine quiet_take (.bool true) rfl (quiet_pure (fun w => by simp [go_sem])) ?_
  simp only [Act.put, List.setIfInBounds_toArray, List.set_cons_zero, List.set_cons_succ]
  refine quiet_take (.bool true) rfl (quiet_pure (fun w => rfl)) ?_
  simp only [Act.put, List.setIfInBounds_toArray, List.set_cons_zero, List.set_cons_succ]
  refine quiet_take (.bool true) rfl (quiet_pure (fun w => rfl)) ?_
  simp only [Act.put, List.setIfInBounds_toArray, List.set_cons_zero, List.set_cons_succ]
  refine quiet_take (.int .i64 c) rfl (quiet_pure (fun w => rfl)) ?_
  simp only [Act.put, List.setIfInBounds_toArray, List.set_cons_zero, List.set_cons_succ]
  refine quiet_take (.int .i64 c) rfl (quiet_pure (fun w => rfl)) ?_
  simp only [Act.put, List.setIfInBounds_toArray, List.set_cons_zero, List.set_cons_succ]
  refine quiet_take (.bool true) rfl (quiet_pure (fun w => by simp [go_sem])) ?_
  simp only [Act.put, List.setIfInBounds_toArray, List.set_cons_zero, List.set_cons_succ]
  refine quiet_take (.bool true) rfl (quiet_pure (fun w => rfl)) ?_
  simp only [Act.put, List.setIfInBounds_toArray, List.set_cons_zero, List.set_cons_succ]
  refine quiet_take (.bool true) rfl (quiet_pure (fun w => rfl)) ?_
  simp only [Act.put, List.setIfInBounds_toArray, List.set_cons_zero, List.set_cons_succ]
  refine quiet_take (.bool true) rfl (quiet_pure (fun w => rfl)) ?_
  simp only [Act.put, List.setIfInBounds_toArray, List.set_cons_zero, List.set_cons_succ]
  refine quiet_take (.bool true) rfl (quiet_pure (fun w => rfl)) ?_
  simp only [Act.put, List.setIfInBounds_toArray, List.set_cons_zero, List.set_cons_succ]
  refine quiet_take (.bool true) rfl (quiet_pure (fun w => rfl)) ?_
  simp only [Act.put, List.setIfInBounds_toArray, List.set_cons_zero, List.set_cons_succ]
  refine quiet_take (.int .i64 z) rfl (quiet_pure (fun w => rfl)) ?_
  simp only [Act.put, List.setIfInBounds_toArray, List.set_cons_zero, List.set_cons_succ]
  refine quiet_take (.int .i64 z) rfl (quiet_pure (fun w => rfl)) ?_
  simp only [Act.put, List.setIfInBounds_toArray, List.set_cons_zero, List.set_cons_succ]
  refine quiet_take (.bool true) rfl (quiet_pure (fun w => by simp [go_sem])) ?_
  simp only [Act.put, List.setIfInBounds_toArray, List.set_cons_zero, List.set_cons_succ]
  refine quiet_take (.bool true) rfl (quiet_pure (fun w => rfl)) ?_
  simp only [Act.put, List.setIfInBounds_toArray, List.set_cons_zero, List.set_cons_succ]
  refine quiet_take (.bool true) rfl (quiet_pure (fun w => rfl)) ?_
  simp only [Act.put, List.setIfInBounds_toArray, List.set_cons_zero, List.set_cons_succ]
  refine quiet_take (.agg #[.int .i64 4096, .int .i64 1, .int .i64 (-1), .int .i64 65535, .int .i64 16384, .int .i64 (-1)]) rfl (quiet_call 13 _ _ rfl [] rfl (enters_of Try.func13 (by kernel_rfl) rfl) (fun w hw => (first12_any w).mono (by rintro e w'' ⟨rfl, hb⟩; exact ⟨rfl, hw.trans (hb.mono hw.size)⟩))) ?_
  simp only [Act.put, List.setIfInBounds_toArray, List.set_cons_zero, List.set_cons_succ]
  refine quiet_take (.agg #[.int .i64 4096, .int .i64 1, .int .i64 (-1), .int .i64 65535, .int .i64 16384, .int .i64 (-1)]) rfl (quiet_call 8 _ _ rfl [.agg #[.int .i64 4096, .int .i64 1, .int .i64 (-1), .int .i64 65535, .int .i64 16384, .int .i64 (-1)]] rfl (enters_of Try.func8 (by kernel_rfl) rfl) (fun w hw => (set12_any S6.first w).mono (by rintro e w'' ⟨rfl, hb⟩; exact ⟨rfl, hw.trans (hb.mono hw.size)⟩))) ?_
  simp only [Act.put, List.setIfInBounds_toArray, List.set_cons_zero, List.set_cons_succ]
  refine quiet_take (.agg #[.int .i64 4096, .int .i64 1, .int .i64 (-1), .int .i64 65535, .int .i64 16384, .int .i64 (-1)]) rfl (quiet_call 14 _ _ rfl [] rfl (enters_of Try.func14 (by kernel_rfl) rfl) (fun w hw => (refFirst12_any w).mono (by rintro e w'' ⟨rfl, hb⟩; exact ⟨rfl, hw.trans (hb.mono hw.size)⟩))) ?_
  simp only [Act.put, List.setIfInBounds_toArray, List.set_cons_zero, List.set_cons_succ]
  refine quiet_take (.bool true) rfl (quiet_pure (fun w => by have := refset_eql S6.first; simp only [S6.first] at this; simp [go_sem, this])) ?_
  simp only [Act.put, List.setIfInBounds_toArray, List.set_cons_zero, List.set_cons_succ]
  refine quiet_take (.bool true) rfl (quiet_pure (fun w => rfl)) ?_
  simp only [Act.put, List.setIfInBounds_toArray, List.set_cons_zero, List.set_cons_succ]
  refine quiet_take (.bool true) rfl (quiet_pure (fun w => rfl)) ?_
  simp only [Act.put, List.setIfInBounds_toArray, List.set_cons_zero, List.set_cons_succ]
  intro W12 hb12
  have HE := Lib.hid (HQ.out.2.2.trans (hb12.mono HQ.out.2.2.size))
  go_wp2_with fail
  go_ret
  exact ⟨rfl, HE.out⟩
/-- rows of two numbers as pairs -/
theorem SlN.toP {w : World} {v : Value} {rs : List (List Int)} (h : SlN 2 w v rs) : SlP w v (rs.map fun r => (r.getD 0 0, r.getD 1 0)) := by
  obtain ⟨a, cap, rfl, h1, h2, h3⟩ := h
  refine ⟨a, cap, by simp, by simpa using h1, h2, ?_⟩
  rcases h3 with ⟨h3, h4⟩ | ⟨b, off, rfl, hb, hc⟩
  · exact .inl ⟨by simpa using h3, h4⟩
  · refine .inr ⟨b, off, rfl, hb, fun i p hi => ?_⟩
    rw [List.getElem?_map] at hi
    cases hr : rs[i]? with
    | none => rw [hr] at hi; cases hi
    | some r =>
      rw [hr] at hi
      simp only [Option.map_some, Option.some.injEq] at hi
      subst hi
      obtain ⟨hl, hz⟩ := hc i r hr
      match r, hl with
      | [x, y], _ => exact ⟨hz 0 x rfl, hz 1 y rfl⟩
end Go.Proofs.Ytmmcpmkkgembbaa
