
/-
  Layer 19's live question (written by wip/tools/gen19a.py).
-/
import Derived.Test.YtiappeagdnkedaaCtlProg
import Derived.WalkMore
namespace Go.Proofs.Ytiappeagdnkedaa
set_option maxRecDepth 20000
open Go.RowKit

/-- the queue, from a number on, and frames that were put down apart from it: where each is, its kind -/
structure Lo19 (w W : World) (T : Nat) (B K : Nat → Prop) (q : Q19) (ks : List (Nat × Int)) : Prop where
  a : CqAt W T B K q
  b : Below w.heap.size w W
  g : ∀ k, B k → w.heap.size ≤ k
  kp : ∀ p ∈ ks, p.1 < W.heap.size ∧ ¬ B p.1 ∧ W.cell? ⟨p.1, 0, none⟩ = some (.int .i64 p.2)
section
variable {w W W' : World} {T : Nat} {B B' K K' : Nat → Prop} {q q' : Q19} {ks : List (Nat × Int)}
theorem Lo19.grown (h : Lo19 w W T B K q ks) (hb : Below W.heap.size W W') : Lo19 w W' T B K q ks :=
  ⟨h.a.turn (Turn.of_below hb (S := fun _ => False)) (fun _ _ => id), h.b.trans (hb.mono h.b.size), h.g, fun p hp => ⟨Nat.lt_of_lt_of_le (h.kp p hp).1 hb.size, (h.kp p hp).2.1, (hb.cell (p := ⟨p.1, 0, none⟩) (h.kp p hp).1).trans (h.kp p hp).2.2⟩⟩
theorem Lo19.step (h : Lo19 w W T B K q ks) (ha : CqAt W' T B' K' q') (ht : Turn B W W') (hB : ∀ g, B' g → B g ∨ W.heap.size ≤ g) : Lo19 w W' T B' K' q' ks :=
  ⟨ha, ht.base h.b h.b.size h.g, fun k hk => (hB k hk).elim (h.g k) (Nat.le_trans h.b.size), fun p hp => by
    obtain ⟨h1, h2, h3⟩ := h.kp p hp
    refine ⟨Nat.lt_of_lt_of_le h1 ht.size, fun e => (hB _ e).elim h2 (fun e => by omega), ?_⟩
    have := ht.2.2.2.2 p.1 h1 h2
    simp only [World.cell?, this] at h3 ⊢
    exact h3⟩
theorem Lo19.keep (h : Lo19 w W T B K q ks) (a b c : Int) (v : Value) : Lo19 w (W.alloc (.cells #[.int .i64 a, .int .i64 b, .int .i64 c, v] 34)) T B K q ((W.heap.size, a) :: ks) := by
  have h1 := h.grown (W' := W.alloc (.cells #[.int .i64 a, .int .i64 b, .int .i64 c, v] 34)) ((Below.refl _ _).alloc (Nat.le_refl _) _)
  refine ⟨h1.a, h1.b, h1.g, fun p hp => ?_⟩
  rcases List.mem_cons.1 hp with rfl | hp
  · exact ⟨by simp, fun e => by have := h.a.lt _ (.inl e); simp at this, blk_cell (heap_alloc_new _ _) rfl⟩
  · exact h1.kp p hp
/-- a payload that has just been made is in no block of the queue's -/
theorem Lo19.fresh (h : Lo19 w W T B K q ks) (F : Fr) (n c : Nat) : ∀ g, PayB F (.slice (some ⟨W.heap.size, 0, none⟩) n c) g → ¬ B g := fun g hg e => by
  have := h.a.lt _ (.inl e)
  have h2 := hg.2
  cases h2
  exact Nat.lt_irrefl _ this
end
theorem PayB.no (F : Fr) (n c : Nat) (B : Nat → Prop) : ∀ g, PayB F (.slice none n c) g → ¬ B g := fun g hg => by cases hg.2
def q19_1 : Q19 := pushQ (⟨1, [], false⟩ : Q19) ⟨6, 0, 0, [1, 2]⟩
def q19_2 : Q19 := pushQ q19_1 ⟨7, 0, 0, []⟩
def q19_3 : Q19 := lastQ q19_2 ⟨8, 0, 0, [3]⟩
def q19_5 : Q19 := lastQ q19_3 ⟨0, 0, 0, []⟩
def q19_6 : Q19 := popQ q19_5
def q19_7 : Q19 := popQ q19_6
def q19_8 : Q19 := popQ q19_7
def q19_9 : Q19 := pushQ q19_8 ⟨0, 0, 0, []⟩
theorem e19_1 : pushQE (⟨1, [], false⟩ : Q19) = 0 := by decide +kernel
theorem l19_1 : q19_1.l.length ≤ 1000 := by decide +kernel
theorem e19_2 : pushQE q19_1 = 4 := by decide +kernel
theorem l19_2 : q19_2.l.length ≤ 1000 := by decide +kernel
theorem e19_3 : lastQE q19_2 = 0 := by decide +kernel
theorem l19_3 : q19_3.l.length ≤ 1000 := by decide +kernel
theorem e19_4 : sumPay q19_3.l = 3 := by decide +kernel
theorem e19_5 : lastQE q19_3 = 7 := by decide +kernel
theorem l19_5 : q19_5.l.length ≤ 1000 := by decide +kernel
theorem e19_6 : popF q19_5 = ⟨6, 0, 0, [1, 2]⟩ ∧ popB q19_5 = true := ⟨rfl, rfl⟩
theorem l19_6 : q19_6.l.length ≤ 1000 := by decide +kernel
theorem e19_7 : popF q19_6 = ⟨8, 0, 0, [3]⟩ ∧ popB q19_6 = true := ⟨rfl, rfl⟩
theorem l19_7 : q19_7.l.length ≤ 1000 := by decide +kernel
theorem e19_8 : popF q19_7 = ⟨0, 0, 0, []⟩ ∧ popB q19_7 = false := ⟨rfl, rfl⟩
theorem l19_8 : q19_8.l.length ≤ 1000 := by decide +kernel
theorem e19_9 : pushQE q19_8 = 7 := by decide +kernel
theorem l19_9 : q19_9.l.length ≤ 1000 := by decide +kernel
theorem p19_3 : ∀ f ∈ q19_3.l, f.pay.length ≤ 100000 := by decide +kernel
theorem z19_9 : q19_9.ended = true ∧ q19_9.l.length = 0 := by decide +kernel
set_option maxHeartbeats 4000000 in
theorem alive19 (w : World) : Calls Try.prog 6 #[] w fun e w' => e = .returned (.bool true) ∧ Below w.heap.size w w' := by
  go_enter Try.func6, Try.ntmps6
  go_wp2_with fail
  refine (pNew19_yes 1 w (by decide)).mono ?_
  rintro e w0 ⟨T, B0, rfl, h1, h2, h3⟩
  have H0 := Lib.hid (show Lo19 w w0 T B0 (fun _ => False) ⟨1, [], false⟩ [] from ⟨h1, h3, h2, fun p hp => by cases hp⟩)
  clear h1 h2 h3
  go_wp2_with fail
  have HB1 := Lib.hid ((Below.refl w0.heap.size w0).alloc (Nat.le_refl _) (.cells #[.int .u8 1, .int .u8 2] 5))
  have HS1 := Lib.hid (show Sl .u8 (w0.alloc (.cells #[.int .u8 1, .int .u8 2] 5)) (.slice (some ⟨w0.heap.size, 0, none⟩) 2 2) [1, 2] from Sl.lit [1, 2] rfl rfl rfl (by decide) (by decide))
  refine (pPush19 T _ _ _ ⟨6, 0, 0, [1, 2]⟩ _ _ (H0.out.grown HB1.out).a HS1.out (H0.out.fresh _ _ _) (by decide) (by decide)).mono ?_
  rintro e w1 ⟨B1, K1, rfl, h1, h2, h3, _⟩
  rw [e19_1]
  have H1 := Lib.hid (show Lo19 w w1 T B1 K1 q19_1 [] from (H0.out.grown HB1.out).step h1 h2 h3)
  clear h1 h2 h3
  go_wp2_with fail
  refine (pPush19 T _ _ _ ⟨7, 0, 0, []⟩ _ w1 H1.out.a (Sl.nil _ _) (PayB.no _ _ _ _) l19_1 (by decide)).mono ?_
  rintro e w2 ⟨B2, K2, rfl, h1, h2, h3, _⟩
  rw [e19_2]
  have H2 := Lib.hid (show Lo19 w w2 T B2 K2 q19_2 [] from H1.out.step h1 h2 h3)
  clear h1 h2 h3
  go_wp2_with fail
  have HB3 := Lib.hid ((Below.refl w2.heap.size w2).alloc (Nat.le_refl _) (.cells #[.int .u8 3] 5))
  have HS3 := Lib.hid (show Sl .u8 (w2.alloc (.cells #[.int .u8 3] 5)) (.slice (some ⟨w2.heap.size, 0, none⟩) 1 1) [3] from Sl.lit [3] rfl rfl rfl (by decide) (by decide))
  refine (pLast19 T _ _ _ ⟨8, 0, 0, [3]⟩ _ _ (H2.out.grown HB3.out).a HS3.out (H2.out.fresh _ _ _) l19_2 (by decide)).mono ?_
  rintro e w3 ⟨B3, K3, rfl, h1, h2, h3, _⟩
  rw [e19_3]
  have H3 := Lib.hid (show Lo19 w w3 T B3 K3 q19_3 [] from (H2.out.grown HB3.out).step h1 h2 h3)
  clear h1 h2 h3
  go_wp2_with fail
  refine (pBytes19 T _ _ _ w3 H3.out.a l19_3 p19_3).mono ?_
  rintro e w4 ⟨rfl, hb⟩
  rw [e19_4]
  have H4 := Lib.hid (H3.out.grown hb)
  clear hb
  go_wp2_with fail
  refine (pLast19 T _ _ _ ⟨0, 0, 0, []⟩ _ w4 H4.out.a (Sl.nil _ _) (PayB.no _ _ _ _) l19_3 (by decide)).mono ?_
  rintro e w5 ⟨B5, K5, rfl, h1, h2, h3, _⟩
  rw [e19_5]
  have H5 := Lib.hid (show Lo19 w w5 T B5 K5 q19_5 [] from H4.out.step h1 h2 h3)
  clear h1 h2 h3
  go_wp2_with fail
  refine (pPop19 T _ _ _ w5 H5.out.a l19_5).mono ?_
  rintro e x6 ⟨B6, K6, pv6, rfl, h1, h2, h3, _, h4, _⟩
  rw [e19_6.1] at h3 ⊢
  rw [e19_6.2]
  obtain ⟨a6, c6, rfl, _⟩ := id h3
  have G6 := Lib.hid (show Lo19 w x6 T B6 K6 q19_6 [] from H5.out.step h1 h2 h4)
  have HK6 := Lib.hid (G6.out.keep 6 0 0 (.slice a6 2 c6))
  clear h1 h2 h3 h4
  go_wp2_with fail
  obtain ⟨w6, hw6⟩ : ∃ w6, x6.alloc (.cells #[.int .i64 6, .int .i64 0, .int .i64 0, .slice a6 2 c6] 34) = w6 := ⟨_, rfl⟩
  obtain ⟨g6, hg6⟩ : ∃ g, x6.heap.size = g := ⟨_, rfl⟩
  rw [hw6]
  rw [hg6]
  have H6 := Lib.hid (show Lo19 w w6 T B6 K6 q19_6 ((g6, 6) :: []) from by have := HK6.out; rw [hw6, hg6] at this; exact this)
  clear hw6 hg6
  refine (pPop19 T _ _ _ w6 H6.out.a l19_6).mono ?_
  rintro e x7 ⟨B7, K7, pv7, rfl, h1, h2, h3, _, h4, _⟩
  rw [e19_7.1] at h3 ⊢
  rw [e19_7.2]
  obtain ⟨a7, c7, rfl, _⟩ := id h3
  have G7 := Lib.hid (show Lo19 w x7 T B7 K7 q19_7 ((g6, 6) :: []) from H6.out.step h1 h2 h4)
  have HK7 := Lib.hid (G7.out.keep 8 0 0 (.slice a7 1 c7))
  clear h1 h2 h3 h4
  go_wp2_with fail
  obtain ⟨w7, hw7⟩ : ∃ w7, x7.alloc (.cells #[.int .i64 8, .int .i64 0, .int .i64 0, .slice a7 1 c7] 34) = w7 := ⟨_, rfl⟩
  obtain ⟨g7, hg7⟩ : ∃ g, x7.heap.size = g := ⟨_, rfl⟩
  rw [hw7]
  rw [hg7]
  have H7 := Lib.hid (show Lo19 w w7 T B7 K7 q19_7 ((g7, 8) :: ((g6, 6) :: [])) from by have := HK7.out; rw [hw7, hg7] at this; exact this)
  clear hw7 hg7
  refine (pPop19 T _ _ _ w7 H7.out.a l19_7).mono ?_
  rintro e x8 ⟨B8, K8, pv8, rfl, h1, h2, h3, _, h4, _⟩
  rw [e19_8.1] at h3 ⊢
  rw [e19_8.2]
  obtain ⟨a8, c8, rfl, _⟩ := id h3
  have G8 := Lib.hid (show Lo19 w x8 T B8 K8 q19_8 ((g7, 8) :: ((g6, 6) :: [])) from H7.out.step h1 h2 h4)
  have HK8 := Lib.hid (G8.out.keep 0 0 0 (.slice a8 0 c8))
  clear h1 h2 h3 h4
  go_wp2_with fail
  obtain ⟨w8, hw8⟩ : ∃ w8, x8.alloc (.cells #[.int .i64 0, .int .i64 0, .int .i64 0, .slice a8 0 c8] 34) = w8 := ⟨_, rfl⟩
  obtain ⟨g8, hg8⟩ : ∃ g, x8.heap.size = g := ⟨_, rfl⟩
  rw [hw8]
  rw [hg8]
  have H8 := Lib.hid (show Lo19 w w8 T B8 K8 q19_8 ((g8, 0) :: ((g7, 8) :: ((g6, 6) :: []))) from by have := HK8.out; rw [hw8, hg8] at this; exact this)
  clear hw8 hg8
  refine (pPush19 T _ _ _ ⟨0, 0, 0, []⟩ _ w8 H8.out.a (Sl.nil _ _) (PayB.no _ _ _ _) l19_8 (by decide)).mono ?_
  rintro e w9 ⟨B9, K9, rfl, h1, h2, h3, _⟩
  rw [e19_9]
  have H9 := Lib.hid (show Lo19 w w9 T B9 K9 q19_9 ((g8, 0) :: ((g7, 8) :: ((g6, 6) :: []))) from H8.out.step h1 h2 h3)
  clear h1 h2 h3
  go_wp2_with fail
  refine (pNew19_no 65 w9 (by decide) (by decide)).mono ?_
  rintro e w10 ⟨rfl, hb⟩
  have H10 := Lib.hid (H9.out.grown hb)
  clear hb
  have k6 := (H10.out.kp (g6, 6) (by simp)).2.2
  have k7 := (H10.out.kp (g7, 8) (by simp)).2.2
  dsimp only at k6 k7
  go_wp2_with fail
  refine (pEnded19 T _ _ _ w10 H10.out.a).mono ?_
  rintro e w11 ⟨rfl, hb⟩
  rw [z19_9.1]
  have H11 := Lib.hid (H10.out.grown hb)
  clear hb k6 k7
  go_wp2_with fail
  refine (pLen19 T _ _ _ w11 H11.out.a l19_9).mono ?_
  rintro e w12 ⟨rfl, hb⟩
  rw [z19_9.2]
  have H12 := Lib.hid (H11.out.grown hb)
  clear hb
  go_wp2_with fail
  go_ret
  exact ⟨rfl, H12.out.b⟩
end Go.Proofs.Ytiappeagdnkedaa
