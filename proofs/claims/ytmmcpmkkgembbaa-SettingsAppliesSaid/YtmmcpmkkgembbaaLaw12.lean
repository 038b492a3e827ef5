
/-
  Layer 12's live question: sets as one, pairs that were just laid, closed answers.
-/
import Derived.Test.YtmmcpmkkgembbaaSetApp
import Derived.Test.YtmmcpmkkgembbaaSetEnc
import Derived.Test.YtmmcpmkkgembbaaSame
import Derived.Test.YtmmcpmkkgembbaaPairRow
import Derived.Laws.StructEq
namespace Go.Proofs.Ytmmcpmkkgembbaa
set_option maxRecDepth 20000
open Go.RowKit

theorem SlP.lit {w : World} {g n : Nat} {e : TypeId} {cs : Array Value} (ps : List Pr) (hg : g = w.heap.size) (hc : cs = (flatC prC ps).toArray) (hn : n = ps.length) (hm : ps.length ≤ maxLen) :
    SlP (w.alloc (.cells cs e)) (.slice (some ⟨g, 0, none⟩) n n) ps := by
  subst hg; subst hc; subst hn
  refine ⟨_, _, rfl, Nat.le_refl _, hm, .inr ⟨w.heap.size, 0, rfl, by simp, fun i p hi => ?_⟩⟩
  have h := flatC_at prC_len ps i p hi
  constructor
  · refine blk_cell (heap_alloc_new w _) ?_
    have := h 0 (by decide)
    rw [Nat.zero_add, List.getElem?_toArray]
    exact this
  · refine blk_cell (heap_alloc_new w _) ?_
    have := h 1 (by decide)
    rw [Nat.zero_add, List.getElem?_toArray]
    exact this
theorem set_eql (x : S6) (w : World) : (binOp .eql 23 (.agg #[.int .i64 x.t, .int .i64 x.p, .int .i64 x.s, .int .i64 x.u, .int .i64 x.f, .int .i64 x.l]) (.agg #[.int .i64 x.t, .int .i64 x.p, .int .i64 x.s, .int .i64 x.u, .int .i64 x.f, .int .i64 x.l])).run Try.prog w = .ok (.bool true) w := by
  rw [run_eql_struct, run_equalIn_agg w 9999 23 _ _ (show Try.prog.underlying 23 = some (.struct (Try.prog.fieldsOf 23)) by kernel_rfl) (show Try.prog.stoodInHeld 23 = false by kernel_rfl)]
  have hf : ((Try.prog.fieldsOf 23).toList.map fun f => (f.name, f.type, f.offset)) = [("Table", 3, 0), ("Push", 3, 1), ("Streams", 3, 2), ("Window", 3, 3), ("Frame", 3, 4), ("List", 3, 5)] := by kernel_rfl
  have hu : Try.prog.underlying 3 = some (.int .i64) := by kernel_rfl
  have p0 : ∀ (a b c d e f : Int) w, (part 3 #[.int .i64 a, .int .i64 b, .int .i64 c, .int .i64 d, .int .i64 e, .int .i64 f] 0).run Try.prog w = .ok (.int .i64 a) w := fun a b c d e f w => by kernel_rfl
  have p1 : ∀ (a b c d e f : Int) w, (part 3 #[.int .i64 a, .int .i64 b, .int .i64 c, .int .i64 d, .int .i64 e, .int .i64 f] 1).run Try.prog w = .ok (.int .i64 b) w := fun a b c d e f w => by kernel_rfl
  have p2 : ∀ (a b c d e f : Int) w, (part 3 #[.int .i64 a, .int .i64 b, .int .i64 c, .int .i64 d, .int .i64 e, .int .i64 f] 2).run Try.prog w = .ok (.int .i64 c) w := fun a b c d e f w => by kernel_rfl
  have p3 : ∀ (a b c d e f : Int) w, (part 3 #[.int .i64 a, .int .i64 b, .int .i64 c, .int .i64 d, .int .i64 e, .int .i64 f] 3).run Try.prog w = .ok (.int .i64 d) w := fun a b c d e f w => by kernel_rfl
  have p4 : ∀ (a b c d e f : Int) w, (part 3 #[.int .i64 a, .int .i64 b, .int .i64 c, .int .i64 d, .int .i64 e, .int .i64 f] 4).run Try.prog w = .ok (.int .i64 e) w := fun a b c d e f w => by kernel_rfl
  have p5 : ∀ (a b c d e f : Int) w, (part 3 #[.int .i64 a, .int .i64 b, .int .i64 c, .int .i64 d, .int .i64 e, .int .i64 f] 5).run Try.prog w = .ok (.int .i64 f) w := fun a b c d e f w => by kernel_rfl
  generalize (Try.prog.fieldsOf 23).toList = L at hf ⊢
  obtain ⟨f0, L, rfl, h0, hf⟩ := List.map_eq_cons_iff.1 hf
  obtain ⟨f1, L, rfl, h1, hf⟩ := List.map_eq_cons_iff.1 hf
  obtain ⟨f2, L, rfl, h2, hf⟩ := List.map_eq_cons_iff.1 hf
  obtain ⟨f3, L, rfl, h3, hf⟩ := List.map_eq_cons_iff.1 hf
  obtain ⟨f4, L, rfl, h4, hf⟩ := List.map_eq_cons_iff.1 hf
  obtain ⟨f5, L, rfl, h5, hf⟩ := List.map_eq_cons_iff.1 hf
  obtain rfl := List.map_eq_nil_iff.1 hf
  simp only [Prod.mk.injEq] at h0 h1 h2 h3 h4 h5
  obtain ⟨a0, b0, c0⟩ := h0
  obtain ⟨a1, b1, c1⟩ := h1
  obtain ⟨a2, b2, c2⟩ := h2
  obtain ⟨a3, b3, c3⟩ := h3
  obtain ⟨a4, b4, c4⟩ := h4
  obtain ⟨a5, b5, c5⟩ := h5
  have ne0 : ("Table" : String) ≠ "_" := by decide
  have ne1 : ("Push" : String) ≠ "_" := by decide
  have ne2 : ("Streams" : String) ≠ "_" := by decide
  have ne3 : ("Window" : String) ≠ "_" := by decide
  have ne4 : ("Frame" : String) ≠ "_" := by decide
  have ne5 : ("List" : String) ≠ "_" := by decide
  simp [Op.eqFields, a0, b0, c0, ne0, p0, a1, b1, c1, ne1, p1, a2, b2, c2, ne2, p2, a3, b3, c3, ne3, p3, a4, b4, c4, ne4, p4, a5, b5, c5, ne5, p5, Sem.run_bind, Result.andThen, run_equalIn_int w 9998 3 _ _ _ _ hu]
theorem refset_eql (x : S6) (w : World) : (binOp .eql 30 (.agg #[.int .i64 x.t, .int .i64 x.p, .int .i64 x.s, .int .i64 x.u, .int .i64 x.f, .int .i64 x.l]) (.agg #[.int .i64 x.t, .int .i64 x.p, .int .i64 x.s, .int .i64 x.u, .int .i64 x.f, .int .i64 x.l])).run Try.prog w = .ok (.bool true) w := by
  rw [run_eql_struct, run_equalIn_agg w 9999 30 _ _ (show Try.prog.underlying 30 = some (.struct (Try.prog.fieldsOf 30)) by kernel_rfl) (show Try.prog.stoodInHeld 30 = false by kernel_rfl)]
  have hf : ((Try.prog.fieldsOf 30).toList.map fun f => (f.name, f.type, f.offset)) = [("Table", 3, 0), ("Push", 3, 1), ("Streams", 3, 2), ("Window", 3, 3), ("Frame", 3, 4), ("List", 3, 5)] := by kernel_rfl
  have hu : Try.prog.underlying 3 = some (.int .i64) := by kernel_rfl
  have p0 : ∀ (a b c d e f : Int) w, (part 3 #[.int .i64 a, .int .i64 b, .int .i64 c, .int .i64 d, .int .i64 e, .int .i64 f] 0).run Try.prog w = .ok (.int .i64 a) w := fun a b c d e f w => by kernel_rfl
  have p1 : ∀ (a b c d e f : Int) w, (part 3 #[.int .i64 a, .int .i64 b, .int .i64 c, .int .i64 d, .int .i64 e, .int .i64 f] 1).run Try.prog w = .ok (.int .i64 b) w := fun a b c d e f w => by kernel_rfl
  have p2 : ∀ (a b c d e f : Int) w, (part 3 #[.int .i64 a, .int .i64 b, .int .i64 c, .int .i64 d, .int .i64 e, .int .i64 f] 2).run Try.prog w = .ok (.int .i64 c) w := fun a b c d e f w => by kernel_rfl
  have p3 : ∀ (a b c d e f : Int) w, (part 3 #[.int .i64 a, .int .i64 b, .int .i64 c, .int .i64 d, .int .i64 e, .int .i64 f] 3).run Try.prog w = .ok (.int .i64 d) w := fun a b c d e f w => by kernel_rfl
  have p4 : ∀ (a b c d e f : Int) w, (part 3 #[.int .i64 a, .int .i64 b, .int .i64 c, .int .i64 d, .int .i64 e, .int .i64 f] 4).run Try.prog w = .ok (.int .i64 e) w := fun a b c d e f w => by kernel_rfl
  have p5 : ∀ (a b c d e f : Int) w, (part 3 #[.int .i64 a, .int .i64 b, .int .i64 c, .int .i64 d, .int .i64 e, .int .i64 f] 5).run Try.prog w = .ok (.int .i64 f) w := fun a b c d e f w => by kernel_rfl
  generalize (Try.prog.fieldsOf 30).toList = L at hf ⊢
  obtain ⟨f0, L, rfl, h0, hf⟩ := List.map_eq_cons_iff.1 hf
  obtain ⟨f1, L, rfl, h1, hf⟩ := List.map_eq_cons_iff.1 hf
  obtain ⟨f2, L, rfl, h2, hf⟩ := List.map_eq_cons_iff.1 hf
  obtain ⟨f3, L, rfl, h3, hf⟩ := List.map_eq_cons_iff.1 hf
  obtain ⟨f4, L, rfl, h4, hf⟩ := List.map_eq_cons_iff.1 hf
  obtain ⟨f5, L, rfl, h5, hf⟩ := List.map_eq_cons_iff.1 hf
  obtain rfl := List.map_eq_nil_iff.1 hf
  simp only [Prod.mk.injEq] at h0 h1 h2 h3 h4 h5
  obtain ⟨a0, b0, c0⟩ := h0
  obtain ⟨a1, b1, c1⟩ := h1
  obtain ⟨a2, b2, c2⟩ := h2
  obtain ⟨a3, b3, c3⟩ := h3
  obtain ⟨a4, b4, c4⟩ := h4
  obtain ⟨a5, b5, c5⟩ := h5
  have ne0 : ("Table" : String) ≠ "_" := by decide
  have ne1 : ("Push" : String) ≠ "_" := by decide
  have ne2 : ("Streams" : String) ≠ "_" := by decide
  have ne3 : ("Window" : String) ≠ "_" := by decide
  have ne4 : ("Frame" : String) ≠ "_" := by decide
  have ne5 : ("List" : String) ≠ "_" := by decide
  simp [Op.eqFields, a0, b0, c0, ne0, p0, a1, b1, c1, ne1, p1, a2, b2, c2, ne2, p2, a3, b3, c3, ne3, p3, a4, b4, c4, ne4, p4, a5, b5, c5, ne5, p5, Sem.run_bind, Result.andThen, run_equalIn_int w 9998 3 _ _ _ _ hu]
theorem al12_1 : tupA S6.first [(4, 10), (9, 7), (4, 65536), (5, 20000)] = .tuple #[S6.v ⟨4096, 1, -1, 65536, 20000, -1⟩, .int .i64 1, .int .i64 0] := by kernel_rfl
theorem al12_2 : tupA ⟨4096, 1, -1, 65536, 20000, -1⟩ [(1, 7), (4, 2147483648)] = .tuple #[S6.v ⟨4096, 1, -1, 65536, 20000, -1⟩, .int .i64 0, .int .i64 3] := by kernel_rfl
theorem al12_3 : tupA ⟨4096, 1, -1, 65536, 20000, -1⟩ [(2, 2)] = .tuple #[S6.v ⟨4096, 1, -1, 65536, 20000, -1⟩, .int .i64 0, .int .i64 1] := by kernel_rfl
theorem al12_4 : encP [(3, 258)] = ([0, 3, 0, 0, 1, 2], 0) := by kernel_rfl
theorem al12_5 : encP [(65536, 0)] = ([], 1) := by kernel_rfl

theorem low1 : Low [(4, 10), (9, 7), (4, 65536), (5, 20000)] := (by intro p hp; simp only [List.mem_cons, List.not_mem_nil, or_false] at hp; rcases hp with rfl | rfl | rfl | rfl <;> exact ⟨by decide, by decide⟩)
theorem low2 : Low [(1, 7), (4, 2147483648)] := (by intro p hp; simp only [List.mem_cons, List.not_mem_nil, or_false] at hp; rcases hp with rfl | rfl <;> exact ⟨by decide, by decide⟩)
theorem low3 : Low [(2, 2)] := (by intro p hp; simp only [List.mem_cons, List.not_mem_nil, or_false] at hp; rcases hp with rfl <;> exact ⟨by decide, by decide⟩)
theorem apply_lit (x : S6) (ps : List Pr) (w : World) (g n : Nat) (cs : Array Value) (r : Value) (hg : g = w.heap.size) (hc : cs = (flatC prC ps).toArray) (hn : n = ps.length) (hm : ps.length ≤ maxLen) (hl : Low ps) (h0 : -4294967296 ≤ x.u) (h1 : x.u ≤ 4294967296) (hr : tupA x ps = r) :
    Calls Try.prog 6 #[.agg #[.int .i64 x.t, .int .i64 x.p, .int .i64 x.s, .int .i64 x.u, .int .i64 x.f, .int .i64 x.l], .slice (some ⟨g, 0, none⟩) n n] (w.alloc (.cells cs 45)) fun e w' => e = .returned r ∧ Below w.heap.size w w' :=
  (apply_any x _ ps _ (SlP.lit ps hg hc hn hm) hl h0 h1).mono fun e w' ⟨he, hb⟩ => ⟨by rw [he, hr], ((Below.refl _ _).alloc (Nat.le_refl _) _).trans (hb.mono (by simp))⟩
theorem encode_lit (ps : List Pr) (w : World) (g n : Nat) (cs : Array Value) (xs : List Int) (r : Int) (hg : g = w.heap.size) (hc : cs = (flatC prC ps).toArray) (hn : n = ps.length) (hm : ps.length ≤ 1000000) (hr : encP ps = (xs, r)) :
    Calls Try.prog 10 #[.slice (some ⟨g, 0, none⟩) n n] (w.alloc (.cells cs 45)) fun e w' => ∃ v, e = .returned (.tuple #[v, .int .i64 r]) ∧ Sl .u8 w' v xs ∧ Below w.heap.size w w' :=
  (encode12_any _ ps _ (SlP.lit ps hg hc hn (by unfold maxLen; omega)) hm).mono fun e w' ⟨v, he, hs, hb⟩ => ⟨v, by rw [he, hr], by rw [hr] at hs; exact hs, ((Below.refl _ _).alloc (Nat.le_refl _) _).trans (hb.mono (by simp))⟩
set_option maxHeartbeats 1000000 in
theorem alive12 (w : World) : Calls Try.prog 5 #[] w fun e w' => e = .returned (.bool true) ∧ Below w.heap.size w w' := by
  go_enter Try.func5, Try.ntmps5
  go_wp2_with fail
  refine (first12_any _).mono ?_
  rintro e w1 ⟨rfl, hb1⟩
  unfold S6.v S6.cs setC S6.first
  have HB1 := Lib.hid hb1
  clear hb1
  go_wp2_with fail
  refine (apply_lit S6.first [(4, 10), (9, 7), (4, 65536), (5, 20000)] w1 _ _ _ _ rfl (by kernel_rfl) rfl (by unfold maxLen; decide) low1 (by decide) (by decide) al12_1).mono ?_
  rintro e w2 ⟨rfl, hb2⟩
  unfold S6.v S6.cs setC
  obtain ⟨W2, hW2⟩ : ∃ W2, w2.alloc (.cells #[.int .i64 4096, .int .i64 1, .int .i64 (-1), .int .i64 65536, .int .i64 20000, .int .i64 (-1)] 23) = W2 := ⟨_, rfl⟩
  obtain ⟨g2, hg2⟩ : ∃ g, w2.heap.size = g := ⟨_, rfl⟩
  have HB2 := Lib.hid (show Below w.heap.size w W2 ∧ W2.heap[g2]? = some (.cells #[.int .i64 4096, .int .i64 1, .int .i64 (-1), .int .i64 65536, .int .i64 20000, .int .i64 (-1)] 23 (0, 0)) from ⟨by rw [← hW2]; exact (HB1.out.trans (hb2.mono HB1.out.size)).alloc (Nat.le_trans HB1.out.size hb2.size) _, by rw [← hW2, ← hg2]; exact heap_alloc_new w2 _⟩)
  obtain ⟨f0, f1, f2, f3, f4, f5, f6⟩ := cells6 HB2.out.2
  clear hb2
  go_wp2_with fail
  refine (apply_lit ⟨4096, 1, -1, 65536, 20000, -1⟩ [(1, 7), (4, 2147483648)] W2 _ _ _ _ rfl (by kernel_rfl) rfl (by unfold maxLen; decide) low2 (by decide) (by decide) al12_2).mono ?_
  rintro e w3 ⟨rfl, hb3⟩
  clear f0 f1 f2 f3 f4 f5 f6 hW2 hg2
  unfold S6.v S6.cs setC
  obtain ⟨W3, hW3⟩ : ∃ W3, w3.alloc (.cells #[.int .i64 4096, .int .i64 1, .int .i64 (-1), .int .i64 65536, .int .i64 20000, .int .i64 (-1)] 23) = W3 := ⟨_, rfl⟩
  obtain ⟨g3, hg3⟩ : ∃ g, w3.heap.size = g := ⟨_, rfl⟩
  have HB3 := Lib.hid (show Below w.heap.size w W3 ∧ W3.heap[g2]? = some (.cells #[.int .i64 4096, .int .i64 1, .int .i64 (-1), .int .i64 65536, .int .i64 20000, .int .i64 (-1)] 23 (0, 0)) ∧ W3.heap[g3]? = some (.cells #[.int .i64 4096, .int .i64 1, .int .i64 (-1), .int .i64 65536, .int .i64 20000, .int .i64 (-1)] 23 (0, 0)) from by
    have h2 := hb3.alloc hb3.size (.cells #[.int .i64 4096, .int .i64 1, .int .i64 (-1), .int .i64 65536, .int .i64 20000, .int .i64 (-1)] 23)
    rw [hW3] at h2
    exact ⟨HB2.out.1.trans (h2.mono HB2.out.1.size), (h2.block _ (Array.getElem?_eq_some_iff.1 HB2.out.2).1).trans HB2.out.2, by rw [← hW3, ← hg3]; exact heap_alloc_new w3 _⟩)
  obtain ⟨f0, f1, f2, f3, f4, f5, f6⟩ := cells6 HB3.out.2.1
  clear hb3 HB2
  go_wp2_with fail
  refine (apply_lit ⟨4096, 1, -1, 65536, 20000, -1⟩ [(2, 2)] W3 _ _ _ _ rfl (by kernel_rfl) rfl (by unfold maxLen; decide) low3 (by decide) (by decide) al12_3).mono ?_
  rintro e w4 ⟨rfl, hb4⟩
  clear f0 f1 f2 f3 f4 f5 f6 hW3 hg3
  unfold S6.v S6.cs setC
  obtain ⟨W4, hW4⟩ : ∃ W4, w4.alloc (.cells #[.int .i64 4096, .int .i64 1, .int .i64 (-1), .int .i64 65536, .int .i64 20000, .int .i64 (-1)] 23) = W4 := ⟨_, rfl⟩
  obtain ⟨g4, hg4⟩ : ∃ g, w4.heap.size = g := ⟨_, rfl⟩
  have HB4 := Lib.hid (show Below w.heap.size w W4 ∧ W4.heap[g2]? = some (.cells #[.int .i64 4096, .int .i64 1, .int .i64 (-1), .int .i64 65536, .int .i64 20000, .int .i64 (-1)] 23 (0, 0)) ∧ W4.heap[g3]? = some (.cells #[.int .i64 4096, .int .i64 1, .int .i64 (-1), .int .i64 65536, .int .i64 20000, .int .i64 (-1)] 23 (0, 0)) from by
    have h2 := hb4.alloc hb4.size (.cells #[.int .i64 4096, .int .i64 1, .int .i64 (-1), .int .i64 65536, .int .i64 20000, .int .i64 (-1)] 23)
    rw [hW4] at h2
    exact ⟨HB3.out.1.trans (h2.mono HB3.out.1.size), (h2.block _ (Array.getElem?_eq_some_iff.1 HB3.out.2.1).1).trans HB3.out.2.1, (h2.block _ (Array.getElem?_eq_some_iff.1 HB3.out.2.2).1).trans HB3.out.2.2⟩)
  clear hb4 HB3
  go_wp2_with fail
  refine (encode_lit [(3, 258)] W4 _ _ _ _ _ rfl (by kernel_rfl) rfl (by decide) al12_4).mono ?_
  rintro e w5 ⟨vb, rfl, hs5, hb5⟩
  have HB5 := Lib.hid (show Below w.heap.size w w5 ∧ w5.heap[g2]? = some (.cells #[.int .i64 4096, .int .i64 1, .int .i64 (-1), .int .i64 65536, .int .i64 20000, .int .i64 (-1)] 23 (0, 0)) ∧ w5.heap[g3]? = some (.cells #[.int .i64 4096, .int .i64 1, .int .i64 (-1), .int .i64 65536, .int .i64 20000, .int .i64 (-1)] 23 (0, 0)) ∧ Sl .u8 w5 vb [0, 3, 0, 0, 1, 2] from
    ⟨HB4.out.1.trans (hb5.mono HB4.out.1.size), (hb5.block _ (Array.getElem?_eq_some_iff.1 HB4.out.2.1).1).trans HB4.out.2.1, (hb5.block _ (Array.getElem?_eq_some_iff.1 HB4.out.2.2).1).trans HB4.out.2.2, hs5⟩)
  obtain ⟨av, cv, rfl, _⟩ := id hs5
  clear hb5 HB4 hW4 hg4 hs5
  go_wp2_with fail
  refine (encode_lit [(65536, 0)] w5 _ _ _ _ _ rfl (by kernel_rfl) rfl (by decide) al12_5).mono ?_
  rintro e w6 ⟨vc, rfl, hs6, hb6⟩
  have HB6 := Lib.hid (show Below w.heap.size w w6 ∧ w6.heap[g2]? = some (.cells #[.int .i64 4096, .int .i64 1, .int .i64 (-1), .int .i64 65536, .int .i64 20000, .int .i64 (-1)] 23 (0, 0)) ∧ w6.heap[g3]? = some (.cells #[.int .i64 4096, .int .i64 1, .int .i64 (-1), .int .i64 65536, .int .i64 20000, .int .i64 (-1)] 23 (0, 0)) ∧ Sl .u8 w6 (.slice av [0, 3, 0, 0, 1, 2].length cv) [0, 3, 0, 0, 1, 2] from
    ⟨HB5.out.1.trans (hb6.mono HB5.out.1.size), (hb6.block _ (Array.getElem?_eq_some_iff.1 HB5.out.2.1).1).trans HB5.out.2.1, (hb6.block _ (Array.getElem?_eq_some_iff.1 HB5.out.2.2.1).1).trans HB5.out.2.2.1, HB5.out.2.2.2.below hb6⟩)
  obtain ⟨ac, cc, rfl, _⟩ := id hs6
  clear hb6 HB5 hs6
  obtain ⟨f0, f1, f2, f3, f4, f5, f6⟩ := cells6 HB6.out.2.1
  obtain ⟨k0, k1, k2, k3, k4, k5, k6⟩ := cells6 HB6.out.2.2.1
  have heq := set_eql ⟨4096, 1, -1, 65536, 20000, -1⟩
  simp only at heq
  go_wp2_with fail
  refine (same_any _ _ _ _ _ (HB6.out.2.2.2.alloc _) (Sl.lit [0, 3, 0, 0, 1, 2] rfl rfl rfl (by decide) (by unfold maxLen; decide))).mono ?_
  rintro e w7 ⟨rfl, n, rfl⟩
  have HB7 := Lib.hid (below_drewN (HB6.out.1.alloc HB6.out.1.size (.cells #[.int .u8 0, .int .u8 3, .int .u8 0, .int .u8 0, .int .u8 1, .int .u8 2] 5)) n)
  go_wp2_with fail
  go_ret
  exact ⟨rfl, HB7.out⟩
end Go.Proofs.Ytmmcpmkkgembbaa
