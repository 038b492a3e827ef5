
/-
  The statement StaticTells: its walk.
-/
import Derived.Test.YtljbbficmgbieaaLaw06
namespace Go.Proofs.Ytljbbficmgbieaa
open Go.RowKit

set_option maxHeartbeats 2000000 in
set_option maxRecDepth 20000 in
theorem tells6_any (i : Int) (n v : ByteArray) (w : World) :
    Calls Try.prog 3 #[.int .i64 i, .agg #[.string n, .string v]] w fun e w' => e = .returned (.bool true) ∧ Below w.heap.size w w' := by
  have HF := Lib.hid (FldAt.new w n v)
  have HB := Lib.hid ((Below.refl w.heap.size w).alloc (Nat.le_refl _) (.cells #[.string n, .string v] 23))
  by_cases hs : n.size ≤ 300 ∧ v.size ≤ 300
  · obtain ⟨hn, hv⟩ := hs
    have d1 : decide (300 < (n.size : Int)) = false := decide_eq_false (by omega)
    have d2 : decide (300 < (v.size : Int)) = false := decide_eq_false (by omega)
    clear hn hv
    obtain ⟨gn, hgn⟩ : ∃ gn, getN i = gn := ⟨_, rfl⟩
    obtain ⟨gv, hgv⟩ : ∃ gv, getV i = gv := ⟨_, rfl⟩
    obtain ⟨ge, hge⟩ : ∃ ge, getE i = ge := ⟨_, rfl⟩
    have HG := Lib.hid (show getT i = .tuple #[.agg #[.string gn, .string gv], .int .i64 ge] by rw [getT, hgn, hgv, hge]; rfl)
    clear hgn hgv hge
    obtain ⟨m, hm⟩ : ∃ m, findI n v = m := ⟨_, rfl⟩
    obtain ⟨y, hy⟩ : ∃ y, findB n v = y := ⟨_, rfl⟩
    have HT := Lib.hid (show findT n v = .tuple #[.int .i64 m, .bool y] by rw [findT, hm, hy])
    clear hm hy
    go_enter Try.func3, Try.ntmps3
    go_wp2_with fail
    refine (get_any i _).mono ?_
    rintro e w1 ⟨rfl, hb1⟩
    rw [HG.out]
    have H1 := Lib.hid (And.intro (HF.out.grown hb1) (HB.out.trans (hb1.mono HB.out.size)))
    clear hb1 HF HB
    go_wp2_with fail
    have hE := FldAt.new w1 gn gv
    have hF := H1.out.1.grown ((Below.refl _ _).alloc (Nat.le_refl _) (.cells #[.string gn, .string gv] 23))
    have hB := H1.out.2.alloc H1.out.2.size (.cells #[.string gn, .string gv] 23)
    obtain ⟨W2, hW2⟩ : ∃ W2, w1.alloc (.cells #[.string gn, .string gv] 23) = W2 := ⟨_, rfl⟩
    rw [hW2] at hE hF hB ⊢
    have H2 := Lib.hid (And.intro hE (And.intro hF hB))
    clear hE hF hB hW2 H1
    obtain ⟨g1, hg1⟩ : ∃ g, w1.heap.size = g := ⟨_, rfl⟩
    rw [hg1] at H2 ⊢
    clear hg1
    refine (refGet_any i _).mono ?_
    rintro e w3 ⟨rfl, hb3⟩
    rw [HG.out]
    have H3 := Lib.hid (And.intro (H2.out.1.grown hb3) (And.intro (H2.out.2.1.grown hb3) (H2.out.2.2.trans (hb3.mono H2.out.2.2.size))))
    clear hb3 H2
    have c0 := H3.out.2.1.c0
    have c1 := H3.out.2.1.c1
    have hl := H3.out.2.1.lt
    go_wp2_with fail
    have hR := FldAt.new w3 gn gv
    have hE := H3.out.1.grown ((Below.refl _ _).alloc (Nat.le_refl _) (.cells #[.string gn, .string gv] 23))
    have hF := H3.out.2.1.grown ((Below.refl _ _).alloc (Nat.le_refl _) (.cells #[.string gn, .string gv] 23))
    have hB := H3.out.2.2.alloc H3.out.2.2.size (.cells #[.string gn, .string gv] 23)
    obtain ⟨W4, hW4⟩ : ∃ W4, w3.alloc (.cells #[.string gn, .string gv] 23) = W4 := ⟨_, rfl⟩
    rw [hW4] at hR hE hF hB ⊢
    have H4 := Lib.hid (And.intro hR (And.intro hE (And.intro hF hB)))
    clear hR hE hF hB hW4 H3 c0 c1 hl
    obtain ⟨g2, hg2⟩ : ∃ g, w3.heap.size = g := ⟨_, rfl⟩
    rw [hg2] at H4 ⊢
    clear hg2
    refine (find_any n v _).mono ?_
    rintro e w5 ⟨rfl, hb5⟩
    rw [HT.out]
    have H5 := Lib.hid (And.intro (H4.out.1.grown hb5) (And.intro (H4.out.2.1.grown hb5) (And.intro (H4.out.2.2.1.grown hb5) (H4.out.2.2.2.trans (hb5.mono H4.out.2.2.2.size)))))
    clear hb5 H4
    have c0 := H5.out.2.2.1.c0
    have c1 := H5.out.2.2.1.c1
    go_wp2_with fail
    clear c0 c1
    refine (refFind_any n v _).mono ?_
    rintro e w6 ⟨rfl, hb6⟩
    rw [HT.out]
    have H6 := Lib.hid (And.intro (H5.out.1.grown hb6) (And.intro (H5.out.2.1.grown hb6) (H5.out.2.2.2.trans (hb6.mono H5.out.2.2.2.size))))
    clear hb6 H5
    go_wp2_with fail
    refine (alive06 _).mono ?_
    rintro e w7 ⟨rfl, hb7⟩
    have H7 := Lib.hid (And.intro (H6.out.1.grown hb7) (And.intro (H6.out.2.1.grown hb7) (H6.out.2.2.trans (hb7.mono H6.out.2.2.size))))
    clear hb7 H6
    have a0 := H7.out.1.c0
    have a1 := H7.out.1.c1
    have b0 := H7.out.2.1.c0
    have b1 := H7.out.2.1.c1
    have heq := fld_eql gn gv gn gv
    rw [eqB_iff.2 rfl, eqB_iff.2 rfl] at heq
    go_wp2_with fail
    go_ret
    exact ⟨rfl, H7.out.2.2⟩
  · by_cases hn : 300 < n.size
    · have d1 : decide (300 < (n.size : Int)) = true := decide_eq_true (by omega)
      clear hn hs
      go_enter Try.func3, Try.ntmps3
      go_wp2_with fail
      refine (alive06 _).mono ?_
      rintro e w1 ⟨rfl, hb1⟩
      have H1 := Lib.hid (HB.out.trans (hb1.mono HB.out.size))
      clear hb1
      go_wp2_with fail
      go_ret
      exact ⟨rfl, H1.out⟩
    · have d1 : decide (300 < (n.size : Int)) = false := decide_eq_false (by omega)
      have d2 : decide (300 < (v.size : Int)) = true := decide_eq_true (by omega)
      clear hn hs
      go_enter Try.func3, Try.ntmps3
      go_wp2_with fail
      refine (alive06 _).mono ?_
      rintro e w1 ⟨rfl, hb1⟩
      have H1 := Lib.hid (HB.out.trans (hb1.mono HB.out.size))
      clear hb1
      go_wp2_with fail
      go_ret
      exact ⟨rfl, H1.out⟩
end Go.Proofs.Ytljbbficmgbieaa
