
/-
  The statement StaticFound: its walk.
-/
import Derived.Test.YtljbbficmgbieaaLaw06
namespace Go.Proofs.Ytljbbficmgbieaa
open Go.RowKit

/-- what is got of any index, and found of that -/
theorem got_cases (i : Int) : ∃ (gn gv : ByteArray) (ge : Int) (fi : Int) (fx : Bool), getT i = .tuple #[.agg #[.string gn, .string gv], .int .i64 ge] ∧ findT gn gv = .tuple #[.int .i64 fi, .bool fx] ∧
    ((1 ≤ i ∧ i ≤ 61 ∧ ge = 0 ∧ fi = i ∧ fx = true) ∨ (i < 1 ∧ ge = 5) ∨ (1 ≤ i ∧ 61 < i ∧ ge = 5)) := by
  by_cases h : 1 ≤ i ∧ i ≤ 61
  · obtain ⟨k, rfl⟩ : ∃ k : Nat, i = (k : Int) + 1 := ⟨(i - 1).toNat, by omega⟩
    refine ⟨fNm k, fVl k, 0, (k : Int) + 1, true, ?_, find_own (by omega), .inl ⟨h.1, h.2, rfl, rfl, rfl⟩⟩
    rw [getT, getN, getV, getE, if_pos h, if_pos h, if_pos h, show ((k : Int) + 1 - 1).toNat = k by omega]
    rfl
  · refine ⟨⟨#[]⟩, ⟨#[]⟩, 5, findI ⟨#[]⟩ ⟨#[]⟩, findB ⟨#[]⟩ ⟨#[]⟩, ?_, rfl, ?_⟩
    · rw [getT, getN, getV, getE, if_neg h, if_neg h, if_neg h]
      rfl
    · omega
theorem get_none : getT 0 = .tuple #[.agg #[.string ⟨#[]⟩, .string ⟨#[]⟩], .int .i64 5] := by
  rw [getT, getN, getV, getE, if_neg (by decide), if_neg (by decide), if_neg (by decide)]
  rfl
theorem get_at {k : Nat} (h : k < 61) : getT ((k : Int) + 1) = .tuple #[.agg #[.string (fNm k), .string (fVl k)], .int .i64 0] := by
  rw [getT, getN, getV, getE, if_pos (by omega), if_pos (by omega), if_pos (by omega), show ((k : Int) + 1 - 1).toNat = k by omega]
  rfl
/-- what is found of any field -/
theorem found_cases (n v : ByteArray) : ∃ (m : Int) (y : Bool) (bv : ByteArray) (q : Int), findT n v = .tuple #[.int .i64 m, .bool y] ∧ findT n noVal = .tuple #[.int .i64 q, .bool false] ∧
    ((m = 0 ∧ y = false) ∨ (1 ≤ m ∧ m ≤ 61 ∧ getT m = .tuple #[.agg #[.string n, .string bv], .int .i64 0] ∧ 1 ≤ q ∧ q ≤ m ∧ (bv.toList == v.toList) = true) ∨
      (1 ≤ m ∧ m ≤ 61 ∧ getT m = .tuple #[.agg #[.string n, .string bv], .int .i64 0] ∧ 1 ≤ q ∧ q ≤ m ∧ (bv.toList == v.toList) = false ∧ y = false)) := by
  rcases find_says n v with ⟨h1, h2⟩ | ⟨k, hk, h1, h2, h3, h4, h5⟩
  · exact ⟨0, false, ⟨#[]⟩, nameTo n 61, by rw [findT, h1, h2]; rfl, find_noVal n, .inl ⟨rfl, rfl⟩⟩
  · refine ⟨(k : Int) + 1, findB n v, fVl k, nameTo n 61, by rw [findT, h1]; rfl, find_noVal n, .inr ?_⟩
    have hg := get_at hk
    rw [h2] at hg
    cases he : (fVl k).toList == v.toList
    · refine .inr ⟨by omega, by omega, hg, by omega, by omega, rfl, ?_⟩
      rcases h3 with h3 | h3
      · have := eqB_iff.2 h3
        rw [eqB, he] at this
        cases this
      · exact h3
    · exact .inl ⟨by omega, by omega, hg, by omega, by omega, rfl⟩

set_option maxHeartbeats 4000000 in
set_option maxRecDepth 20000 in
theorem found6_any (i : Int) (n v : ByteArray) (w : World) :
    Calls Try.prog 4 #[.int .i64 i, .agg #[.string n, .string v]] w fun e w' => e = .returned (.bool true) ∧ Below w.heap.size w w' := by
  have HF := Lib.hid (FldAt.new w n v)
  have HB := Lib.hid ((Below.refl w.heap.size w).alloc (Nat.le_refl _) (.cells #[.string n, .string v] 23))
  by_cases hs : n.size ≤ 300 ∧ v.size ≤ 300
  · obtain ⟨hn, hv⟩ := hs
    have d1 : decide (300 < (n.size : Int)) = false := decide_eq_false (by omega)
    have d2 : decide (300 < (v.size : Int)) = false := decide_eq_false (by omega)
    clear hn hv
    obtain ⟨gn, gv, ge, fi, fx, hg, hf, hcase⟩ := got_cases i
    have HG := Lib.hid hg
    have HFI := Lib.hid hf
    clear hg hf
    go_enter Try.func4, Try.ntmps4
    go_wp2_with fail
    refine (get_any i _).mono ?_
    rintro e w1 ⟨rfl, hb1⟩
    rw [HG.out]
    have H1 := Lib.hid (And.intro (HF.out.grown hb1) (HB.out.trans (hb1.mono HB.out.size)))
    clear hb1 HF HB
    go_wp2_with fail
    have hF := H1.out.1.grown ((Below.refl _ _).alloc (Nat.le_refl _) (.cells #[.string gn, .string gv] 23))
    have hB := H1.out.2.alloc H1.out.2.size (.cells #[.string gn, .string gv] 23)
    obtain ⟨W2, hW2⟩ : ∃ W2, w1.alloc (.cells #[.string gn, .string gv] 23) = W2 := ⟨_, rfl⟩
    rw [hW2] at hF hB ⊢
    have H2 := Lib.hid (And.intro hF hB)
    clear hF hB hW2 H1
    refine (find_any gn gv _).mono ?_
    rintro e w3 ⟨rfl, hb3⟩
    rw [HFI.out]
    have H3 := Lib.hid (And.intro (H2.out.1.grown hb3) (H2.out.2.trans (hb3.mono H2.out.2.size)))
    clear hb3 H2
    have c0 := H3.out.1.c0
    have c1 := H3.out.1.c1
    rcases hcase with ⟨i1, i2, rfl, rfl, rfl⟩ | ⟨i1, rfl⟩ | ⟨i1, i2, rfl⟩
    case' inl =>
      have t1 : decide (1 ≤ fi) = true := decide_eq_true i1
      have t2 : decide (fi ≤ 61) = true := decide_eq_true i2
      have t3 : (fi != fi) = false := by simp
      go_wp2_with fail
      clear t1 t2 t3
    case' inr.inl =>
      have t1 : decide (1 ≤ i) = false := decide_eq_false (by omega)
      go_wp2_with fail
      clear t1
    case' inr.inr =>
      have t1 : decide (1 ≤ i) = true := decide_eq_true i1
      have t2 : decide (i ≤ 61) = false := decide_eq_false (by omega)
      go_wp2_with fail
      clear t1 t2
    all_goals
      clear c0 c1
      obtain ⟨m, y, bv, q, ht, hq, hc⟩ := found_cases n v
      have HT := Lib.hid ht
      have HQ := Lib.hid hq
      clear ht hq
      refine (find_any n v _).mono ?_
      rintro e w4 ⟨rfl, hb4⟩
      rw [HT.out]
      have H4 := Lib.hid (And.intro (H3.out.1.grown hb4) (H3.out.2.trans (hb4.mono H3.out.2.size)))
      clear hb4 H3
      go_wp2_with fail
      rcases hc with ⟨rfl, rfl⟩ | ⟨m1, m2, hg, q1, q2, e3⟩ | ⟨m1, m2, hg, q1, q2, e3, rfl⟩
      case' inl =>
        refine (get_any 0 _).mono ?_
        rintro e w5 ⟨rfl, hb5⟩
        rw [get_none]
        have H5 := Lib.hid (And.intro (H4.out.1.grown hb5) (H4.out.2.trans (hb5.mono H4.out.2.size)))
        clear hb5 H4
        go_wp2_with fail
        refine (alive06 _).mono ?_
        rintro e w6 ⟨rfl, hb6⟩
        have H6 := Lib.hid ((H5.out.2.alloc H5.out.2.size _).trans (hb6.mono (H5.out.2.alloc H5.out.2.size (.cells #[.string ⟨#[]⟩, .string ⟨#[]⟩] 23)).size))
        clear hb6
        go_wp2_with fail
        go_ret
        exact ⟨rfl, H6.out⟩
      all_goals
        have m0 : (m == 0) = false := by rw [beq_eq_false_iff_ne]; omega
        refine (get_any m _).mono ?_
        rintro e w5 ⟨rfl, hb5⟩
        rw [hg]
        have H5 := Lib.hid (And.intro (H4.out.1.grown hb5) (H4.out.2.trans (hb5.mono H4.out.2.size)))
        clear hb5 H4 hg
        have c0 := H5.out.1.c0
        have hl := H5.out.1.lt
        go_wp2_with fail
        have hR := FldAt.new w5 n bv
        have hF := H5.out.1.grown ((Below.refl _ _).alloc (Nat.le_refl _) (.cells #[.string n, .string bv] 23))
        have hB := H5.out.2.alloc H5.out.2.size (.cells #[.string n, .string bv] 23)
        obtain ⟨W6, hW6⟩ : ∃ W6, w5.alloc (.cells #[.string n, .string bv] 23) = W6 := ⟨_, rfl⟩
        rw [hW6] at hR hF hB ⊢
        have H6 := Lib.hid (And.intro hR (And.intro hF hB))
        clear hR hF hB hW6 H5 c0 hl
        obtain ⟨g2, hg2⟩ : ∃ g, w5.heap.size = g := ⟨_, rfl⟩
        rw [hg2] at H6 ⊢
        clear hg2
        refine (find_any n noVal _).mono ?_
        rintro e w7 ⟨rfl, hb7⟩
        rw [HQ.out]
        have H7 := Lib.hid (And.intro (H6.out.1.grown hb7) (And.intro (H6.out.2.1.grown hb7) (H6.out.2.2.trans (hb7.mono H6.out.2.2.size))))
        clear hb7 H6
        go_wp2_with fail
        refine (alive06 _).mono ?_
        rintro e w8 ⟨rfl, hb8⟩
        have H8 := Lib.hid (And.intro (H7.out.1.grown hb8) (And.intro (H7.out.2.1.grown hb8) (H7.out.2.2.trans (hb8.mono H7.out.2.2.size))))
        clear hb8 H7
        have a0 := H8.out.1.c0
        have a1 := H8.out.1.c1
        have b0 := H8.out.2.1.c0
        have b1 := H8.out.2.1.c1
        have e2 : (n.toList == n.toList) = true := eqB_iff.2 rfl
        have d3 : decide (1 ≤ q) = true := decide_eq_true q1
        have d4 : decide (q ≤ m) = true := decide_eq_true q2
        go_wp2_with fail
        go_ret
        exact ⟨rfl, H8.out.2.2⟩
  · by_cases hn : 300 < n.size
    · have d1 : decide (300 < (n.size : Int)) = true := decide_eq_true (by omega)
      clear hn hs
      go_enter Try.func4, Try.ntmps4
      go_wp2_with fail
      refine (alive06 _).mono ?_
      rintro e w1 ⟨rfl, hb1⟩
      have H1 := Lib.hid (HB.out.trans (hb1.mono HB.out.size))
      clear hb1
      go_wp2_with fail
      go_ret
      exact ⟨rfl, H1.out⟩
    · have d1 : decide (300 < (n.size : Int)) = false := decide_eq_false (by omega)
      have d2 : decide (300 < (v.size : Int)) = true := decide_eq_true (by omega)
      clear hn hs
      go_enter Try.func4, Try.ntmps4
      go_wp2_with fail
      refine (alive06 _).mono ?_
      rintro e w1 ⟨rfl, hb1⟩
      have H1 := Lib.hid (HB.out.trans (hb1.mono HB.out.size))
      clear hb1
      go_wp2_with fail
      go_ret
      exact ⟨rfl, H1.out⟩
end Go.Proofs.Ytljbbficmgbieaa
