
/-
  The statements of layer 6: their live question.
-/
import Derived.Test.YtljbbficmgbieaaStatRefFind
import Derived.Test.YtljbbficmgbieaaStatFind
namespace Go.Proofs.Ytljbbficmgbieaa
open Go.RowKit

theorem al6_a : findI ⟨#[58, 109, 101, 116, 104, 111, 100]⟩ ⟨#[80, 79, 83, 84]⟩ = 3 ∧ findB ⟨#[58, 109, 101, 116, 104, 111, 100]⟩ ⟨#[80, 79, 83, 84]⟩ = true := by decide +kernel
theorem al6_b : findI ⟨#[58, 109, 101, 116, 104, 111, 100]⟩ ⟨#[80, 85, 84]⟩ = 2 ∧ findB ⟨#[58, 109, 101, 116, 104, 111, 100]⟩ ⟨#[80, 85, 84]⟩ = false := by decide +kernel
theorem al6_c : findI ⟨#[120]⟩ ⟨#[]⟩ = 0 ∧ findB ⟨#[120]⟩ ⟨#[]⟩ = false := by decide +kernel
theorem al6_f : fNm 15 = ⟨#[97, 99, 99, 101, 112, 116, 45, 101, 110, 99, 111, 100, 105, 110, 103]⟩ ∧ fVl 15 = ⟨#[103, 122, 105, 112, 44, 32, 100, 101, 102, 108, 97, 116, 101]⟩ := by decide +kernel
theorem al6_get : getT 16 = .tuple #[.agg #[.string ⟨#[97, 99, 99, 101, 112, 116, 45, 101, 110, 99, 111, 100, 105, 110, 103]⟩, .string ⟨#[103, 122, 105, 112, 44, 32, 100, 101, 102, 108, 97, 116, 101]⟩], .int .i64 0] := by
  rw [getT, getN, getV, getE, if_pos (by decide), if_pos (by decide), if_pos (by decide), show ((16 : Int) - 1).toNat = 15 from rfl, al6_f.1, al6_f.2]
  rfl
theorem al6_none : getT 62 = .tuple #[.agg #[.string ⟨#[]⟩, .string ⟨#[]⟩], .int .i64 5] := by
  rw [getT, getN, getV, getE, if_neg (by decide), if_neg (by decide), if_neg (by decide)]
  rfl
theorem al6_eq : eqB ⟨#[97, 99, 99, 101, 112, 116, 45, 101, 110, 99, 111, 100, 105, 110, 103]⟩ ⟨#[97, 99, 99, 101, 112, 116, 45, 101, 110, 99, 111, 100, 105, 110, 103]⟩ = true ∧ eqB ⟨#[103, 122, 105, 112, 44, 32, 100, 101, 102, 108, 97, 116, 101]⟩ ⟨#[103, 122, 105, 112, 44, 32, 100, 101, 102, 108, 97, 116, 101]⟩ = true := ⟨eqB_iff.2 rfl, eqB_iff.2 rfl⟩
set_option maxHeartbeats 2000000 in
set_option maxRecDepth 20000 in
theorem alive06 (w : World) : Calls Try.prog 5 #[] w fun e w' => e = .returned (.bool true) ∧ Below w.heap.size w w' := by
  go_enter Try.func5, Try.ntmps5
  go_wp2_with fail
  refine (get_any 16 _).mono ?_
  rintro e w1 ⟨rfl, hb1⟩
  rw [al6_get]
  have H1 := Lib.hid hb1
  clear hb1
  go_wp2_with fail
  have hF := FldAt.new w1 ⟨#[97, 99, 99, 101, 112, 116, 45, 101, 110, 99, 111, 100, 105, 110, 103]⟩ ⟨#[103, 122, 105, 112, 44, 32, 100, 101, 102, 108, 97, 116, 101]⟩
  have hB := H1.out.alloc H1.out.size (.cells #[.string ⟨#[97, 99, 99, 101, 112, 116, 45, 101, 110, 99, 111, 100, 105, 110, 103]⟩, .string ⟨#[103, 122, 105, 112, 44, 32, 100, 101, 102, 108, 97, 116, 101]⟩] 23)
  obtain ⟨W2, hW2⟩ : ∃ W2, w1.alloc (.cells #[.string ⟨#[97, 99, 99, 101, 112, 116, 45, 101, 110, 99, 111, 100, 105, 110, 103]⟩, .string ⟨#[103, 122, 105, 112, 44, 32, 100, 101, 102, 108, 97, 116, 101]⟩] 23) = W2 := ⟨_, rfl⟩
  rw [hW2] at hF hB ⊢
  have H2 := Lib.hid (And.intro hF hB)
  clear hF hB hW2 H1
  obtain ⟨g, hg⟩ : ∃ g, w1.heap.size = g := ⟨_, rfl⟩
  rw [hg] at H2 ⊢
  clear hg
  refine (get_any 62 _).mono ?_
  rintro e w3 ⟨rfl, hb3⟩
  rw [al6_none]
  have H3 := Lib.hid (And.intro (H2.out.1.grown hb3) (H2.out.2.trans (hb3.mono H2.out.2.size)))
  clear hb3 H2
  go_wp2_with fail
  have hF := H3.out.1.grown ((Below.refl _ _).alloc (Nat.le_refl _) (.cells #[.string ⟨#[]⟩, .string ⟨#[]⟩] 23))
  have hB := H3.out.2.alloc H3.out.2.size (.cells #[.string ⟨#[]⟩, .string ⟨#[]⟩] 23)
  obtain ⟨W4, hW4⟩ : ∃ W4, w3.alloc (.cells #[.string ⟨#[]⟩, .string ⟨#[]⟩] 23) = W4 := ⟨_, rfl⟩
  rw [hW4] at hF hB ⊢
  have H4 := Lib.hid (And.intro hF hB)
  clear hF hB hW4 H3
  refine (find_any _ _ _).mono ?_
  rintro e w5 ⟨rfl, hb5⟩
  rw [findT, al6_a.1, al6_a.2]
  have H5 := Lib.hid (And.intro (H4.out.1.grown hb5) (H4.out.2.trans (hb5.mono H4.out.2.size)))
  clear hb5 H4
  go_wp2_with fail
  refine (find_any _ _ _).mono ?_
  rintro e w6 ⟨rfl, hb6⟩
  rw [findT, al6_b.1, al6_b.2]
  have H6 := Lib.hid (And.intro (H5.out.1.grown hb6) (H5.out.2.trans (hb6.mono H5.out.2.size)))
  clear hb6 H5
  go_wp2_with fail
  refine (find_any _ _ _).mono ?_
  rintro e w7 ⟨rfl, hb7⟩
  rw [findT, al6_c.1, al6_c.2]
  have H7 := Lib.hid (And.intro (H6.out.1.grown hb7) (H6.out.2.trans (hb7.mono H6.out.2.size)))
  clear hb7 H6
  have c0 := H7.out.1.c0
  have c1 := H7.out.1.c1
  have heq := fld_eql ⟨#[97, 99, 99, 101, 112, 116, 45, 101, 110, 99, 111, 100, 105, 110, 103]⟩ ⟨#[103, 122, 105, 112, 44, 32, 100, 101, 102, 108, 97, 116, 101]⟩ ⟨#[97, 99, 99, 101, 112, 116, 45, 101, 110, 99, 111, 100, 105, 110, 103]⟩ ⟨#[103, 122, 105, 112, 44, 32, 100, 101, 102, 108, 97, 116, 101]⟩
  rw [al6_eq.1, al6_eq.2] at heq
  go_wp2_with fail
  go_ret
  exact ⟨rfl, H7.out.2⟩
end Go.Proofs.Ytljbbficmgbieaa
