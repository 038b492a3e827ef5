
/-
  ItemBack: its walk.
-/
import Derived.Test.YtimggejonppegaaDoorLaw08
namespace Go.Proofs.YtimggejonppegaaDoor
open Go.RowKit

theorem back08_long (k n : Int) (a b : ByteArray) (v : Value) (zs : List Int) (q : Int) (w : World) (hv : Sl .u8 w v zs) (hT : ShT w) (h : ¬ (a.size ≤ 300 ∧ b.size ≤ 300 ∧ zs.length ≤ 300)) :
    Calls Tryd.prog 4 #[itV k n a b, v, .int .u16 q] w fun e w' => e = .returned (.bool true) ∧ Below w.heap.size w w' := by
  unfold itV
  obtain ⟨av, cv, rfl, _⟩ := id hv
  have HT := Lib.hid hT
  have hB := (Below.refl w.heap.size w).alloc (Nat.le_refl _) (.cells #[.int .i64 k, .int .i64 n, .string a, .string b] 23)
  by_cases h1 : 300 < a.size
  · have d1 : decide (300 < (a.size : Int)) = true := decide_eq_true (by omega)
    clear h h1 hv hT
    go_enter Tryd.func4, Tryd.ntmps4
    go_wp2_with fail
    refine (alive08 _ (HT.out.low hB HT.out.lt)).mono ?_
    rintro e w1 ⟨rfl, hb⟩
    go_wp2_with fail
    go_ret
    exact ⟨rfl, hB.trans (hb.mono (by simp))⟩
  by_cases h2 : 300 < b.size
  · have d1 : decide (300 < (a.size : Int)) = false := decide_eq_false (by omega)
    have d2 : decide (300 < (b.size : Int)) = true := decide_eq_true (by omega)
    clear h h1 h2 hv hT
    go_enter Tryd.func4, Tryd.ntmps4
    go_wp2_with fail
    refine (alive08 _ (HT.out.low hB HT.out.lt)).mono ?_
    rintro e w1 ⟨rfl, hb⟩
    go_wp2_with fail
    go_ret
    exact ⟨rfl, hB.trans (hb.mono (by simp))⟩
  · have d1 : decide (300 < (a.size : Int)) = false := decide_eq_false (by omega)
    have d2 : decide (300 < (b.size : Int)) = false := decide_eq_false (by omega)
    have d3 : decide (300 < (zs.length : Int)) = true := decide_eq_true (by omega)
    clear h h1 h2 hv hT
    go_enter Tryd.func4, Tryd.ntmps4
    go_wp2_with fail
    refine (alive08 _ (HT.out.low hB HT.out.lt)).mono ?_
    rintro e w1 ⟨rfl, hb⟩
    go_wp2_with fail
    go_ret
    exact ⟨rfl, hB.trans (hb.mono (by simp))⟩

theorem iEnc_right {k n : Int} {a b : ByteArray} (h : rightI k n a b) (W : World) (hT : ShT W) :
    Calls Tryd.prog 6 #[itV k n a b] W fun e w' => ∃ v, e = .returned (.tuple #[v, .int .i64 0]) ∧ Sl .u8 w' v (encI k n a b) ∧ Below W.heap.size W w' := by
  have := iEnc_any k n a b W hT
  rw [encT, if_pos h] at this
  exact this

set_option maxHeartbeats 8000000 in
set_option maxRecDepth 20000 in
theorem back08 (k n : Int) (a b : ByteArray) (v : Value) (zs : List Int) (q : Int) (w : World) (hv : Sl .u8 w v zs) (hT : ShT w) (h : a.size ≤ 300 ∧ b.size ≤ 300 ∧ zs.length ≤ 300) (hq0 : 0 ≤ q) (hq1 : q ≤ 65535) :
    Calls Tryd.prog 4 #[itV k n a b, v, .int .u16 q] w fun e w' => e = .returned (.bool true) ∧ Below w.heap.size w w' := by
  obtain ⟨av, cv, rfl, _⟩ := id hv
  have HV := Lib.hid hv
  have HT : Hid (∀ W, Below w.heap.size w W → ShT W) := fun W h => hT.low h hT.lt
  have d1 : decide (300 < (a.size : Int)) = false := decide_eq_false (by omega)
  have d2 : decide (300 < (b.size : Int)) = false := decide_eq_false (by omega)
  have d3 : decide (300 < (zs.length : Int)) = false := decide_eq_false (by omega)
  have HS := Lib.hid h
  have hzl := h.2.2
  obtain ⟨yk, yn, yas, ybs, yat, ye, hd⟩ : ∃ yk yn ya yb yat ye, decI 300 zs = ⟨yk, yn, ya, yb, yat, ye⟩ := ⟨_, _, _, _, _, _, rfl⟩
  obtain ⟨ya, hya⟩ : ∃ ya, strOfNums yas = ya := ⟨_, rfl⟩
  obtain ⟨yb, hyb⟩ : ∃ yb, strOfNums ybs = yb := ⟨_, rfl⟩
  have HD : Hid ((decI 300 zs).val = .tuple #[.agg #[.int .i64 yk, .int .i64 yn, .string ya, .string yb], .int .i64 yat, .int .i64 ye]) := by show _ = _; rw [hd, DecO.val, itV, hya, hyb]
  have HY : Hid (ye = 0 → rightI yk yn ya yb ∧ (decI 300 (encI yk yn ya yb)).val = .tuple #[.agg #[.int .i64 yk, .int .i64 yn, .string ya, .string yb], .int .i64 (encI yk yn ya yb).length, .int .i64 0] ∧ (encI yk yn ya yb).length ≤ 100000) := by
    intro h0
    subst h0
    obtain ⟨hr, h1, h2, h3, h4⟩ := decI_ok hv.fit (by decide) hd
    rw [hya, hyb] at hr
    have n1 : nums ya = yas := by rw [← hya]; exact nums_str h3
    have n2 : nums yb = ybs := by rw [← hyb]; exact nums_str h4
    have l1 := nums_length ya
    have l2 := nums_length yb
    rw [n1] at l1
    rw [n2] at l2
    have hb := encI_back hr (most := 300) (by omega) (by omega) []
    rw [List.append_nil] at hb
    have hl := encI_length hr
    exact ⟨hr, by rw [hb, DecO.val, itV, n1, n2, hya, hyb], by omega⟩
  clear hd hya hyb h hT hv
  unfold itV
  go_enter Tryd.func4, Tryd.ntmps4
  go_wp2_with fail
  have hX0 : ItAt (w.alloc (.cells #[.int .i64 k, .int .i64 n, .string a, .string b] 23)) w.heap.size 23 k n a b := heap_alloc_new _ _
  have hB0 := (Below.refl w.heap.size w).alloc (Nat.le_refl _) (.cells #[.int .i64 k, .int .i64 n, .string a, .string b] 23)
  refine (iDec_any _ zs 300 _ (HV.out.below hB0) (by omega) (HT.out _ hB0)).mono ?_
  rintro e w1 ⟨rfl, hb1⟩
  rw [HD.out]
  have H1 := Lib.hid (And.intro (hB0.trans (hb1.mono hB0.size)) (hX0.grown hb1))
  have hY1 : ItAt (w1.alloc (.cells #[.int .i64 yk, .int .i64 yn, .string ya, .string yb] 23)) w1.heap.size 23 yk yn ya yb := heap_alloc_new _ _
  have hg1 : Below w1.heap.size w1 (w1.alloc (.cells #[.int .i64 yk, .int .i64 yn, .string ya, .string yb] 23)) := (Below.refl _ _).alloc (Nat.le_refl _) _
  have H2 := Lib.hid (And.intro (H1.out.1.trans (hg1.mono H1.out.1.size)) (And.intro (H1.out.2.grown hg1) hY1))
  have x0 := H1.out.2.c0
  have x1 := H1.out.2.c1
  have x2 := H1.out.2.c2
  have x3 := H1.out.2.c3
  have xl := H1.out.2.lt
  clear hX0 hB0 hb1 hY1 hg1 HD H1
  by_cases hye : ye = 0
  case' pos =>
    subst hye
    obtain ⟨hr, hdy, hly⟩ := HY.out rfl
    have HR := Lib.hid hr
    obtain ⟨ys, hys⟩ : ∃ ys, encI yk yn ya yb = ys := ⟨_, rfl⟩
    have HEY : Hid (∀ W, ShT W → Calls Tryd.prog 6 #[.agg #[.int .i64 yk, .int .i64 yn, .string ya, .string yb]] W fun e w' => ∃ v, e = .returned (.tuple #[v, .int .i64 0]) ∧ Sl .u8 w' v ys ∧ Below W.heap.size W w') := fun W hW => by rw [← hys]; exact iEnc_right hr W hW
    have HRY : Hid (∀ W, ShT W → Calls Tryd.prog 12 #[.agg #[.int .i64 yk, .int .i64 yn, .string ya, .string yb]] W fun e w' => e = .returned (.bool true) ∧ Below W.heap.size W w') := fun W hW => by have := right_any yk yn ya yb W hW; rw [decide_eq_true hr] at this; exact this
    rw [hys] at hdy hly
    obtain ⟨NY, hNY⟩ : ∃ N, ys.length = N := ⟨_, rfl⟩
    rw [hNY] at hdy hly
    have HNY := Lib.hid hNY
    have HDY := Lib.hid hdy
    clear hr hdy hys hNY HY HR
    go_wp2_with fail
    refine (HEY.out _ (HT.out _ H2.out.1)).mono ?_
    rintro e w2 ⟨o, rfl, ho, hb2⟩
    have H3 := Lib.hid (And.intro (H2.out.1.trans (hb2.mono H2.out.1.size)) (And.intro (H2.out.2.1.grown hb2) (H2.out.2.2.grown hb2)))
    obtain ⟨ao, co, rfl, _⟩ := id ho
    have HO := Lib.hid ho
    rw [HNY.out]
    clear ho hb2 H2 HEY
    go_wp2_with fail
    rw [HNY.out] at HO
    refine (iDec_any _ ys 300 _ HO.out (by rw [HNY.out]; omega) (HT.out _ H3.out.1)).mono ?_
    rintro e w3 ⟨rfl, hb3⟩
    rw [HDY.out]
    have hg3 : Below w3.heap.size w3 (w3.alloc (.cells #[.int .i64 yk, .int .i64 yn, .string ya, .string yb] 23)) := (Below.refl _ _).alloc (Nat.le_refl _) _
    have hh3 := hb3.trans (hg3.mono hb3.size)
    have hZ3 : ItAt (w3.alloc (.cells #[.int .i64 yk, .int .i64 yn, .string ya, .string yb] 23)) w3.heap.size 23 yk yn ya yb := heap_alloc_new _ _
    have hY3 := H3.out.2.2.grown hb3
    have H4 := Lib.hid (And.intro (H3.out.1.trans (hh3.mono H3.out.1.size)) (And.intro (H3.out.2.1.grown hh3) (And.intro (H3.out.2.2.grown hh3) hZ3)))
    have y0 := hY3.c0
    have y1 := hY3.c1
    have y2 := hY3.c2
    have y3 := hY3.c3
    have yl := hY3.lt
    clear hb3 hg3 hh3 hZ3 hY3 H3 HDY HO x0 x1 x2 x3 xl
    go_wp2_with fail
    refine (HRY.out _ (HT.out _ H4.out.1)).mono ?_
    rintro e w4 ⟨rfl, hb4⟩
    have H5 := Lib.hid (And.intro (H4.out.1.trans (hb4.mono H4.out.1.size)) (H4.out.2.1.grown hb4))
    have hY4 := H4.out.2.2.1.grown hb4
    have hZ4 := H4.out.2.2.2.grown hb4
    clear y0 y1 y2 y3 yl
    have y0 := hY4.c0
    have y1 := hY4.c1
    have y2 := hY4.c2
    have y3 := hY4.c3
    have z0 := hZ4.c0
    have z1 := hZ4.c1
    have z2 := hZ4.c2
    have z3 := hZ4.c3
    have x0 := H5.out.2.c0
    have x1 := H5.out.2.c1
    have x2 := H5.out.2.c2
    have x3 := H5.out.2.c3
    have heq : ∀ w, (binOp .neq 23 (.agg #[.int .i64 yk, .int .i64 yn, .string ya, .string yb]) (.agg #[.int .i64 yk, .int .i64 yn, .string ya, .string yb])).run Tryd.prog w = .ok (.bool false) w := fun w => by rw [it_neq, eqI_self]; rfl
    clear hb4 hY4 hZ4 H4 HRY
    go_wp2_with fail
    obtain ⟨W9, hW9⟩ : ∃ W9, w4 = W9 := ⟨_, rfl⟩
    subst hW9
    clear heq x0 x1 x2 x3 y0 y1 y2 y3 z0 z1 z2 z3 hly HNY
  case' neg =>
    have dy : (ye == 0) = false := by simp [hye]
    have H5 := Lib.hid (And.intro H2.out.1 H2.out.2.1)
    clear hye HY
    go_wp2_with fail
    clear H2 x0 x1 x2 x3 xl dy
    obtain ⟨w4, hw4⟩ : ∃ w4, (w1.alloc (.cells #[.int .i64 yk, .int .i64 yn, .string ya, .string yb] 23)) = w4 := ⟨_, rfl⟩
    rw [hw4] at H5 ⊢
    clear hw4
  all_goals
    by_cases hr : rightI k n a b
    · have HEX : Hid (∀ W, ShT W → Calls Tryd.prog 6 #[.agg #[.int .i64 k, .int .i64 n, .string a, .string b]] W fun e w' => ∃ v, e = .returned (.tuple #[v, .int .i64 0]) ∧ Sl .u8 w' v (encI k n a b) ∧ Below W.heap.size W w') := fun W hW => iEnc_right hr W hW
      have HRX : Hid (∀ W, ShT W → Calls Tryd.prog 12 #[.agg #[.int .i64 k, .int .i64 n, .string a, .string b]] W fun e w' => e = .returned (.bool true) ∧ Below W.heap.size W w') := fun W hW => by have := right_any k n a b W hW; rw [decide_eq_true hr] at this; exact this
      have hsx := HS.out
      have hDX := encI_back hr (most := 300) (by omega) (by omega) zs
      have HCUT : Hid (∀ j, j < (encI k n a b).length → decI 300 ((encI k n a b).take j) = .err 2) := fun j hj => encI_cut hr (by omega) hj
      have hlx := encI_length hr
      have hfx := encI_fit hr
      obtain ⟨xs, hxs⟩ : ∃ xs, encI k n a b = xs := ⟨_, rfl⟩
      rw [hxs] at HEX hDX HCUT hlx hfx
      obtain ⟨N, hN⟩ : ∃ N, xs.length = N := ⟨_, rfl⟩
      rw [hN] at hDX hlx
      have HN := Lib.hid hN
      have HDX : Hid ((decI 300 (xs ++ zs)).val = .tuple #[.agg #[.int .i64 k, .int .i64 n, .string a, .string b], .int .i64 N, .int .i64 0]) := by show _ = _; rw [hDX, DecO.val, itV, str_nums, str_nums]
      have hNb : N ≤ 100000 := by omega
      have hN0 : ((N : Int) == 0) = false := beq_eq_false_iff_ne.2 (by omega)
      clear hr hDX hxs hN
      refine (HEX.out _ (HT.out _ H5.out.1)).mono ?_
      rintro e w5 ⟨c, rfl, hc, hb5⟩
      have H6 := Lib.hid (And.intro (H5.out.1.trans (hb5.mono H5.out.1.size)) (H5.out.2.grown hb5))
      obtain ⟨ac, cc, rfl, _⟩ := id hc
      have HC := Lib.hid hc
      rw [HN.out] at HC ⊢
      have x0 := H6.out.2.c0
      have x1 := H6.out.2.c1
      have x2 := H6.out.2.c2
      have x3 := H6.out.2.c3
      clear hc hb5 H5 HEX
      go_wp2_with fail
      refine (HRX.out _ (HT.out _ H6.out.1)).mono ?_
      rintro e w6 ⟨rfl, hb6⟩
      have H7 := Lib.hid (And.intro (H6.out.1.trans (hb6.mono H6.out.1.size)) (And.intro (H6.out.2.grown hb6) (HC.out.below hb6)))
      have HVR := Lib.hid (HV.out.below H7.out.1)
      clear hb6 H6 HC HRX x0 x1 x2 x3
      have hwz : w6.heap.size < (w6.alloc (.cells #[] 5)).heap.size := by simp
      have hemp : (w6.alloc (.cells #[] 5)).ownsRow w6.heap.size 5 1 (.slice (some ⟨w6.heap.size, 0, none⟩) 0 0) 0 (([] : List Int).map (Value.int .u8)) := by
        have := World.ownsRow_made (base := w6.heap.size) (e := 5) (size := 1) w6 #[] 0 (by simp) (by decide) rfl
        simpa using this
      go_wp2_with (first
        | (at_builtin; refine app_ints rfl (.tmp 103) (.tmp 104) 24 rfl w6.heap.size 5 .u8 1 Tryd.underlying24 Tryd.info5' _ 0 [] rfl hemp _ xs rfl (H7.out.2.2.alloc _) (by rw [HN.out]; simp; omega) (by rw [HN.out]; simp [maxLen]; omega) (by simp) ?_; intro v7 w7 hO7 hb7 hg7; simp only [List.length_nil, Nat.zero_add, List.nil_append] at hO7; obtain ⟨a7, cp7, rfl, _⟩ := owned_shape hO7; have hz7 := hb7.size; have hz7 : w6.heap.size ≤ w7.heap.size := by simp at hz7; omega)
        | (at_builtin; refine app_ints rfl (.tmp 105) (.tmp 106) 24 rfl w6.heap.size 5 .u8 1 Tryd.underlying24 Tryd.info5' _ _ xs rfl hO7 _ zs rfl (HVR.out.below (((Below.refl _ _).alloc (Nat.le_refl _) _).trans hb7)) (by rw [HN.out]; omega) (by rw [HN.out]; unfold maxLen; omega) hz7 ?_; intro v8 w8 hO8 hb8 hg8; obtain ⟨a8, cp8, rfl, _⟩ := owned_shape hO8))
      have hB8 : Below w6.heap.size w6 w8 := (((Below.refl _ _).alloc (Nat.le_refl _) _).trans hb7).trans hb8
      have hA8 : Sl .u8 w8 (.slice a8 (xs.length + zs.length) cp8) (xs ++ zs) := Sl.of_own hO8 (hfx.append HVR.out.fit) (by rw [List.length_append, HN.out]; unfold maxLen; omega)
      have H8 := Lib.hid (And.intro (H7.out.1.trans (hB8.mono H7.out.1.size)) (And.intro (H7.out.2.1.grown hB8) (And.intro (H7.out.2.2.below hB8) hA8)))
      clear hB8 hA8 hO8 hb8 hg8 hO7 hb7 hg7 hz7 hemp hwz H7 HVR
      refine (iDec_any _ (xs ++ zs) 300 _ H8.out.2.2.2 (by rw [List.length_append, HN.out]; omega) (HT.out _ H8.out.1)).mono ?_
      rintro e w9 ⟨rfl, hb9⟩
      rw [HDX.out]
      have hg9 : Below w9.heap.size w9 (w9.alloc (.cells #[.int .i64 k, .int .i64 n, .string a, .string b] 23)) := (Below.refl _ _).alloc (Nat.le_refl _) _
      have hh9 := hb9.trans (hg9.mono hb9.size)
      have hU9 : ItAt (w9.alloc (.cells #[.int .i64 k, .int .i64 n, .string a, .string b] 23)) w9.heap.size 23 k n a b := heap_alloc_new _ _
      have H9 := Lib.hid (And.intro (H8.out.1.trans (hh9.mono H8.out.1.size)) (And.intro (H8.out.2.1.grown hh9) (And.intro (H8.out.2.2.1.below hh9) hU9)))
      clear hb9 hg9 hh9 hU9 H8 HDX
      have hr0 : 0 ≤ q % (N : Int) := Int.emod_nonneg _ (by omega)
      have hr1 : q % (N : Int) < N := Int.emod_lt_of_pos _ (by omega)
      have hsl := H9.out.2.2.1
      obtain ⟨vt, hrt, hvt⟩ := hsl.upto Tryd.slice22 Tryd.size22 (q % (N : Int)) hr0 (by rw [HN.out]; omega)
      have hcut := HCUT.out (q % (N : Int)).toNat (by rw [HN.out]; omega)
      have HVT : Hid (Sl .u8 _ vt _ ∧ (decI 300 (xs.take (q % (N : Int)).toNat)).val = .tuple #[.agg #[.int .i64 0, .int .i64 0, .string ⟨#[]⟩, .string ⟨#[]⟩], .int .i64 0, .int .i64 2]) := Lib.hid (And.intro hvt (by rw [hcut]; rfl))
      clear hvt hcut hr0 hr1 hsl HCUT
      go_wp2_with fail
      refine (iDec_any _ _ 300 _ HVT.out.1 (by rw [List.length_take, HN.out]; omega) (HT.out _ H9.out.1)).mono ?_
      rintro e w10 ⟨rfl, hb10⟩
      rw [HVT.out.2]
      have H10 := Lib.hid (And.intro (H9.out.1.trans (hb10.mono H9.out.1.size)) (And.intro (H9.out.2.1.grown hb10) (H9.out.2.2.2.grown hb10)))
      clear hb10 HVT hrt H9
      go_wp2_with fail
      have hgA : Below w10.heap.size w10 (w10.alloc (.cells #[.int .i64 0, .int .i64 0, .string ⟨#[]⟩, .string ⟨#[]⟩] 23)) := (Below.refl _ _).alloc (Nat.le_refl _) _
      have hBA := H10.out.1.trans (hgA.mono H10.out.1.size)
      refine (alive08 _ (HT.out _ hBA)).mono ?_
      rintro e w11 ⟨rfl, hb11⟩
      have hhA := hgA.trans (hb11.mono hgA.size)
      have hX := H10.out.2.1.grown hhA
      have hU := H10.out.2.2.grown hhA
      have H11 := Lib.hid (hBA.trans (hb11.mono hBA.size))
      have x0 := hX.c0
      have x1 := hX.c1
      have x2 := hX.c2
      have x3 := hX.c3
      have u0 := hU.c0
      have u1 := hU.c1
      have u2 := hU.c2
      have u3 := hU.c3
      have heq : ∀ w, (binOp .eql 23 (.agg #[.int .i64 k, .int .i64 n, .string a, .string b]) (.agg #[.int .i64 k, .int .i64 n, .string a, .string b])).run Tryd.prog w = .ok (.bool true) w := fun w => by rw [it_eql, eqI_self]
      clear hgA hBA hb11 hhA hX hU H10
      go_wp2_with fail
      go_ret
      exact ⟨rfl, H11.out⟩
    · have HEX : Hid (∀ W, ShT W → Calls Tryd.prog 6 #[.agg #[.int .i64 k, .int .i64 n, .string a, .string b]] W fun e w' => e = .returned (.tuple #[.slice none 0 0, .int .i64 1]) ∧ Below W.heap.size W w') := fun W hW => iEnc_no k n a b W hW hr
      have HRX : Hid (∀ W, ShT W → Calls Tryd.prog 12 #[.agg #[.int .i64 k, .int .i64 n, .string a, .string b]] W fun e w' => e = .returned (.bool false) ∧ Below W.heap.size W w') := fun W hW => by have := right_any k n a b W hW; rw [decide_eq_false hr] at this; exact this
      clear hr
      refine (HEX.out _ (HT.out _ H5.out.1)).mono ?_
      rintro e w5 ⟨rfl, hb5⟩
      have H6 := Lib.hid (And.intro (H5.out.1.trans (hb5.mono H5.out.1.size)) (H5.out.2.grown hb5))
      have x0 := H6.out.2.c0
      have x1 := H6.out.2.c1
      have x2 := H6.out.2.c2
      have x3 := H6.out.2.c3
      clear hb5 H5 HEX
      go_wp2_with fail
      refine (HRX.out _ (HT.out _ H6.out.1)).mono ?_
      rintro e w6 ⟨rfl, hb6⟩
      have H7 := Lib.hid (H6.out.1.trans (hb6.mono H6.out.1.size))
      clear hb6 H6 HRX x0 x1 x2 x3
      go_wp2_with fail
      refine (alive08 _ (HT.out _ H7.out)).mono ?_
      rintro e w7 ⟨rfl, hb7⟩
      have H8 := Lib.hid (H7.out.trans (hb7.mono H7.out.size))
      clear hb7 H7
      go_wp2_with fail
      go_ret
      exact ⟨rfl, H8.out⟩
theorem back08_any (k n : Int) (a b : ByteArray) (v : Value) (zs : List Int) (q : Int) (w : World) (hv : Sl .u8 w v zs) (hT : ShT w) (hc : (Lit.int .u16 q).wf = true) :
    Calls Tryd.prog 4 #[itV k n a b, v, .int .u16 q] w fun e w' => e = .returned (.bool true) ∧ Below w.heap.size w w' := by
  have hq := bounds_u16 hc
  by_cases h : a.size ≤ 300 ∧ b.size ≤ 300 ∧ zs.length ≤ 300
  · exact back08 k n a b v zs q w hv hT h (by omega) (by omega)
  · exact back08_long k n a b v zs q w hv hT h
end Go.Proofs.YtimggejonppegaaDoor
