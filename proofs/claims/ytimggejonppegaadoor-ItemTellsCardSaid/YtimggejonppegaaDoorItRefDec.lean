
/-
  The document's own answer for layer 8: the item that bytes begin with.
-/
import Derived.Test.YtimggejonppegaaDoorItRef
import Derived.Test.YtimggejonppegaaDoorItDec
import Derived.Test.YtimggejonppegaaDoorRef05Dec
namespace Go.Proofs.YtimggejonppegaaDoor
open Go.RowKit

theorem decI_plain {most : Int} {zs : List Int} {k n p : Int} (hz : 0 < zs.length) (hk : kindI (at0 zs 0) = k) (hd : decP (fullP (bitsI k)) zs = (n, p, 0)) (hn : ¬ n < leastI k) (ht : textsI k = false) : decI most zs = ⟨k, n, [], [], p, 0⟩ := by
  rw [decI, if_neg (by omega), hk, hd, if_neg (by simp), if_neg hn, if_neg (by simp [ht])]
theorem decI_one {most : Int} {zs : List Int} {k n p : Int} (hz : 0 < zs.length) (hk : kindI (at0 zs 0) = k) (hd : decP (fullP (bitsI k)) zs = (n, p, 0)) (hn : ¬ n < leastI k) (ht : textsI k = true) (h0 : n ≠ 0) : decI most zs = decV most zs k n [] p := by
  rw [decI, if_neg (by omega), hk, hd, if_neg (by simp), if_neg hn, if_pos ht, if_neg h0]
theorem decI_two {most : Int} {zs : List Int} {k p : Int} (hz : 0 < zs.length) (hk : kindI (at0 zs 0) = k) (hd : decP (fullP (bitsI k)) zs = (0, p, 0)) (hn : ¬ 0 < leastI k) (ht : textsI k = true) : decI most zs = decNV most zs k 0 p := by
  rw [decI, if_neg (by omega), hk, hd, if_neg (by simp), if_neg hn, if_pos ht, if_pos rfl]

theorem store_it30 {ops : Array Oper} {rest : List Oper} {o : Oper} {a : Act} {w : World} {Q : Exit → Act → World → Prop} (hgd : o.guard = none) (x y : Operand) (ho : o.op = .store 30 x y)
    (g : Nat) (k n k0 n0 : Int) (s t s0 t0 : ByteArray) (hx : a.eval x = .pointer (some ⟨g, 0, none⟩)) (hy : a.eval y = .agg #[.int .i64 k, .int .i64 n, .string s, .string t])
    (hg : ItAt w g 30 k0 n0 s0 t0)
    (h : wpList Tryd.prog ops Q rest (a.put o.dst undef) (w.setRow g #[.int .i64 k, .int .i64 n, .string s, .string t])) : wpList Tryd.prog ops Q (o :: rest) a w :=
  wpList_store_row hgd 30 x y ho g #[.int .i64 k, .int .i64 n, .string s, .string t] hx hy 30 #[.int .i64 k0, .int .i64 n0, .string s0, .string t0] hg (by kernel_rfl) rfl (by simp [Value.oneCell']) h
theorem ItAt.put2 {W : World} {g : Nat} {t : TypeId} {k n : Int} {a b : ByteArray} (h : ItAt W g t k n a b) (s : ByteArray) : ItAt (W.setCell ⟨g, 2, none⟩ (.string s)) g t k n s b := by
  unfold ItAt
  rw [heap_setCell_same _ _ 2 _ _ _ h]; rfl
theorem ItAt.put3 {W : World} {g : Nat} {t : TypeId} {k n : Int} {a b : ByteArray} (h : ItAt W g t k n a b) (s : ByteArray) : ItAt (W.setCell ⟨g, 3, none⟩ (.string s)) g t k n a s := by
  unfold ItAt
  rw [heap_setCell_same _ _ 3 _ _ _ h]; rfl

theorem refIDec_nil (v : Value) (most : Int) (w : World) (hv : Sl .u8 w v []) :
    Calls Tryd.prog 11 #[v, .int .i64 most] w fun e w' => e = .returned (decI most []).val ∧ Below w.heap.size w w' := by
  have HE : Hid (decI most [] = .err 2) := decI_nil
  obtain ⟨av, cv, rfl, _⟩ := id hv
  go_enter Tryd.func11, Tryd.ntmps11
  go_wp2_with fail
  refine bodyPost_ret (results_row_tmp2 rfl _ _ w.heap.size 30 _ (0, 0) _ rfl (heap_alloc_new w _) Tryd.underlying30 rfl (by kernel_rfl)) rfl ?_
  exact ⟨by rw [HE.out]; rfl, (Below.refl _ _).alloc (Nat.le_refl _) _⟩

set_option maxHeartbeats 4000000 in
theorem refIDec_some (v : Value) (zs : List Int) (most : Int) (w : World) (hv : Sl .u8 w v zs) (hz0 : 0 < zs.length) (hz : zs.length ≤ 1000000) :
    Calls Tryd.prog 11 #[v, .int .i64 most] w fun e w' => e = .returned (decI most zs).val ∧ Below w.heap.size w w' := by
  have HF := Lib.hid hv.fit
  rcases hv.parts with ⟨rfl, a, cap, rfl⟩ | ⟨hp, blk, off, cap, rfl, hlc, hcm, hbl, hc⟩
  · simp at hz0
  obtain ⟨k, hk⟩ : ∃ k, kindI (at0 zs 0) = k := ⟨_, rfl⟩
  have hkb : 0 ≤ k ∧ k < 5 := by rw [← hk]; exact kindI_bound _
  have hx0 := hc 0 hz0
  rw [Nat.add_zero] at hx0
  obtain ⟨c, hcc⟩ : ∃ c, at0 zs 0 = c := ⟨_, rfl⟩
  rw [hcc] at hx0 hk
  have HK : Hid (kindI (at0 zs 0) = k) := by show _ = _; rw [hcc, hk]
  have HKB := Lib.hid hkb
  obtain ⟨m, hm⟩ : ∃ m, bitsI k = m := ⟨_, rfl⟩
  have hm8 : 1 ≤ m ∧ m ≤ 8 := by rw [← hm]; have := bitsI_bound k; omega
  obtain ⟨n, p, e0, hd⟩ : ∃ n p e, decP (fullP m) zs = (n, p, e) := ⟨_, _, _, rfl⟩
  have HM : Hid (bitsI k = m ∧ decP (fullP m) zs = (n, p, e0)) := ⟨hm, hd⟩
  have HV := Lib.hid hv
  have hlt0 : (0 : Int) < zs.length := by omega
  have en : ((zs.length : Int) == 0) = false := beq_eq_false_iff_ne.2 (by omega)
  have HZ := Lib.hid hz
  have HZ0 := Lib.hid hz0
  have HKI := Lib.hid hk
  clear hv hc hk hkb hm hcc hd hz hz0
  go_enter Tryd.func11, Tryd.ntmps11
  go_wp2_with fail
  refine (refKind_any c _).mono ?_
  rintro e w1 ⟨rfl, rfl⟩
  rw [HKI.out]
  go_wp2_with fail
  refine (refBits_any k _ HKB.out.1 HKB.out.2).mono ?_
  rintro e w1 ⟨rfl, rfl⟩
  rw [HM.out.1]
  go_wp2_with fail
  refine (refDec3_yes _ zs m _ (HV.out.alloc _) hm8).mono ?_
  rintro e w1 ⟨rfl, rfl⟩
  rw [HM.out.2, tup3]
  obtain ⟨w2, hw2⟩ : ∃ w2, w.alloc (.cells #[.int .i64 0, .int .i64 0, .string ⟨#[]⟩, .string ⟨#[]⟩] 30) = w2 := ⟨_, rfl⟩
  have hI2 : ItAt w2 w.heap.size 30 0 0 ⟨#[]⟩ ⟨#[]⟩ := hw2 ▸ heap_alloc_new _ _
  have hB2 : Below w.heap.size w w2 := hw2 ▸ (Below.refl _ _).alloc (Nat.le_refl _) _
  rw [hw2]
  have H2 := Lib.hid (And.intro hI2 hB2)
  clear hI2 hB2 hw2 hx0 HKI
  by_cases h0 : e0 = 0
  · subst h0
    have HHD : Hid (decP (fullP (bitsI k)) zs = (n, p, 0)) := by show _ = _; rw [HM.out.1]; exact HM.out.2
    obtain ⟨hn0, hn1, hp0, hp1⟩ := decP_okm hm8 HF.out HM.out.2
    by_cases hl : n < leastI k
    · have HE : Hid (decI most zs = .err 3) := decI_less HZ0.out HK.out HHD.out hl
      have hk0 : k = 0 ∧ n = 0 := by unfold leastI at hl; split at hl <;> omega
      obtain ⟨rfl, rfl⟩ := hk0
      clear hl
      go_wp2_with (with_reducible refine store_it30 rfl (.tmp 4) (.tmp 45) rfl w.heap.size 0 0 0 0 _ _ _ _ rfl rfl H2.out.1 ?_)
      refine bodyPost_ret (results_row_tmp2 rfl _ _ w.heap.size 30 _ (0, 0) _ rfl (H2.out.1.set _ _ _ _) Tryd.underlying30 rfl (by kernel_rfl)) rfl ⟨?_, below_setRow H2.out.2 (Nat.le_refl _) _⟩
      rw [HE.out]; rfl
    · by_cases ht : textsI k = true
      · have ek : k = 1 ∨ k = 2 ∨ k = 3 := by simp [textsI] at ht; omega
        have e0 : (k == 0) = false := beq_eq_false_iff_ne.2 (by omega)
        have e4 : (k == 4) = false := beq_eq_false_iff_ne.2 (by omega)
        obtain ⟨v', hrv, hsv⟩ := (HV.out.below H2.out.2).from_ Tryd.slice22 Tryd.size22 p (by omega) hp1
        have HD5 : Hid (∀ q, q = min most 65536 → ∀ (P : Int) (u : Value) (W : World), Sl .u8 W u (zs.drop P.toNat) → Calls Tryd.prog 26 #[u, .int .i64 q] W fun e w' => e = .returned (tupL (decL (min most 65536) (zs.drop P.toNat))) ∧ Below W.heap.size W w') := by
          intro q hq P u W hu
          subst hq
          exact refDec5_any u (zs.drop P.toNat) _ W hu (by rw [List.length_drop]; have := HZ.out; omega)
        obtain ⟨da, du, de, hd1⟩ : ∃ b v f, decL (min most 65536) (zs.drop p.toNat) = (b, v, f) := ⟨_, _, _, rfl⟩
        have HD1 := Lib.hid hd1
        have HS := Lib.hid hsv
        have hz6 := HZ.out
        by_cases hn : n = 0
        · subst hn
          have HE : Hid (decI most zs = decNV most zs k 0 p) := decI_two HZ0.out HK.out HHD.out hl ht
          clear hl ht hd1 hsv ek HHD HM HK
          by_cases hde : de = 0
          · subst hde
            have hu := decL_used (HF.out.drop _) HD1.out
            rw [List.length_drop] at hu
            obtain ⟨db, dv, df, hd2⟩ : ∃ b v f, decL (min most 65536) (zs.drop (p + du).toNat) = (b, v, f) := ⟨_, _, _, rfl⟩
            have HE2 : Hid (decI most zs = if df ≠ 0 then .err df else ⟨k, 0, da, db, p + du + dv, 0⟩) := by
              show _ = _
              rw [HE.out, decNV, HD1.out, if_neg (by simp), decV, hd2]
            have HD2 := Lib.hid hd2
            obtain ⟨v2, hrv2, hsv2⟩ := (HV.out.below H2.out.2).from_ Tryd.slice22 Tryd.size22 (p + du) (by omega) (by omega)
            have HS2 := Lib.hid hsv2
            clear hd2 hsv2 HE
            go_wp2_with fail
            all_goals
              refine (HD5.out _ (by omega) p v' _ (HS.out.alloc _)).mono ?_
              rintro e w5 ⟨rfl, hb5⟩
              rw [HD1.out, tupL]
              have hI5 : ItAt w5 w2.heap.size 30 k 0 ⟨#[]⟩ ⟨#[]⟩ := (hb5.block _ (by simp)).trans (heap_alloc_new _ _)
              have hB5 : Below w2.heap.size w2 w5 := ((Below.refl _ _).alloc (Nat.le_refl _) _).trans (hb5.mono (by simp))
              have H5 := Lib.hid (And.intro hI5 hB5)
              have c2 := hI5.c2
              have f2 := ItAt.free hI5 2
              have hl5 := hI5.lt
              clear hb5 hI5 hB5 hrv HS
              go_wp2_with fail
              refine (HD5.out _ (by omega) (p + du) v2 _ (HS2.out.below (H5.out.2.setCell (p := ⟨w2.heap.size, 2, none⟩) (Nat.le_refl _) _))).mono ?_
              rintro e w7 ⟨rfl, hb7⟩
              rw [HD2.out, tupL]
              have hI7 := (H5.out.1.put2 (strOfNums da)).grown hb7
              have hB7 : Below w2.heap.size w2 w7 := (H5.out.2.setCell (p := ⟨w2.heap.size, 2, none⟩) (Nat.le_refl _) _).trans (hb7.mono (by simp; omega))
              have H7 := Lib.hid (And.intro (H2.out.1.grown hB7) (And.intro (H2.out.2.trans (hB7.mono H2.out.2.size)) hI7))
              have c0 := hI7.c0
              have c1 := hI7.c1
              have c2 := hI7.c2
              have c3 := hI7.c3
              have f3 := ItAt.free hI7 3
              have hl7 := hI7.lt
              clear hb7 hI7 hB7 H5
              by_cases hf0 : df = 0
              · subst hf0
                have hu2 := decL_used (HF.out.drop _) HD2.out
                rw [List.length_drop] at hu2
                have hsc : Below w2.heap.size w7 (w7.setCell ⟨w2.heap.size, 3, none⟩ (.string (strOfNums db))) := (Below.refl _ _).setCell (p := ⟨w2.heap.size, 3, none⟩) (Nat.le_refl _) _
                have HX : Hid (ItAt (w7.setCell ⟨w2.heap.size, 3, none⟩ (.string (strOfNums db))) w.heap.size 30 0 0 ⟨#[]⟩ ⟨#[]⟩ ∧ Below w.heap.size w (w7.setCell ⟨w2.heap.size, 3, none⟩ (.string (strOfNums db)))) := ⟨H7.out.1.low hsc H2.out.1.lt, H7.out.2.1.trans (hsc.mono H2.out.2.size)⟩
                clear hsc
                go_wp2_with (with_reducible refine store_it30 rfl (.tmp 4) (.tmp 94) rfl w.heap.size k 0 0 0 _ _ _ _ rfl rfl HX.out.1 ?_)
                refine bodyPost_ret (results_row_tmp2 rfl _ _ w.heap.size 30 _ (0, 0) _ rfl (HX.out.1.set _ _ _ _) Tryd.underlying30 rfl (by kernel_rfl)) rfl ⟨?_, below_setRow HX.out.2 (Nat.le_refl _) _⟩
                rw [HE2.out, if_neg (by simp)]; rfl
              · have HX : Hid (decI most zs = .err df) := by show _ = _; rw [HE2.out, if_pos hf0]
                have d2 : (df != 0) = true := by simp [hf0]
                clear hf0
                go_wp2_with (with_reducible refine store_it30 rfl (.tmp 4) (.tmp 90) rfl w.heap.size 0 0 0 0 _ _ _ _ rfl rfl H7.out.1 ?_)
                refine bodyPost_ret (results_row_tmp2 rfl _ _ w.heap.size 30 _ (0, 0) _ rfl (H7.out.1.set _ _ _ _) Tryd.underlying30 rfl (by kernel_rfl)) rfl ⟨?_, below_setRow H7.out.2.1 (Nat.le_refl _) _⟩
                rw [HX.out]; rfl
          · have HX : Hid (decI most zs = .err de) := by show _ = _; rw [HE.out, decNV, HD1.out, if_pos hde]
            have d2 : (de != 0) = true := by simp [hde]
            clear hde HE
            go_wp2_with fail
            all_goals
              refine (HD5.out _ (by omega) p v' _ (HS.out.alloc _)).mono ?_
              rintro e w5 ⟨rfl, hb5⟩
              rw [HD1.out, tupL]
              have hB5 : Below w2.heap.size w2 w5 := ((Below.refl _ _).alloc (Nat.le_refl _) _).trans (hb5.mono (by simp))
              have H5 := Lib.hid (And.intro (H2.out.1.grown hB5) (H2.out.2.trans (hB5.mono H2.out.2.size)))
              clear hb5 hB5
              go_wp2_with (with_reducible refine store_it30 rfl (.tmp 4) (.tmp 72) rfl w.heap.size 0 0 0 0 _ _ _ _ rfl rfl H5.out.1 ?_)
              refine bodyPost_ret (results_row_tmp2 rfl _ _ w.heap.size 30 _ (0, 0) _ rfl (H5.out.1.set _ _ _ _) Tryd.underlying30 rfl (by kernel_rfl)) rfl ⟨?_, below_setRow H5.out.2 (Nat.le_refl _) _⟩
              rw [HX.out]; rfl
        · have HE : Hid (decI most zs = decV most zs k n [] p) := decI_one HZ0.out HK.out HHD.out hl ht hn
          have en0 : (n == 0) = false := beq_eq_false_iff_ne.2 hn
          clear hl ht hd1 hsv ek HHD HM HK hn
          go_wp2_with fail
          all_goals
            refine (HD5.out _ (by omega) p v' _ (HS.out.alloc _)).mono ?_
            rintro e w5 ⟨rfl, hb5⟩
            rw [HD1.out, tupL]
            have hI5 : ItAt w5 w2.heap.size 30 k n ⟨#[]⟩ ⟨#[]⟩ := (hb5.block _ (by simp)).trans (heap_alloc_new _ _)
            have hB5 : Below w2.heap.size w2 w5 := ((Below.refl _ _).alloc (Nat.le_refl _) _).trans (hb5.mono (by simp))
            have H5 := Lib.hid (And.intro (H2.out.1.grown hB5) (H2.out.2.trans (hB5.mono H2.out.2.size)))
            have c0 := hI5.c0
            have c1 := hI5.c1
            have c2 := hI5.c2
            have c3 := hI5.c3
            have f3 := ItAt.free hI5 3
            have hl5 := hI5.lt
            clear hb5 hI5 hB5
            by_cases hde : de = 0
            · subst hde
              have hu := decL_used (HF.out.drop _) HD1.out
              rw [List.length_drop] at hu
              have HX2 : Hid (decI most zs = ⟨k, n, [], da, p + du, 0⟩) := by show _ = _; rw [HE.out, decV, HD1.out, if_neg (by simp)]
              have hsc : Below w2.heap.size w5 (w5.setCell ⟨w2.heap.size, 3, none⟩ (.string (strOfNums da))) := (Below.refl _ _).setCell (p := ⟨w2.heap.size, 3, none⟩) (Nat.le_refl _) _
              have HX : Hid (ItAt (w5.setCell ⟨w2.heap.size, 3, none⟩ (.string (strOfNums da))) w.heap.size 30 0 0 ⟨#[]⟩ ⟨#[]⟩ ∧ Below w.heap.size w (w5.setCell ⟨w2.heap.size, 3, none⟩ (.string (strOfNums da)))) := ⟨H5.out.1.low hsc H2.out.1.lt, H5.out.2.trans (hsc.mono H2.out.2.size)⟩
              clear hsc
              go_wp2_with (with_reducible refine store_it30 rfl (.tmp 4) (.tmp 94) rfl w.heap.size k n 0 0 _ _ _ _ rfl rfl HX.out.1 ?_)
              refine bodyPost_ret (results_row_tmp2 rfl _ _ w.heap.size 30 _ (0, 0) _ rfl (HX.out.1.set _ _ _ _) Tryd.underlying30 rfl (by kernel_rfl)) rfl ⟨?_, below_setRow HX.out.2 (Nat.le_refl _) _⟩
              rw [HX2.out]; rfl
            · have HX : Hid (decI most zs = .err de) := by show _ = _; rw [HE.out, decV, HD1.out, if_pos hde]
              have d2 : (de != 0) = true := by simp [hde]
              clear hde
              go_wp2_with (with_reducible refine store_it30 rfl (.tmp 4) (.tmp 90) rfl w.heap.size 0 0 0 0 _ _ _ _ rfl rfl H5.out.1 ?_)
              refine bodyPost_ret (results_row_tmp2 rfl _ _ w.heap.size 30 _ (0, 0) _ rfl (H5.out.1.set _ _ _ _) Tryd.underlying30 rfl (by kernel_rfl)) rfl ⟨?_, below_setRow H5.out.2 (Nat.le_refl _) _⟩
              rw [HX.out]; rfl
      · have ht : textsI k = false := by simpa using ht
        have HE : Hid (decI most zs = ⟨k, n, [], [], p, 0⟩) := decI_plain HZ0.out HK.out HHD.out hl ht
        have ek : k = 0 ∨ k = 4 := by have := HKB.out; simp [textsI] at ht; omega
        have HI3 : Hid (ItAt (w2.alloc (.cells #[.int .i64 k, .int .i64 n, .string ⟨#[]⟩, .string ⟨#[]⟩] 30)) w.heap.size 30 0 0 ⟨#[]⟩ ⟨#[]⟩ ∧ Below w.heap.size w (w2.alloc (.cells #[.int .i64 k, .int .i64 n, .string ⟨#[]⟩, .string ⟨#[]⟩] 30))) :=
          ⟨H2.out.1.grown ((Below.refl _ _).alloc (Nat.le_refl _) _), H2.out.2.alloc H2.out.2.size _⟩
        have en0 : k = 0 → (n == 0) = false := fun h => beq_eq_false_iff_ne.2 (by subst h; unfold leastI at hl; simp at hl; omega)
        clear hl ht HHD HM HK
        rcases ek with rfl | rfl
        · have en0 := en0 rfl
          go_wp2_with (with_reducible refine store_it30 rfl (.tmp 4) (.tmp 55) rfl w.heap.size 0 n 0 0 _ _ _ _ rfl rfl HI3.out.1 ?_)
          refine bodyPost_ret (results_row_tmp2 rfl _ _ w.heap.size 30 _ (0, 0) _ rfl (HI3.out.1.set _ _ _ _) Tryd.underlying30 rfl (by kernel_rfl)) rfl ⟨?_, below_setRow HI3.out.2 (Nat.le_refl _) _⟩
          rw [HE.out]; rfl
        · clear en0
          go_wp2_with (with_reducible refine store_it30 rfl (.tmp 4) (.tmp 55) rfl w.heap.size 4 n 0 0 _ _ _ _ rfl rfl HI3.out.1 ?_)
          refine bodyPost_ret (results_row_tmp2 rfl _ _ w.heap.size 30 _ (0, 0) _ rfl (HI3.out.1.set _ _ _ _) Tryd.underlying30 rfl (by kernel_rfl)) rfl ⟨?_, below_setRow HI3.out.2 (Nat.le_refl _) _⟩
          rw [HE.out]; rfl
  · have HE : Hid (decI most zs = .err e0) := decI_err HZ0.out HK.out (by rw [HM.out.1]; exact HM.out.2) h0
    have d2 : (e0 != 0) = true := by simp [h0]
    clear h0
    go_wp2_with (with_reducible refine store_it30 rfl (.tmp 4) (.tmp 37) rfl w.heap.size 0 0 0 0 _ _ _ _ rfl rfl H2.out.1 ?_)
    refine bodyPost_ret (results_row_tmp2 rfl _ _ w.heap.size 30 _ (0, 0) _ rfl (H2.out.1.set _ _ _ _) Tryd.underlying30 rfl (by kernel_rfl)) rfl ⟨?_, below_setRow H2.out.2 (Nat.le_refl _) _⟩
    rw [HE.out]; rfl

theorem refIDec_any (v : Value) (zs : List Int) (most : Int) (w : World) (hv : Sl .u8 w v zs) (hz : zs.length ≤ 1000000) :
    Calls Tryd.prog 11 #[v, .int .i64 most] w fun e w' => e = .returned (decI most zs).val ∧ Below w.heap.size w w' := by
  by_cases h0 : 0 < zs.length
  · exact refIDec_some v zs most w hv h0 hz
  · obtain rfl : zs = [] := List.eq_nil_of_length_eq_zero (by omega)
    exact refIDec_nil v most w hv
end Go.Proofs.YtimggejonppegaaDoor
