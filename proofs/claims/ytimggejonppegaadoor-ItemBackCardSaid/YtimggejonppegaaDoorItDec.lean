
/-
  item.Decode.
-/
import Derived.Test.YtimggejonppegaaDoorItRead
namespace Go.Proofs.YtimggejonppegaaDoor
open Go.RowKit

theorem decI_nil {most : Int} : decI most [] = .err 2 := by rw [decI]; rfl
theorem decI_err {most : Int} {zs : List Int} {k n p e : Int} (hz : 0 < zs.length) (hk : kindI (at0 zs 0) = k) (hd : decP (fullP (bitsI k)) zs = (n, p, e)) (he : e ≠ 0) : decI most zs = .err e := by
  rw [decI, if_neg (by omega), hk, hd, if_pos he]
theorem decI_less {most : Int} {zs : List Int} {k n p : Int} (hz : 0 < zs.length) (hk : kindI (at0 zs 0) = k) (hd : decP (fullP (bitsI k)) zs = (n, p, 0)) (hn : n < leastI k) : decI most zs = .err 3 := by
  rw [decI, if_neg (by omega), hk, hd, if_neg (by simp), if_pos hn]
theorem rd_used {most : Int} {zs : List Int} (hf : Fit .u8 zs) : ∀ {m : Nat} {p : Int} {a : List (List Int)} {q : Int}, 0 ≤ p → p ≤ zs.length → rd most zs m p = (a, q, 0) → p ≤ q ∧ q ≤ zs.length
  | 0, p, a, q, h0, h1, h => by
    rw [rd] at h
    cases h
    exact ⟨Int.le_refl _, h1⟩
  | m + 1, p, a, q, h0, h1, h => by
    obtain ⟨b, u, e, hd⟩ : ∃ b u e, decL most (zs.drop p.toNat) = (b, u, e) := ⟨_, _, _, rfl⟩
    by_cases he : e = 0
    · subst he
      have hu := decL_used (hf.drop _) hd
      rw [List.length_drop] at hu
      rw [rd_ok hd] at h
      obtain ⟨a2, q2, e2, h2⟩ : ∃ a2 q2 e2, rd most zs m (p + u) = (a2, q2, e2) := ⟨_, _, _, rfl⟩
      rw [h2] at h
      simp only [Prod.mk.injEq] at h
      obtain ⟨_, rfl, rfl⟩ := h
      have := rd_used hf (p := p + u) (by omega) (by omega) h2
      omega
    · rw [rd_err hd he] at h
      simp only [Prod.mk.injEq] at h
      exact absurd h.2.2 he
theorem drop_two {zs : List Int} {p u : Int} (h0 : 0 ≤ p) (h1 : 0 ≤ u) : (zs.drop p.toNat).drop (0 + u).toNat = zs.drop (p + u).toNat := by
  rw [List.drop_drop]; congr 1; omega
theorem decI_rd {most : Int} {zs : List Int} {k n p : Int} (hf : Fit .u8 zs) (hz : 0 < zs.length) (hk : kindI (at0 zs 0) = k) (hd : decP (fullP (bitsI k)) zs = (n, p, 0)) (hn : ¬ n < leastI k) (hp : 0 ≤ p) :
    decI most zs = if (rd (min most 65536) (zs.drop p.toNat) (offsI k n).length 0).2.2 ≠ 0 then .err (rd (min most 65536) (zs.drop p.toNat) (offsI k n).length 0).2.2
      else ⟨k, n, if n = 0 then (rd (min most 65536) (zs.drop p.toNat) (offsI k n).length 0).1.getD 0 [] else [], if n = 0 then (rd (min most 65536) (zs.drop p.toNat) (offsI k n).length 0).1.getD 1 [] else (rd (min most 65536) (zs.drop p.toNat) (offsI k n).length 0).1.getD 0 [], p + (rd (min most 65536) (zs.drop p.toNat) (offsI k n).length 0).2.1, 0⟩ := by
  rw [decI, if_neg (by omega), hk, hd, if_neg (by simp), if_neg hn]
  by_cases ht : textsI k = true
  · rw [if_pos ht]
    by_cases h0 : n = 0
    · subst h0
      have hl : (offsI k 0).length = 2 := by rw [offsI, if_pos ht]; rfl
      rw [hl, if_pos rfl, decNV]
      obtain ⟨a, u, e, h1⟩ : ∃ a u e, decL (min most 65536) (zs.drop p.toNat) = (a, u, e) := ⟨_, _, _, rfl⟩
      have h1' : decL (min most 65536) ((zs.drop p.toNat).drop (0 : Int).toNat) = (a, u, e) := h1
      rw [h1]
      by_cases he : e = 0
      · subst he
        have hu := decL_used (hf.drop _) h1
        rw [if_neg (by simp), rd_ok h1', decV]
        obtain ⟨b, v, f, h2⟩ : ∃ b v f, decL (min most 65536) (zs.drop (p + u).toNat) = (b, v, f) := ⟨_, _, _, rfl⟩
        have h2' : decL (min most 65536) ((zs.drop p.toNat).drop (0 + u).toNat) = (b, v, f) := by rw [drop_two hp hu.1]; exact h2
        simp only [h2]
        by_cases hf0 : f = 0
        · subst hf0
          rw [rd_ok h2', rd]
          simp
          omega
        · rw [rd_err h2' hf0]
          simp [hf0]
      · rw [if_pos he, rd_err h1' he]
        simp [he]
    · have hl : (offsI k n).length = 1 := by rw [offsI, if_pos ht, if_neg h0]; rfl
      rw [hl, if_neg h0, decV]
      obtain ⟨b, v, f, h2⟩ : ∃ b v f, decL (min most 65536) (zs.drop p.toNat) = (b, v, f) := ⟨_, _, _, rfl⟩
      have h2' : decL (min most 65536) ((zs.drop p.toNat).drop (0 : Int).toNat) = (b, v, f) := h2
      simp only [h2]
      by_cases hf0 : f = 0
      · subst hf0
        rw [rd_ok h2', rd]
        simp [h0]
      · rw [rd_err h2' hf0]
        simp [hf0]
  · have hl : (offsI k n).length = 0 := by rw [offsI, if_neg ht]; rfl
    rw [if_neg ht, hl, rd]
    simp

theorem store_it {ops : Array Oper} {rest : List Oper} {o : Oper} {a : Act} {w : World} {Q : Exit → Act → World → Prop} (hgd : o.guard = none) (x y : Operand) (ho : o.op = .store 23 x y)
    (g : Nat) (k n k0 n0 : Int) (s t s0 t0 : ByteArray) (hx : a.eval x = .pointer (some ⟨g, 0, none⟩)) (hy : a.eval y = .agg #[.int .i64 k, .int .i64 n, .string s, .string t])
    (hg : ItAt w g 23 k0 n0 s0 t0)
    (h : wpList Tryd.prog ops Q rest (a.put o.dst undef) (w.setRow g #[.int .i64 k, .int .i64 n, .string s, .string t])) : wpList Tryd.prog ops Q (o :: rest) a w :=
  wpList_store_row hgd 23 x y ho g #[.int .i64 k, .int .i64 n, .string s, .string t] hx hy 23 #[.int .i64 k0, .int .i64 n0, .string s0, .string t0] hg (by kernel_rfl) rfl (by simp [Value.oneCell']) h
theorem ItAt.set {w : World} {g : Nat} {t : TypeId} {k0 n0 : Int} {s0 t0 : ByteArray} (h : ItAt w g t k0 n0 s0 t0) (k n : Int) (a b : ByteArray) : ItAt (w.setRow g #[.int .i64 k, .int .i64 n, .string a, .string b]) g t k n a b := setRow_heap _ _ _ _ _ _ h
theorem prefDec_grow (v : Value) (zs : List Int) (b : Int) (w : World) (hv : Sl .u8 w v zs) (h : 1 ≤ b ∧ b ≤ 8) :
    Calls Tryd.prog 22 #[v, .int .i64 b] w fun e w' => e = .returned (tup3 (decP (fullP b) zs)) ∧ Below w.heap.size w w' := by
  refine (prefDec_yes v zs b w hv h).mono ?_
  rintro e w' ⟨rfl, n, rfl⟩
  exact ⟨rfl, below_drewN (Below.refl _ _) n⟩
theorem decP_okm {b : Int} (hb : 1 ≤ b ∧ b ≤ 8) {zs : List Int} (hf : Fit .u8 zs) {n p : Int} (h : decP (fullP b) zs = (n, p, 0)) : 0 ≤ n ∧ n ≤ 16777215 ∧ 1 ≤ p ∧ p ≤ zs.length := by
  have hz : ∀ k, 0 ≤ at0 zs k := fun k => (hf.byte k).1
  have h1 : 0 < fullP b ∧ fullP b ≤ 255 := by
    have : b = 1 ∨ b = 2 ∨ b = 3 ∨ b = 4 ∨ b = 5 ∨ b = 6 ∨ b = 7 ∨ b = 8 := by omega
    rcases this with rfl | rfl | rfl | rfl | rfl | rfl | rfl | rfl <;> decide
  generalize fullP b = m at h h1
  unfold decP at h
  split at h
  · cases h
  · split at h
    · rename_i h2
      cases h
      have := Int.emod_nonneg (at0 zs 0) (show m + 1 ≠ 0 by omega)
      omega
    · have := decF_ok (zs := zs) (f := 4) (i := 1) (t := 1) (n := m) hz (by omega) (by omega) (by rw [h])
      rw [h] at this
      exact this
theorem emp_str : strOfNums [] = ⟨#[]⟩ := rfl

set_option maxHeartbeats 2000000 in
theorem iDec_nil (v : Value) (most : Int) (w : World) (hv : Sl .u8 w v []) :
    Calls Tryd.prog 10 #[v, .int .i64 most] w fun e w' => e = .returned (decI most []).val ∧ Below w.heap.size w w' := by
  have HE : Hid (decI most [] = .err 2) := decI_nil
  obtain ⟨av, cv, rfl, _⟩ := id hv
  go_enter Tryd.func10, Tryd.ntmps10
  go_wp2_with fail
  refine bodyPost_ret (results_row_tmp2 rfl _ _ w.heap.size 23 _ (0, 0) _ rfl (heap_alloc_new w _) Tryd.underlying23 rfl (by kernel_rfl)) rfl ?_
  exact ⟨by rw [HE.out]; rfl, (Below.refl _ _).alloc (Nat.le_refl _) _⟩

set_option maxHeartbeats 4000000 in
theorem iDec_some (v : Value) (zs : List Int) (most : Int) (w : World) (hv : Sl .u8 w v zs) (hz0 : 0 < zs.length) (hz : zs.length ≤ 1000000) (hT : ShT w) :
    Calls Tryd.prog 10 #[v, .int .i64 most] w fun e w' => e = .returned (decI most zs).val ∧ Below w.heap.size w w' := by
  have HF := Lib.hid hv.fit
  have hby := hv.fit.byte 0
  rcases hv.parts with ⟨rfl, a, cap, rfl⟩ | ⟨hp, blk, off, cap, rfl, hlc, hcm, hbl, hc⟩
  · simp at hz0
  obtain ⟨k, hk⟩ : ∃ k, kindI (at0 zs 0) = k := ⟨_, rfl⟩
  have hkb : 0 ≤ k ∧ k < 5 := by rw [← hk]; exact kindI_bound _
  have hx0 := hc 0 hz0
  rw [Nat.add_zero] at hx0
  obtain ⟨c, hcc⟩ : ∃ c, at0 zs 0 = c := ⟨_, rfl⟩
  rw [hcc] at hx0 hby hk
  have HK : Hid (kindI (at0 zs 0) = k) := by show _ = _; rw [hcc, hk]
  obtain ⟨K, hix, hcs⟩ := sh_row hkb.1 hkb.2
  have HC := Lib.hid hcs
  have HT := Lib.hid hT
  have HKB := Lib.hid hkb
  obtain ⟨m, hm⟩ : ∃ m, bitsI k = m := ⟨_, rfl⟩
  have hm8 : 1 ≤ m ∧ m ≤ 8 := by rw [← hm]; have := bitsI_bound k; omega
  obtain ⟨A, hA⟩ : ∃ A, aboveI k = A := ⟨_, rfl⟩
  obtain ⟨L, hL⟩ : ∃ L, leastI k = L := ⟨_, rfl⟩
  obtain ⟨T, hTx⟩ : ∃ T, textsI k = T := ⟨_, rfl⟩
  rw [hm, hA, hL, hTx] at HC
  obtain ⟨n, p, e0, hd⟩ : ∃ n p e, decP (fullP m) zs = (n, p, e) := ⟨_, _, _, rfl⟩
  have HM : Hid (bitsI k = m ∧ leastI k = L ∧ decP (fullP m) zs = (n, p, e0)) := ⟨hm, hL, hd⟩
  have HV := Lib.hid hv
  have hlt0 : (0 : Int) < zs.length := by omega
  have en : ((zs.length : Int) == 0) = false := beq_eq_false_iff_ne.2 (by omega)
  have HKO : Hid (∀ W : World, Below w.heap.size w W → Calls Tryd.prog 21 #[.int .i64 c] W fun e w' => e = .returned (.int .i64 k) ∧ Below W.heap.size W w') := by
    intro W hW
    rw [← hk]
    exact kindOf_any c W (HT.out.low hW HT.out.lt) hby.1 hby.2
  have HZ := Lib.hid hz
  have HZ0 := Lib.hid hz0
  clear hv hT hc hcs hk hkb hm hA hL hTx hcc hd hz hz0
  go_enter Tryd.func10, Tryd.ntmps10
  go_wp2_with fail
  refine (HKO.out _ ((Below.refl _ _).alloc (Nat.le_refl _) _)).mono ?_
  rintro e w1 ⟨rfl, hb1⟩
  have hI1 : ItAt w1 w.heap.size 23 0 0 ⟨#[]⟩ ⟨#[]⟩ := (hb1.block _ (by simp)).trans (heap_alloc_new _ _)
  have hB1 : Below w.heap.size w w1 := ((Below.refl _ _).alloc (Nat.le_refl _) _).trans (hb1.mono (by simp))
  obtain ⟨s0, s1, s2, s3⟩ := HC.out _ (HT.out.low hB1 HT.out.lt)
  have H1 := Lib.hid (And.intro hI1 hB1)
  clear hb1 hI1 hB1 HKO
  go_wp2_with fail
  refine (prefDec_grow _ zs m _ ((HV.out.below H1.out.2).alloc _) hm8).mono ?_
  rintro e w2 ⟨rfl, hb2⟩
  rw [HM.out.2.2, tup3]
  have hS : w2.heap[w1.heap.size]? = some (.cells #[.int .i64 m, .int .i64 A, .int .i64 L, .bool T] 43 (0, 0)) := (hb2.block _ (by simp)).trans (heap_alloc_new _ _)
  have hg2 : Below w1.heap.size w1 w2 := ((Below.refl _ _).alloc (Nat.le_refl _) _).trans (hb2.mono (by simp))
  have hI2 := H1.out.1.grown hg2
  have hB2 := H1.out.2.trans (hg2.mono H1.out.2.size)
  have H2 := Lib.hid (And.intro hI2 hB2)
  have cL := blk_cell (j := 2) hS rfl
  clear hS hg2 hb2 hI2 hB2 H1 s0 s1 s2 s3 hx0 hix
  by_cases h0 : e0 = 0
  · subst h0
    by_cases hl : n < L
    · have HE : Hid (decI most zs = .err 3) := by
        show _ = _
        exact decI_less HZ0.out HK.out (by rw [HM.out.1]; exact HM.out.2.2) (by rw [HM.out.2.1]; exact hl)
      have d1 : decide (n < L) = true := decide_eq_true hl
      clear hl
      go_wp2_with (with_reducible refine store_it rfl (.tmp 4) (.tmp 42) rfl w.heap.size 0 0 0 0 _ _ _ _ rfl rfl H2.out.1 ?_)
      refine bodyPost_ret (results_row_tmp2 rfl _ _ w.heap.size 23 _ (0, 0) _ rfl (H2.out.1.set _ _ _ _) Tryd.underlying23 rfl (by kernel_rfl)) rfl ⟨?_, below_setRow H2.out.2 (Nat.le_refl _) _⟩
      rw [HE.out]; rfl
    · have d1 : decide (n < L) = false := decide_eq_false hl
      obtain ⟨hn0, hn1, hp0, hp1⟩ := decP_okm hm8 HF.out HM.out.2.2
      obtain ⟨ta, tc, te, hT2⟩ : ∃ ta tc te, rd (min most 65536) (zs.drop p.toNat) (offsI k n).length 0 = (ta, tc, te) := ⟨_, _, _, rfl⟩
      have HE : Hid (decI most zs = if te ≠ 0 then .err te else ⟨k, n, if n = 0 then ta.getD 0 [] else [], if n = 0 then ta.getD 1 [] else ta.getD 0 [], p + tc, 0⟩) := by
        show _ = _
        rw [decI_rd HF.out HZ0.out HK.out (by rw [HM.out.1]; exact HM.out.2.2) (by rw [HM.out.2.1]; exact hl) (by omega), hT2]
      obtain ⟨v', hrv, hsv⟩ := (HV.out.below H2.out.2).from_ Tryd.slice22 Tryd.size22 p (by omega) hp1
      have HRT : Hid (∀ q, q = min most 65536 → Calls Tryd.prog 23 #[.pointer (some ⟨w2.heap.size, 0, none⟩), v', .int .i64 q] (w2.alloc (.cells #[.int .i64 k, .int .i64 n, .string ⟨#[]⟩, .string ⟨#[]⟩] 23)) fun e w' =>
          e = .returned (.tuple #[.int .i64 tc, .int .i64 te]) ∧ Below w2.heap.size w2 w' ∧ (te = 0 → ItAt w' w2.heap.size 23 k n (nmOf n ta) (vlOf n ta))) := by
        intro q hq
        subst hq
        have := readTexts_any w2 w2.heap.size k n v' (zs.drop p.toNat) (min most 65536) (w2.alloc (.cells #[.int .i64 k, .int .i64 n, .string ⟨#[]⟩, .string ⟨#[]⟩] 23)) HKB.out.1 HKB.out.2 hsv (by rw [List.length_drop]; have := HZ.out; omega) (HT.out.low H2.out.2 HT.out.lt)
          ((Below.refl _ _).alloc (Nat.le_refl _) _) (Nat.le_refl _) (heap_alloc_new _ _)
        rw [hT2] at this
        exact this
      have HQ : Hid (te = 0 → 0 ≤ tc ∧ tc ≤ 1000000) := by
        intro h
        subst h
        have h1 := HZ.out
        have := rd_used (HF.out.drop _) (by omega) (by omega) hT2
        rw [List.length_drop] at this
        omega
      clear hl hT2 hsv HT HK HM HC HV
      go_wp2_with fail
      all_goals
        refine Calls.mono (HRT.out _ (by omega)) ?_
        rintro e w5 ⟨rfl, hb5, hI5⟩
        have H5 := Lib.hid (And.intro (H2.out.1.grown hb5) (H2.out.2.trans (hb5.mono H2.out.2.size)))
        clear hb5 HRT hrv
        have hz6 := HZ.out
        by_cases hf0 : te = 0
        · subst hf0
          have hI5 := hI5 rfl
          have hq := HQ.out rfl
          have c0 := hI5.c0
          have c1 := hI5.c1
          have c2 := hI5.c2
          have c3 := hI5.c3
          clear hI5
          go_wp2_with (with_reducible refine store_it rfl (.tmp 4) (.tmp 59) rfl w.heap.size k n 0 0 _ _ _ _ rfl rfl H5.out.1 ?_)
          refine bodyPost_ret (results_row_tmp2 rfl _ _ w.heap.size 23 _ (0, 0) _ rfl (H5.out.1.set _ _ _ _) Tryd.underlying23 rfl (by kernel_rfl)) rfl ⟨?_, below_setRow H5.out.2 (Nat.le_refl _) _⟩
          rw [HE.out, if_neg (by simp)]; rfl
        · have d2 : (te != 0) = true := by simp [hf0]
          have HX : Hid (decI most zs = .err te) := by show _ = _; rw [HE.out, if_pos hf0]
          clear hI5
          go_wp2_with (with_reducible refine store_it rfl (.tmp 4) (.tmp 57) rfl w.heap.size 0 0 0 0 _ _ _ _ rfl rfl H5.out.1 ?_)
          refine bodyPost_ret (results_row_tmp2 rfl _ _ w.heap.size 23 _ (0, 0) _ rfl (H5.out.1.set _ _ _ _) Tryd.underlying23 rfl (by kernel_rfl)) rfl ⟨?_, below_setRow H5.out.2 (Nat.le_refl _) _⟩
          rw [HX.out]; rfl
  · have HE : Hid (decI most zs = .err e0) := by
      show _ = _
      exact decI_err HZ0.out HK.out (by rw [HM.out.1]; exact HM.out.2.2) h0
    have d2 : (e0 != 0) = true := by simp [h0]
    clear h0
    go_wp2_with (with_reducible refine store_it rfl (.tmp 4) (.tmp 36) rfl w.heap.size 0 0 0 0 _ _ _ _ rfl rfl H2.out.1 ?_)
    refine bodyPost_ret (results_row_tmp2 rfl _ _ w.heap.size 23 _ (0, 0) _ rfl (H2.out.1.set _ _ _ _) Tryd.underlying23 rfl (by kernel_rfl)) rfl ⟨?_, below_setRow H2.out.2 (Nat.le_refl _) _⟩
    rw [HE.out]; rfl

theorem iDec_any (v : Value) (zs : List Int) (most : Int) (w : World) (hv : Sl .u8 w v zs) (hz : zs.length ≤ 1000000) (hT : ShT w) :
    Calls Tryd.prog 10 #[v, .int .i64 most] w fun e w' => e = .returned (decI most zs).val ∧ Below w.heap.size w w' := by
  by_cases h0 : 0 < zs.length
  · exact iDec_some v zs most w hv h0 hz hT
  · obtain rfl : zs = [] := List.eq_nil_of_length_eq_zero (by omega)
    exact iDec_nil v most w hv
end Go.Proofs.YtimggejonppegaaDoor
