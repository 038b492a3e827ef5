
/-
  Layer 11's statement: PayloadPadded, of frames that are gone through: to the padded frame.
-/
import Derived.Test.YtohghphegcnfkaaLaw11
import Derived.Test.YtohghphegcnfkaaSame
import Derived.Deep.AppendLies
namespace Go.Proofs.Ytohghphegcnfkaa
set_option maxRecDepth 20000
open Go.RowKit

theorem Bx.kept2 {W w1 w2 : World} {B g i : Nat} {t : TypeId} {f : Fr} {pv : Value} (h : Bx W i t f pv) (hb : Below B W w1) (hg : w1.grownBy w2 (some g)) (hB : B ≤ g) (hs : B ≤ w1.heap.size) (hi : i < B) : Bx w2 i t f pv :=
  (hg.block i (by omega) (by simp; omega)).trans ((hb.block i hi).trans h)
theorem Bx.s3' {W : World} {B : Nat} {t : TypeId} {f : Fr} {pv : Value} (h : Bx W B t f pv) (u : Value) : Bx (W.setCell ⟨B, 3, none⟩ u) B t f u := heap_setCell_same W B 3 _ _ _ h
theorem readF_pairs {f : Fr} (hk : f.kind = 0 ∨ f.kind = 1) : (readF f).1.pairs = [] := by
  unfold readF
  split
  · rfl
  · rcases hk with h | h
    · rw [if_pos h]
      unfold dataF
      repeat' split
      all_goals rfl
    · rw [if_neg (by omega), if_pos h]
      unfold headF
      repeat' split
      all_goals rfl
theorem pt_back {p q : Pt} (h : { q with flow := p.flow } = p) : q = { p with flow := q.flow } := by
  cases q; cases p
  simp only [Pt.mk.injEq] at h ⊢
  simp [h]
theorem pad_sl {w : World} {base m n : Nat} {e : TypeId} {v : Value} {pay : List Int} (h : w.ownsRow base e 1 v m (([(n : Int)] ++ pay ++ List.replicate n 0).map (Value.int .u8))) (hf : Fit .u8 pay) (hn : n < 256) (hl : pay.length ≤ 500) :
    Sl .u8 w v ((n : Int) :: pay ++ List.replicate n 0) := by
  refine Sl.of_own h ?_ ?_
  · intro x hx
    simp only [List.cons_append, List.mem_cons, List.mem_append, List.mem_replicate] at hx
    rcases hx with rfl | hx | ⟨_, rfl⟩
    · exact WalkArith.wf_u8 (by omega)
    · exact hf x hx
    · decide
  · simp
    unfold maxLen
    omega
set_option maxHeartbeats 8000000 in
/-- kind 0, without the flag -/
theorem padded11_a0 (v : Value) (flags stream : Int) (pay : List Int) (n : Nat) (w : World) (h : FrV w v ⟨0, flags, stream, pay⟩) (hn : n < 256) (hlen : pay.length ≤ 500) (h0 : 0 ≤ flags) (h1 : flags + 8 ≤ 263) (h1' : flags ≤ 255) (h8 : ¬ flags / 8 % 2 = 1) :
    Calls Try.prog 3 #[v, .int .u8 (n : Int)] w fun e w' => e = .returned (.bool true) ∧ Below w.heap.size w w' := by
  obtain ⟨pv, rfl, hp⟩ := h
  simp only at hp ⊢
  obtain ⟨ap, cp, rfl, hcp, _⟩ := id hp
  obtain ⟨N, hN⟩ : ∃ N, N = pay.length := ⟨_, rfl⟩
  rw [← hN] at hp hlen hcp ⊢
  have hal := (Below.refl w.heap.size w).alloc (Nat.le_refl _) (.cells #[.int .i64 0, .int .i64 flags, .int .i64 stream, .slice ap N cp] 25)
  have HB := Lib.hid hal
  have hbx := Bx.new w 25 ⟨0, flags, stream, pay⟩ (.slice ap N cp)
  have hby := Bx.new w 25 ⟨0, flags, stream, pay⟩ (.slice ap N cp)
  have c0 := hby.c0
  have c1 := hby.c1
  have c3 := hby.c3
  have hsz := hby.lt
  simp only at c0 c1 c3 hsz
  have HP := Lib.hid hp
  have HX := Lib.hid hbx
  clear hal hp hbx hby
  have HN := Lib.hid hN
  clear hN
  have g1 : decide ((500 : Int) < (N : Int)) = false := by simp; omega
  have g2 : decide (flags < 0) = false := by simp; omega
  have g3 : decide ((255 : Int) < flags) = false := by simp; omega
  have ht1 : (flags).tdiv 8 = (flags) / 8 := Int.tdiv_eq_ediv_of_nonneg (by omega)
  have ht2 : ((flags) / 8).tmod 2 = (flags) / 8 % 2 := Int.tmod_eq_emod_of_nonneg (by omega)
  have g5 : ((flags) / 8 % 2 == 1) = false := by simp; omega
  have HW2 : Below w.heap.size w ((w.alloc (.cells #[.int .i64 0, .int .i64 flags, .int .i64 stream, .slice ap N cp] 25)).alloc (.cells #[.int .i64 0, .int .i64 (flags + 8), .int .i64 stream, .slice ap N cp] 25)) := HB.out.trans ((Below.refl _ _).alloc (by simp) (.cells #[.int .i64 0, .int .i64 (flags + 8), .int .i64 stream, .slice ap N cp] 25))
  have HW3 := Lib.hid (HW2.trans ((Below.refl _ _).alloc (by simp; omega) (.cells #[.int .u8 (n : Int)] 5)))
  have hO0 : (((w.alloc (.cells #[.int .i64 0, .int .i64 flags, .int .i64 stream, .slice ap N cp] 25)).alloc (.cells #[.int .i64 0, .int .i64 (flags + 8), .int .i64 stream, .slice ap N cp] 25)).alloc (.cells #[.int .u8 (n : Int)] 5)).ownsRow (w.heap.size + 1 + 1) 5 1 (.slice (some ⟨w.heap.size + 1 + 1, 0, none⟩) 1 1) 1 ([(n : Int)].map (Value.int .u8)) := by
    have h := World.ownsRow_lit (size := 1) (base := w.heap.size + 1 + 1) (e := 5) ((w.alloc (.cells #[.int .i64 0, .int .i64 flags, .int .i64 stream, .slice ap N cp] 25)).alloc (.cells #[.int .i64 0, .int .i64 (flags + 8), .int .i64 stream, .slice ap N cp] 25)) #[.int .u8 (n : Int)] 1 (by simp) (by unfold maxLen; omega) (by simp)
    simpa using h
  have hP3 := HP.out.below HW3.out
  have HG : Hid (Bx ((w.alloc (.cells #[.int .i64 0, .int .i64 flags, .int .i64 stream, .slice ap N cp] 25)).alloc (.cells #[.int .i64 0, .int .i64 (flags + 8), .int .i64 stream, .slice ap N cp] 25)) (w.heap.size + 1) 25 ⟨0, flags + 8, stream, pay⟩ (.slice ap N cp)) := Lib.hid (by
    have h := Bx.new (w.alloc (.cells #[.int .i64 0, .int .i64 flags, .int .i64 stream, .slice ap N cp] 25)) 25 ⟨0, flags + 8, stream, pay⟩ (.slice ap N cp)
    simpa using h)
  have HF := Lib.hid (HX.out.below ((Below.refl _ _).alloc (Nat.le_refl _) (.cells #[.int .i64 0, .int .i64 (flags + 8), .int .i64 stream, .slice ap N cp] 25)))
  have HL1 := Lib.hid (show [(n : Int)].length + pay.length ≤ 501 by have := HN.out; simp; omega)
  have HW2' : Hid (Below (w.heap.size + 1 + 1) ((w.alloc (.cells #[.int .i64 0, .int .i64 flags, .int .i64 stream, .slice ap N cp] 25)).alloc (.cells #[.int .i64 0, .int .i64 (flags + 8), .int .i64 stream, .slice ap N cp] 25)) (((w.alloc (.cells #[.int .i64 0, .int .i64 flags, .int .i64 stream, .slice ap N cp] 25)).alloc (.cells #[.int .i64 0, .int .i64 (flags + 8), .int .i64 stream, .slice ap N cp] 25)).alloc (.cells #[.int .u8 (n : Int)] 5))) := Lib.hid ((Below.refl _ _).alloc (by simp) _)
  have HW2h := Lib.hid HW2
  clear HW2
  obtain ⟨fr, hfr⟩ : ∃ fr, fr = (⟨0, flags, stream, pay⟩ : Fr) := ⟨_, rfl⟩
  have HFR := Lib.hid hfr
  have HLF := Lib.hid (show fr.pay.length ≤ 500 by rw [hfr]; simp only; have := HN.out; omega)
  have HPS := Lib.hid (pad_same (f := fr) (n := n) (by rw [hfr]; simp) (by rw [hfr]; exact h0) (by rw [hfr]; show flags ≤ 255; omega) (by rw [hfr]; exact h8) HLF.out (by omega))
  have HRP := Lib.hid (readF_pairs (f := fr) (by rw [hfr]; simp))
  clear hfr
  go_enter Try.func3, Try.ntmps3
  go_wp2_with (first
    | (at_builtin; refine app_ints rfl (.tmp 53) (.tmp 55) 23 rfl (w.heap.size + 1 + 1) 5 .u8 1 Try.underlying23 Try.info5' _ 1 [(n : Int)] rfl hO0 _ pay rfl hP3 (by have := HL1.out; omega) (by have := HL1.out; unfold maxLen; omega) (by simp) ?_; intro v1 w1 own1 hb1 hg1; obtain ⟨g1, cap1, rfl, hge1, hlt1⟩ := World.ownsRow.form own1 (by simp; omega); have HB1 := Lib.hid (Below.trans (HW2'.out) hb1); have hsz1 := hb1.size; clear hO0 hP3 hb1 hg1)
    | (at_builtin; refine app_zeros rfl (.tmp 56) (.tmp 58) 23 3 rfl (w.heap.size + 1 + 1) 5 Try.underlying23 Try.underlying3 Try.info5' g1 _ cap1 _ rfl n rfl own1 (by have := HL1.out; omega) (by (try simp at hsz1); omega) ?_; intro v2 w2 own2 hg2; obtain ⟨p2, cap2, rfl, hge2, hlt2⟩ := World.ownsRow.form own2 (by (try simp); omega); have hs5 : w.heap.size + 1 + 1 ≤ w1.heap.size := (by (try simp at hsz1); omega); have G2 := HG.out.kept2 HB1.out hg2 hge1 hs5 (by omega); have F2 := HF.out.kept2 HB1.out hg2 hge1 hs5 (by omega); have e3 := G2.c3; have fz := blk_free (j := 3) G2; have d0 := F2.c0; have d1 := F2.c1; have d2 := F2.c2; have d3 := F2.c3; have s2 := G2.lt; have s3 := F2.lt; have HF2 := Lib.hid F2; have HG2 := Lib.hid G2; have HO2 := Lib.hid own2; have HB2 := Lib.hid (HB1.out.grown hg2 hs5 (fun k hk => by cases hk; exact hge1)); clear F2 G2 own1 hg2 own2))
  have G3 := Lib.hid (HG2.out.s3' (.slice (some ⟨p2, 0, none⟩) (1 + pay.length + n) cap2))
  have F3 : Hid (Bx _ w.heap.size 25 ⟨_, flags, stream, pay⟩ (.slice ap N cp)) := Lib.hid ((Below.heap_setCell w2 ⟨w.heap.size + 1, 3, none⟩ (.slice (some ⟨p2, 0, none⟩) (1 + pay.length + n) cap2) w.heap.size (by simp)).trans HF2.out)
  have O3 := ownsRow_setCell_below HO2.out (a := ⟨w.heap.size + 1, 3, none⟩) (by simp) (.slice (some ⟨p2, 0, none⟩) (1 + pay.length + n) cap2)
  have B3 := Lib.hid ((HW2h.out.trans (HB2.out.mono (by omega))).setCell (p := ⟨w.heap.size + 1, 3, none⟩) (by simp) (.slice (some ⟨p2, 0, none⟩) (1 + pay.length + n) cap2))
  have S3 := Lib.hid (pad_sl O3 HP.out.fit (by omega) (by have := HN.out; omega))
  clear O3 HG2 HF2 HO2 HB2 HW2h e3 fz d0 d1 d2 d3 s2 s3 HB1 hsz1 hs5 HW2' HF HG HW3 HB HX c0 c1 c3 hsz HL1
  generalize World.setCell w2 _ _ = w3 at *
  have hp3 : Sl .u8 w3 (.slice ap N cp) pay := HP.out.below B3.out
  have d0 := F3.out.c0
  have d1 := F3.out.c1
  have d2 := F3.out.c2
  have d3 := F3.out.c3
  have s3 := F3.out.lt
  refine (pRead_any _ fr _ (by rw [HFR.out]; exact ⟨_, rfl, hp3⟩) (by have := HLF.out; omega)).mono ?_
  rintro e w4 ⟨pv1, rfl, hv1, hb4⟩
  obtain ⟨r1, hr1⟩ : ∃ r, readF fr = r := ⟨_, rfl⟩
  rw [hr1] at hv1 ⊢
  have HR1 := Lib.hid hr1
  clear hr1 d0 d1 d2 d3 s3 hp3
  obtain ⟨bu1, pu1, rfl, hbu1, hpu1⟩ := id hv1
  obtain ⟨ab1, cb1, rfl, _⟩ := id hbu1
  obtain ⟨ap1, cp1, rfl, _, _⟩ := hpu1.shape
  obtain ⟨nb1, hnb1⟩ : ∃ k, k = r1.1.bytes.length := ⟨_, rfl⟩
  obtain ⟨np1, hnp1⟩ : ∃ k, k = r1.1.pairs.length := ⟨_, rfl⟩
  rw [← hnb1, ← hnp1] at hv1 ⊢
  have HNB1 := Lib.hid hnb1
  have HNP1 := Lib.hid hnp1
  clear hnb1 hnp1
  have HV1 := Lib.hid hv1
  have G4 := Lib.hid (G3.out.below hb4)
  have F4 := Lib.hid (Bx.below F3.out hb4)
  have S4 := Lib.hid (S3.out.below hb4)
  have B4 := Lib.hid (B3.out.trans (hb4.mono B3.out.size))
  clear hv1 hbu1 hpu1 G3 F3 S3 B3 hb4
  have hA := (Below.refl w4.heap.size w4).alloc (Nat.le_refl _) (.cells #[.slice ab1 nb1 cb1, .slice ap1 np1 cp1, .int .i64 r1.1.code, .int .i64 r1.1.last, .int .i64 r1.1.add, .int .i64 r1.1.flow, .bool r1.1.fin, .bool r1.1.whole, .bool r1.1.acked] 29)
  have hA2 := hA.alloc (by simp) (.cells #[.int .i64 r1.2.1.1, .int .i64 r1.2.1.2] 32)
  have S5 := S4.out.below hA2
  have hG5 := Bx.below G4.out hA2
  have d0 := hG5.c0
  have d1 := hG5.c1
  have d2 := hG5.c2
  have d3 := hG5.c3
  have s3 := G4.out.lt
  clear hG5
  simp only at d0 d1 d2 d3
  have HA2 := Lib.hid hA2
  clear hA hA2
  go_wp2_with fail
  refine (pRead_any _ (padF fr n) _ (by rw [HFR.out]; exact ⟨_, rfl, S5⟩) (by have := HLF.out; simp [padF]; omega)).mono ?_
  rintro e w6 ⟨pv2, rfl, hv2, hb6⟩
  obtain ⟨q1, q2, q3⟩ := HPS.out
  rw [HR1.out] at q1 q2 q3
  obtain ⟨fl2, hfl⟩ : ∃ z, z = (readF (padF fr n)).1.flow := ⟨_, rfl⟩
  have e2 : readF (padF fr n) = ({ r1.1 with flow := fl2 }, r1.2) := by rw [hfl]; exact Prod.ext (pt_back q2) q1
  rw [e2] at hv2 q3 ⊢
  have HPL : Hid (r1.1.pairs.length ≤ 1000000) := Lib.hid (by rw [← HR1.out, HRP.out]; simp)
  clear e2 hfl q1 q2 HPS HR1 HRP d0 d1 d2 d3 s3 S5
  simp only at hv2 q3 ⊢
  obtain ⟨bu2, pu2, rfl, hbu2, hpu2⟩ := id hv2
  obtain ⟨ab2, cb2, rfl, _⟩ := id hbu2
  obtain ⟨ap2, cp2, rfl, _, _⟩ := hpu2.shape
  simp only at hv2 ⊢
  rw [← HNB1.out, ← HNP1.out] at hv2 ⊢
  have HV2 := Lib.hid hv2
  clear hv2 hbu2 hpu2
  have hP4 : PtsAt (w4.alloc (.cells #[.slice ab1 nb1 cb1, .slice ap1 np1 cp1, .int .i64 r1.1.code, .int .i64 r1.1.last, .int .i64 r1.1.add, .int .i64 r1.1.flow, .bool r1.1.fin, .bool r1.1.whole, .bool r1.1.acked] 29)) 29 w4.heap.size (.slice ab1 nb1 cb1) (.slice ap1 np1 cp1) r1.1 := PtsAt.new w4 _ _ _ _
  have hQ4 := heap_alloc_new (w4.alloc (.cells #[.slice ab1 nb1 cb1, .slice ap1 np1 cp1, .int .i64 r1.1.code, .int .i64 r1.1.last, .int .i64 r1.1.add, .int .i64 r1.1.flow, .bool r1.1.fin, .bool r1.1.whole, .bool r1.1.acked] 29)) (.cells #[.int .i64 r1.2.1.1, .int .i64 r1.2.1.2] 32)
  have hsz4 : (w4.alloc (.cells #[.slice ab1 nb1 cb1, .slice ap1 np1 cp1, .int .i64 r1.1.code, .int .i64 r1.1.last, .int .i64 r1.1.add, .int .i64 r1.1.flow, .bool r1.1.fin, .bool r1.1.whole, .bool r1.1.acked] 29)).heap.size = w4.heap.size + 1 := by simp
  rw [hsz4] at hQ4
  clear hsz4
  have hP6 := Lib.hid ((hP4.grown ((Below.refl _ _).alloc (Nat.le_refl _) (.cells #[.int .i64 r1.2.1.1, .int .i64 r1.2.1.2] 32))).grown hb6)
  have hQ6 := Lib.hid ((hb6.block _ (Array.getElem?_eq_some_iff.1 hQ4).1).trans hQ4)
  have hG6 := Lib.hid ((Bx.below G4.out HA2.out).below hb6)
  have hF6 := Lib.hid ((Bx.below F4.out HA2.out).below hb6)
  have HV6 := Lib.hid ((HV1.out.below HA2.out).below hb6)
  have B6 := Lib.hid (B4.out.trans ((HA2.out.trans (hb6.mono HA2.out.size)).mono B4.out.size))
  clear hP4 hQ4 hb6 HV1 HA2 G4 F4 S4 B4
  have hA7 := ((Below.refl w6.heap.size w6).alloc (Nat.le_refl _) (.cells #[.slice ab2 nb1 cb2, .slice ap2 np1 cp2, .int .i64 r1.1.code, .int .i64 r1.1.last, .int .i64 r1.1.add, .int .i64 fl2, .bool r1.1.fin, .bool r1.1.whole, .bool r1.1.acked] 29)).alloc (by simp) (.cells #[.int .i64 r1.2.1.1, .int .i64 r1.2.1.2] 32)
  obtain ⟨_, _, _, _, _, k5, _⟩ := (hP6.out.grown hA7).cs
  have hG7 := Bx.below hG6.out hA7
  have hF7 := Bx.below hF6.out hA7
  have d3 := hG7.c3
  have f0 := hF7.c0
  have f3 := hF7.c3
  simp only at d3 f0 f3
  clear hG7 hF7 hA7
  have L1 := hP6.out.lt
  have L2 := hG6.out.lt
  have L3 := hF6.out.lt
  have hA8 := ((Below.refl w6.heap.size w6).alloc (Nat.le_refl _) (.cells #[.slice ab2 nb1 cb2, .slice ap2 np1 cp2, .int .i64 r1.1.code, .int .i64 r1.1.last, .int .i64 r1.1.add, .int .i64 r1.1.flow, .bool r1.1.fin, .bool r1.1.whole, .bool r1.1.acked] 29)).alloc (by simp) (.cells #[.int .i64 r1.2.1.1, .int .i64 r1.2.1.2] 32)
  have HPa := Lib.hid (hP6.out.grown hA8)
  have hPb : PtsAt (w6.alloc (.cells #[.slice ab2 nb1 cb2, .slice ap2 np1 cp2, .int .i64 r1.1.code, .int .i64 r1.1.last, .int .i64 r1.1.add, .int .i64 r1.1.flow, .bool r1.1.fin, .bool r1.1.whole, .bool r1.1.acked] 29)) 29 w6.heap.size (.slice ab2 nb1 cb2) (.slice ap2 np1 cp2) r1.1 := PtsAt.new w6 _ _ _ _
  have HPb := Lib.hid (hPb.grown ((Below.refl _ _).alloc (Nat.le_refl _) (.cells #[.int .i64 r1.2.1.1, .int .i64 r1.2.1.2] 32)))
  have HVa := Lib.hid (HV6.out.below hA8)
  have HVb : Hid (PtV ((w6.alloc (.cells #[.slice ab2 nb1 cb2, .slice ap2 np1 cp2, .int .i64 r1.1.code, .int .i64 r1.1.last, .int .i64 r1.1.add, .int .i64 r1.1.flow, .bool r1.1.fin, .bool r1.1.whole, .bool r1.1.acked] 29)).alloc (.cells #[.int .i64 r1.2.1.1, .int .i64 r1.2.1.2] 32)) (.agg #[.slice ab2 nb1 cb2, .slice ap2 np1 cp2, .int .i64 r1.1.code, .int .i64 r1.1.last, .int .i64 r1.1.add, .int .i64 r1.1.flow, .bool r1.1.fin, .bool r1.1.whole, .bool r1.1.acked]) r1.1) := Lib.hid (by
    obtain ⟨_, _, e, h1, h2⟩ := HV2.out.below hA8
    simp only [Value.agg.injEq, Array.mk.injEq, List.cons.injEq] at e
    obtain ⟨rfl, rfl, _⟩ := e
    exact ⟨_, _, rfl, h1, h2⟩)
  have hQ7 := heap_alloc_new (w6.alloc (.cells #[.slice ab2 nb1 cb2, .slice ap2 np1 cp2, .int .i64 r1.1.code, .int .i64 r1.1.last, .int .i64 r1.1.add, .int .i64 r1.1.flow, .bool r1.1.fin, .bool r1.1.whole, .bool r1.1.acked] 29)) (.cells #[.int .i64 r1.2.1.1, .int .i64 r1.2.1.2] 32)
  have hsz6 : (w6.alloc (.cells #[.slice ab2 nb1 cb2, .slice ap2 np1 cp2, .int .i64 r1.1.code, .int .i64 r1.1.last, .int .i64 r1.1.add, .int .i64 r1.1.flow, .bool r1.1.fin, .bool r1.1.whole, .bool r1.1.acked] 29)).heap.size = w6.heap.size + 1 := by simp
  rw [hsz6] at hQ7
  have HQa := Lib.hid ((hA8.block _ (Array.getElem?_eq_some_iff.1 hQ6.out).1).trans hQ6.out)
  have HQb := Lib.hid hQ7
  have B8 := Lib.hid (B6.out.trans (hA8.mono B6.out.size))
  clear hA8 hPb hQ7 hsz6 hQ6 HV6 HV2 hP6 hG6 hF6
  obtain ⟨rb, hrb⟩ : ∃ b, r1.2.2 = b := ⟨_, rfl⟩
  rw [hrb] at q3 ⊢
  cases rb
  · clear q3
    go_wp2_with fail
    refine wp_region_table 5 [98, 99, 100, 101, 102] [[], [(0, 98)], [], [(2, 100)], [(1, 99), (3, 101)]]
      (fun i v w' => match i with
        | 0 => v = .agg #[.slice ab1 nb1 cb1, .slice ap1 np1 cp1, .int .i64 r1.1.code, .int .i64 r1.1.last, .int .i64 r1.1.add, .int .i64 r1.1.flow, .bool r1.1.fin, .bool r1.1.whole, .bool r1.1.acked]
        | 1 => PtV w' v r1.1
        | 2 => v = .agg #[.slice ab2 nb1 cb2, .slice ap2 np1 cp2, .int .i64 r1.1.code, .int .i64 r1.1.last, .int .i64 r1.1.add, .int .i64 r1.1.flow, .bool r1.1.fin, .bool r1.1.whole, .bool r1.1.acked]
        | 3 => PtV w' v r1.1
        | 4 => v = .bool true
        | _ => True) (by kernel_rfl) (by kernel_rfl) ?tStab ?tOps ?tRest
    case tStab =>
      intro i v w3 w4 h hb
      match i, h with
      | 0, h | 2, h | 4, h => exact h
      | 1, h => exact h.below hb
      | 3, h => exact h.below hb
      | i + 5, _ => trivial
    case tOps =>
      simp only [List.take_succ_cons, List.take_zero, opsOk]
      refine ⟨?_, ?_, ?_, ?_, ?_, trivial⟩
      · intro ρ w3 hc hf ho hB hj
        have x0 : ρ (.tmp 6) = .pointer (some ⟨w4.heap.size, 0, none⟩) := ho 6 (by decide)
        obtain ⟨c0, c1, c2, c3, c4, c5, c6, c7, c8⟩ := (HPa.out.grown hB).cs
        simp [gives, go_sem, x0, c0, c1, c2, c3, c4, c5, c6, c7, c8, Below.refl]
      · intro ρ w3 hc hf ho hB hj
        have x0 : ρ (.tmp 98) = .agg #[.slice ab1 nb1 cb1, .slice ap1 np1 cp1, .int .i64 r1.1.code, .int .i64 r1.1.last, .int .i64 r1.1.add, .int .i64 r1.1.flow, .bool r1.1.fin, .bool r1.1.whole, .bool r1.1.acked] := hj (0, 98) (by simp)
        simp [gives, go_sem, x0, hf]
        refine (of11_any _ r1.1 _ (HVa.out.below hB) HPL.out).mono ?_
        rintro e w9 ⟨v9, rfl, hv9, hb9⟩
        exact ⟨_, rfl, hv9, hb9⟩
      · intro ρ w3 hc hf ho hB hj
        have x0 : ρ (.tmp 9) = .pointer (some ⟨w6.heap.size, 0, none⟩) := ho 9 (by decide)
        obtain ⟨c0, c1, c2, c3, c4, c5, c6, c7, c8⟩ := (HPb.out.grown hB).cs
        simp [gives, go_sem, x0, c0, c1, c2, c3, c4, c5, c6, c7, c8, Below.refl]
      · intro ρ w3 hc hf ho hB hj
        have x0 : ρ (.tmp 100) = .agg #[.slice ab2 nb1 cb2, .slice ap2 np1 cp2, .int .i64 r1.1.code, .int .i64 r1.1.last, .int .i64 r1.1.add, .int .i64 r1.1.flow, .bool r1.1.fin, .bool r1.1.whole, .bool r1.1.acked] := hj (2, 100) (by simp)
        simp [gives, go_sem, x0, hf]
        refine (of11_any _ r1.1 _ (HVb.out.below hB) HPL.out).mono ?_
        rintro e w9 ⟨v9, rfl, hv9, hb9⟩
        exact ⟨_, rfl, hv9, hb9⟩
      · intro ρ w3 hc hf ho hB hj
        have x0 : PtV w3 (ρ (.tmp 99)) r1.1 := hj (1, 99) (by simp)
        have x1 : PtV w3 (ρ (.tmp 101)) r1.1 := hj (3, 101) (by simp)
        simp [gives, go_sem, hf]
        refine (refSame11_eq _ _ r1.1 _ x0 x1).mono ?_
        rintro e w9 ⟨rfl, hb9⟩
        exact ⟨_, rfl, rfl, hb9⟩
    case tRest =>
      intro X w3 hBw hX
      have x0 : X 0 = .agg #[.slice ab1 nb1 cb1, .slice ap1 np1 cp1, .int .i64 r1.1.code, .int .i64 r1.1.last, .int .i64 r1.1.add, .int .i64 r1.1.flow, .bool r1.1.fin, .bool r1.1.whole, .bool r1.1.acked] := hX 0 (by decide)
      have x1 := hX 1 (by decide)
      have x2 : X 2 = .agg #[.slice ab2 nb1 cb2, .slice ap2 np1 cp2, .int .i64 r1.1.code, .int .i64 r1.1.last, .int .i64 r1.1.add, .int .i64 r1.1.flow, .bool r1.1.fin, .bool r1.1.whole, .bool r1.1.acked] := hX 2 (by decide)
      have x3 := hX 3 (by decide)
      have x4 : X 4 = .bool true := hX 4 (by decide)
      simp only [putAll, List.getD_cons_zero, List.getD_cons_succ, Act.put, List.setIfInBounds_toArray, List.set_cons_zero, List.set_cons_succ, List.drop_succ_cons, List.drop_zero]
      rw [x0, x2, x4]
      clear x0 x1 x2 x3 x4 hX
      have HB9 := Lib.hid (B8.out.trans (hBw.mono B8.out.size))
      have k1 := (hBw.block _ (Array.getElem?_eq_some_iff.1 HQa.out).1).trans HQa.out
      have k2 := (hBw.block _ (Array.getElem?_eq_some_iff.1 HQb.out).1).trans HQb.out
      clear hBw
      go_wp2_with fail
      refine (alive11 _).mono ?_
      rintro e w9 ⟨rfl, hb9⟩
      have u1 := (hb9.block _ (Array.getElem?_eq_some_iff.1 k1).1).trans k1
      have u2 := (hb9.block _ (Array.getElem?_eq_some_iff.1 k2).1).trans k2
      have v1 := blk_cell (j := 0) u1 rfl
      have v2 := blk_cell (j := 1) u1 rfl
      have v3 := blk_cell (j := 0) u2 rfl
      have v4 := blk_cell (j := 1) u2 rfl
      have HBa := Lib.hid (HB9.out.trans (hb9.mono HB9.out.size))
      clear u1 u2 k1 k2 hb9
      go_wp2_with fail
      go_ret
      exact ⟨rfl, HBa.out⟩
  · obtain ⟨t1, t2⟩ := q3 rfl (by rw [HFR.out])
    have t3 : r1.1.flow = (N : Int) := by rw [t1, HFR.out, HN.out]
    have t4 : fl2 = ((1 + pay.length + n : Nat) : Int) := by rw [t2, HFR.out]; simp [padF]; omega
    clear t1 t2 q3
    have g6 : (r1.1.flow != (N : Int)) = false := by rw [t3]; simp
    have g7 : (fl2 != ((1 + pay.length + n : Nat) : Int)) = false := by rw [t4]; simp
    have g8 : (r1.1.flow == (N : Int)) = true := by rw [t3]; simp
    have g9 : (fl2 == ((1 + pay.length + n : Nat) : Int)) = true := by rw [t4]; simp
    clear t3 t4
    go_wp2_with fail
    refine wp_region_table 5 [98, 99, 100, 101, 102] [[], [(0, 98)], [], [(2, 100)], [(1, 99), (3, 101)]]
      (fun i v w' => match i with
        | 0 => v = .agg #[.slice ab1 nb1 cb1, .slice ap1 np1 cp1, .int .i64 r1.1.code, .int .i64 r1.1.last, .int .i64 r1.1.add, .int .i64 r1.1.flow, .bool r1.1.fin, .bool r1.1.whole, .bool r1.1.acked]
        | 1 => PtV w' v r1.1
        | 2 => v = .agg #[.slice ab2 nb1 cb2, .slice ap2 np1 cp2, .int .i64 r1.1.code, .int .i64 r1.1.last, .int .i64 r1.1.add, .int .i64 r1.1.flow, .bool r1.1.fin, .bool r1.1.whole, .bool r1.1.acked]
        | 3 => PtV w' v r1.1
        | 4 => v = .bool true
        | _ => True) (by kernel_rfl) (by kernel_rfl) ?tStab ?tOps ?tRest
    case tStab =>
      intro i v w3 w4 h hb
      match i, h with
      | 0, h | 2, h | 4, h => exact h
      | 1, h => exact h.below hb
      | 3, h => exact h.below hb
      | i + 5, _ => trivial
    case tOps =>
      simp only [List.take_succ_cons, List.take_zero, opsOk]
      refine ⟨?_, ?_, ?_, ?_, ?_, trivial⟩
      · intro ρ w3 hc hf ho hB hj
        have x0 : ρ (.tmp 6) = .pointer (some ⟨w4.heap.size, 0, none⟩) := ho 6 (by decide)
        obtain ⟨c0, c1, c2, c3, c4, c5, c6, c7, c8⟩ := (HPa.out.grown hB).cs
        simp [gives, go_sem, x0, c0, c1, c2, c3, c4, c5, c6, c7, c8, Below.refl]
      · intro ρ w3 hc hf ho hB hj
        have x0 : ρ (.tmp 98) = .agg #[.slice ab1 nb1 cb1, .slice ap1 np1 cp1, .int .i64 r1.1.code, .int .i64 r1.1.last, .int .i64 r1.1.add, .int .i64 r1.1.flow, .bool r1.1.fin, .bool r1.1.whole, .bool r1.1.acked] := hj (0, 98) (by simp)
        simp [gives, go_sem, x0, hf]
        refine (of11_any _ r1.1 _ (HVa.out.below hB) HPL.out).mono ?_
        rintro e w9 ⟨v9, rfl, hv9, hb9⟩
        exact ⟨_, rfl, hv9, hb9⟩
      · intro ρ w3 hc hf ho hB hj
        have x0 : ρ (.tmp 9) = .pointer (some ⟨w6.heap.size, 0, none⟩) := ho 9 (by decide)
        obtain ⟨c0, c1, c2, c3, c4, c5, c6, c7, c8⟩ := (HPb.out.grown hB).cs
        simp [gives, go_sem, x0, c0, c1, c2, c3, c4, c5, c6, c7, c8, Below.refl]
      · intro ρ w3 hc hf ho hB hj
        have x0 : ρ (.tmp 100) = .agg #[.slice ab2 nb1 cb2, .slice ap2 np1 cp2, .int .i64 r1.1.code, .int .i64 r1.1.last, .int .i64 r1.1.add, .int .i64 r1.1.flow, .bool r1.1.fin, .bool r1.1.whole, .bool r1.1.acked] := hj (2, 100) (by simp)
        simp [gives, go_sem, x0, hf]
        refine (of11_any _ r1.1 _ (HVb.out.below hB) HPL.out).mono ?_
        rintro e w9 ⟨v9, rfl, hv9, hb9⟩
        exact ⟨_, rfl, hv9, hb9⟩
      · intro ρ w3 hc hf ho hB hj
        have x0 : PtV w3 (ρ (.tmp 99)) r1.1 := hj (1, 99) (by simp)
        have x1 : PtV w3 (ρ (.tmp 101)) r1.1 := hj (3, 101) (by simp)
        simp [gives, go_sem, hf]
        refine (refSame11_eq _ _ r1.1 _ x0 x1).mono ?_
        rintro e w9 ⟨rfl, hb9⟩
        exact ⟨_, rfl, rfl, hb9⟩
    case tRest =>
      intro X w3 hBw hX
      have x0 : X 0 = .agg #[.slice ab1 nb1 cb1, .slice ap1 np1 cp1, .int .i64 r1.1.code, .int .i64 r1.1.last, .int .i64 r1.1.add, .int .i64 r1.1.flow, .bool r1.1.fin, .bool r1.1.whole, .bool r1.1.acked] := hX 0 (by decide)
      have x1 := hX 1 (by decide)
      have x2 : X 2 = .agg #[.slice ab2 nb1 cb2, .slice ap2 np1 cp2, .int .i64 r1.1.code, .int .i64 r1.1.last, .int .i64 r1.1.add, .int .i64 r1.1.flow, .bool r1.1.fin, .bool r1.1.whole, .bool r1.1.acked] := hX 2 (by decide)
      have x3 := hX 3 (by decide)
      have x4 : X 4 = .bool true := hX 4 (by decide)
      simp only [putAll, List.getD_cons_zero, List.getD_cons_succ, Act.put, List.setIfInBounds_toArray, List.set_cons_zero, List.set_cons_succ, List.drop_succ_cons, List.drop_zero]
      rw [x0, x2, x4]
      clear x0 x1 x2 x3 x4 hX
      have HB9 := Lib.hid (B8.out.trans (hBw.mono B8.out.size))
      have k1 := (hBw.block _ (Array.getElem?_eq_some_iff.1 HQa.out).1).trans HQa.out
      have k2 := (hBw.block _ (Array.getElem?_eq_some_iff.1 HQb.out).1).trans HQb.out
      clear hBw
      go_wp2_with fail
      refine (alive11 _).mono ?_
      rintro e w9 ⟨rfl, hb9⟩
      have u1 := (hb9.block _ (Array.getElem?_eq_some_iff.1 k1).1).trans k1
      have u2 := (hb9.block _ (Array.getElem?_eq_some_iff.1 k2).1).trans k2
      have v1 := blk_cell (j := 0) u1 rfl
      have v2 := blk_cell (j := 1) u1 rfl
      have v3 := blk_cell (j := 0) u2 rfl
      have v4 := blk_cell (j := 1) u2 rfl
      have HBa := Lib.hid (HB9.out.trans (hb9.mono HB9.out.size))
      clear u1 u2 k1 k2 hb9
      go_wp2_with fail
      go_ret
      exact ⟨rfl, HBa.out⟩
set_option maxHeartbeats 8000000 in
/-- kind 0, with the flag -/
theorem padded11_b0 (v : Value) (flags stream : Int) (pay : List Int) (n : Nat) (w : World) (h : FrV w v ⟨0, (flags + 8), stream, pay⟩) (hn : n < 256) (hlen : pay.length ≤ 500) (h0 : 0 ≤ flags) (h1 : flags + 8 ≤ 263) (h1' : (flags + 8) ≤ 255) (h8 : ¬ flags / 8 % 2 = 1) :
    Calls Try.prog 3 #[v, .int .u8 (n : Int)] w fun e w' => e = .returned (.bool true) ∧ Below w.heap.size w w' := by
  obtain ⟨pv, rfl, hp⟩ := h
  simp only at hp ⊢
  obtain ⟨ap, cp, rfl, hcp, _⟩ := id hp
  obtain ⟨N, hN⟩ : ∃ N, N = pay.length := ⟨_, rfl⟩
  rw [← hN] at hp hlen hcp ⊢
  have hal := (Below.refl w.heap.size w).alloc (Nat.le_refl _) (.cells #[.int .i64 0, .int .i64 flags, .int .i64 stream, .slice ap N cp] 25)
  have HB := Lib.hid hal
  have hbx := Bx.new w 25 ⟨0, flags, stream, pay⟩ (.slice ap N cp)
  have hby := Bx.new w 25 ⟨0, (flags + 8), stream, pay⟩ (.slice ap N cp)
  have c0 := hby.c0
  have c1 := hby.c1
  have c3 := hby.c3
  have hsz := hby.lt
  simp only at c0 c1 c3 hsz
  have HP := Lib.hid hp
  have HX := Lib.hid hbx
  clear hal hp hbx hby
  have HN := Lib.hid hN
  clear hN
  have g1 : decide ((500 : Int) < (N : Int)) = false := by simp; omega
  have g2 : decide ((flags + 8) < 0) = false := by simp; omega
  have g3 : decide ((255 : Int) < (flags + 8)) = false := by simp; omega
  have ht1 : ((flags + 8)).tdiv 8 = ((flags + 8)) / 8 := Int.tdiv_eq_ediv_of_nonneg (by omega)
  have ht2 : (((flags + 8)) / 8).tmod 2 = ((flags + 8)) / 8 % 2 := Int.tmod_eq_emod_of_nonneg (by omega)
  have g5 : (((flags + 8)) / 8 % 2 == 1) = true := by simp; omega
  have HW2 : Below w.heap.size w ((w.alloc (.cells #[.int .i64 0, .int .i64 flags, .int .i64 stream, .slice ap N cp] 25)).alloc (.cells #[.int .i64 0, .int .i64 (flags + 8), .int .i64 stream, .slice ap N cp] 25)) := HB.out.trans ((Below.refl _ _).alloc (by simp) (.cells #[.int .i64 0, .int .i64 (flags + 8), .int .i64 stream, .slice ap N cp] 25))
  have HW3 := Lib.hid (HW2.trans ((Below.refl _ _).alloc (by simp; omega) (.cells #[.int .u8 (n : Int)] 5)))
  have hO0 : (((w.alloc (.cells #[.int .i64 0, .int .i64 flags, .int .i64 stream, .slice ap N cp] 25)).alloc (.cells #[.int .i64 0, .int .i64 (flags + 8), .int .i64 stream, .slice ap N cp] 25)).alloc (.cells #[.int .u8 (n : Int)] 5)).ownsRow (w.heap.size + 1 + 1) 5 1 (.slice (some ⟨w.heap.size + 1 + 1, 0, none⟩) 1 1) 1 ([(n : Int)].map (Value.int .u8)) := by
    have h := World.ownsRow_lit (size := 1) (base := w.heap.size + 1 + 1) (e := 5) ((w.alloc (.cells #[.int .i64 0, .int .i64 flags, .int .i64 stream, .slice ap N cp] 25)).alloc (.cells #[.int .i64 0, .int .i64 (flags + 8), .int .i64 stream, .slice ap N cp] 25)) #[.int .u8 (n : Int)] 1 (by simp) (by unfold maxLen; omega) (by simp)
    simpa using h
  have hP3 := HP.out.below HW3.out
  have HG : Hid (Bx ((w.alloc (.cells #[.int .i64 0, .int .i64 flags, .int .i64 stream, .slice ap N cp] 25)).alloc (.cells #[.int .i64 0, .int .i64 (flags + 8), .int .i64 stream, .slice ap N cp] 25)) (w.heap.size + 1) 25 ⟨0, flags + 8, stream, pay⟩ (.slice ap N cp)) := Lib.hid (by
    have h := Bx.new (w.alloc (.cells #[.int .i64 0, .int .i64 flags, .int .i64 stream, .slice ap N cp] 25)) 25 ⟨0, flags + 8, stream, pay⟩ (.slice ap N cp)
    simpa using h)
  have HF := Lib.hid (HX.out.below ((Below.refl _ _).alloc (Nat.le_refl _) (.cells #[.int .i64 0, .int .i64 (flags + 8), .int .i64 stream, .slice ap N cp] 25)))
  have HL1 := Lib.hid (show [(n : Int)].length + pay.length ≤ 501 by have := HN.out; simp; omega)
  have HW2' : Hid (Below (w.heap.size + 1 + 1) ((w.alloc (.cells #[.int .i64 0, .int .i64 flags, .int .i64 stream, .slice ap N cp] 25)).alloc (.cells #[.int .i64 0, .int .i64 (flags + 8), .int .i64 stream, .slice ap N cp] 25)) (((w.alloc (.cells #[.int .i64 0, .int .i64 flags, .int .i64 stream, .slice ap N cp] 25)).alloc (.cells #[.int .i64 0, .int .i64 (flags + 8), .int .i64 stream, .slice ap N cp] 25)).alloc (.cells #[.int .u8 (n : Int)] 5))) := Lib.hid ((Below.refl _ _).alloc (by simp) _)
  have HW2h := Lib.hid HW2
  clear HW2
  obtain ⟨fr, hfr⟩ : ∃ fr, fr = (⟨0, flags, stream, pay⟩ : Fr) := ⟨_, rfl⟩
  have HFR := Lib.hid hfr
  have HLF := Lib.hid (show fr.pay.length ≤ 500 by rw [hfr]; simp only; have := HN.out; omega)
  have HPS := Lib.hid (pad_same (f := fr) (n := n) (by rw [hfr]; simp) (by rw [hfr]; exact h0) (by rw [hfr]; show flags ≤ 255; omega) (by rw [hfr]; exact h8) HLF.out (by omega))
  have HRP := Lib.hid (readF_pairs (f := fr) (by rw [hfr]; simp))
  clear hfr
  go_enter Try.func3, Try.ntmps3
  go_wp2_with (first
    | (at_builtin; refine app_ints rfl (.tmp 53) (.tmp 55) 23 rfl (w.heap.size + 1 + 1) 5 .u8 1 Try.underlying23 Try.info5' _ 1 [(n : Int)] rfl hO0 _ pay rfl hP3 (by have := HL1.out; omega) (by have := HL1.out; unfold maxLen; omega) (by simp) ?_; intro v1 w1 own1 hb1 hg1; obtain ⟨g1, cap1, rfl, hge1, hlt1⟩ := World.ownsRow.form own1 (by simp; omega); have HB1 := Lib.hid (Below.trans (HW2'.out) hb1); have hsz1 := hb1.size; clear hO0 hP3 hb1 hg1)
    | (at_builtin; refine app_zeros rfl (.tmp 56) (.tmp 58) 23 3 rfl (w.heap.size + 1 + 1) 5 Try.underlying23 Try.underlying3 Try.info5' g1 _ cap1 _ rfl n rfl own1 (by have := HL1.out; omega) (by (try simp at hsz1); omega) ?_; intro v2 w2 own2 hg2; obtain ⟨p2, cap2, rfl, hge2, hlt2⟩ := World.ownsRow.form own2 (by (try simp); omega); have hs5 : w.heap.size + 1 + 1 ≤ w1.heap.size := (by (try simp at hsz1); omega); have G2 := HG.out.kept2 HB1.out hg2 hge1 hs5 (by omega); have F2 := HF.out.kept2 HB1.out hg2 hge1 hs5 (by omega); have e3 := G2.c3; have fz := blk_free (j := 3) G2; have d0 := F2.c0; have d1 := F2.c1; have d2 := F2.c2; have d3 := F2.c3; have s2 := G2.lt; have s3 := F2.lt; have HF2 := Lib.hid F2; have HG2 := Lib.hid G2; have HO2 := Lib.hid own2; have HB2 := Lib.hid (HB1.out.grown hg2 hs5 (fun k hk => by cases hk; exact hge1)); clear F2 G2 own1 hg2 own2))
  have G3 := Lib.hid (HG2.out.s3' (.slice (some ⟨p2, 0, none⟩) (1 + pay.length + n) cap2))
  have F3 : Hid (Bx _ w.heap.size 25 ⟨_, flags, stream, pay⟩ (.slice ap N cp)) := Lib.hid ((Below.heap_setCell w2 ⟨w.heap.size + 1, 3, none⟩ (.slice (some ⟨p2, 0, none⟩) (1 + pay.length + n) cap2) w.heap.size (by simp)).trans HF2.out)
  have O3 := ownsRow_setCell_below HO2.out (a := ⟨w.heap.size + 1, 3, none⟩) (by simp) (.slice (some ⟨p2, 0, none⟩) (1 + pay.length + n) cap2)
  have B3 := Lib.hid ((HW2h.out.trans (HB2.out.mono (by omega))).setCell (p := ⟨w.heap.size + 1, 3, none⟩) (by simp) (.slice (some ⟨p2, 0, none⟩) (1 + pay.length + n) cap2))
  have S3 := Lib.hid (pad_sl O3 HP.out.fit (by omega) (by have := HN.out; omega))
  clear O3 HG2 HF2 HO2 HB2 HW2h e3 fz d0 d1 d2 d3 s2 s3 HB1 hsz1 hs5 HW2' HF HG HW3 HB HX c0 c1 c3 hsz HL1
  generalize World.setCell w2 _ _ = w3 at *
  have hp3 : Sl .u8 w3 (.slice ap N cp) pay := HP.out.below B3.out
  have d0 := F3.out.c0
  have d1 := F3.out.c1
  have d2 := F3.out.c2
  have d3 := F3.out.c3
  have s3 := F3.out.lt
  refine (pRead_any _ fr _ (by rw [HFR.out]; exact ⟨_, rfl, hp3⟩) (by have := HLF.out; omega)).mono ?_
  rintro e w4 ⟨pv1, rfl, hv1, hb4⟩
  obtain ⟨r1, hr1⟩ : ∃ r, readF fr = r := ⟨_, rfl⟩
  rw [hr1] at hv1 ⊢
  have HR1 := Lib.hid hr1
  clear hr1 d0 d1 d2 d3 s3 hp3
  obtain ⟨bu1, pu1, rfl, hbu1, hpu1⟩ := id hv1
  obtain ⟨ab1, cb1, rfl, _⟩ := id hbu1
  obtain ⟨ap1, cp1, rfl, _, _⟩ := hpu1.shape
  obtain ⟨nb1, hnb1⟩ : ∃ k, k = r1.1.bytes.length := ⟨_, rfl⟩
  obtain ⟨np1, hnp1⟩ : ∃ k, k = r1.1.pairs.length := ⟨_, rfl⟩
  rw [← hnb1, ← hnp1] at hv1 ⊢
  have HNB1 := Lib.hid hnb1
  have HNP1 := Lib.hid hnp1
  clear hnb1 hnp1
  have HV1 := Lib.hid hv1
  have G4 := Lib.hid (G3.out.below hb4)
  have F4 := Lib.hid (Bx.below F3.out hb4)
  have S4 := Lib.hid (S3.out.below hb4)
  have B4 := Lib.hid (B3.out.trans (hb4.mono B3.out.size))
  clear hv1 hbu1 hpu1 G3 F3 S3 B3 hb4
  have hA := (Below.refl w4.heap.size w4).alloc (Nat.le_refl _) (.cells #[.slice ab1 nb1 cb1, .slice ap1 np1 cp1, .int .i64 r1.1.code, .int .i64 r1.1.last, .int .i64 r1.1.add, .int .i64 r1.1.flow, .bool r1.1.fin, .bool r1.1.whole, .bool r1.1.acked] 29)
  have hA2 := hA.alloc (by simp) (.cells #[.int .i64 r1.2.1.1, .int .i64 r1.2.1.2] 32)
  have S5 := S4.out.below hA2
  have hG5 := Bx.below G4.out hA2
  have d0 := hG5.c0
  have d1 := hG5.c1
  have d2 := hG5.c2
  have d3 := hG5.c3
  have s3 := G4.out.lt
  clear hG5
  simp only at d0 d1 d2 d3
  have HA2 := Lib.hid hA2
  clear hA hA2
  go_wp2_with fail
  refine (pRead_any _ (padF fr n) _ (by rw [HFR.out]; exact ⟨_, rfl, S5⟩) (by have := HLF.out; simp [padF]; omega)).mono ?_
  rintro e w6 ⟨pv2, rfl, hv2, hb6⟩
  obtain ⟨q1, q2, q3⟩ := HPS.out
  rw [HR1.out] at q1 q2 q3
  obtain ⟨fl2, hfl⟩ : ∃ z, z = (readF (padF fr n)).1.flow := ⟨_, rfl⟩
  have e2 : readF (padF fr n) = ({ r1.1 with flow := fl2 }, r1.2) := by rw [hfl]; exact Prod.ext (pt_back q2) q1
  rw [e2] at hv2 q3 ⊢
  have HPL : Hid (r1.1.pairs.length ≤ 1000000) := Lib.hid (by rw [← HR1.out, HRP.out]; simp)
  clear e2 hfl q1 q2 HPS HR1 HRP d0 d1 d2 d3 s3 S5
  simp only at hv2 q3 ⊢
  obtain ⟨bu2, pu2, rfl, hbu2, hpu2⟩ := id hv2
  obtain ⟨ab2, cb2, rfl, _⟩ := id hbu2
  obtain ⟨ap2, cp2, rfl, _, _⟩ := hpu2.shape
  simp only at hv2 ⊢
  rw [← HNB1.out, ← HNP1.out] at hv2 ⊢
  have HV2 := Lib.hid hv2
  clear hv2 hbu2 hpu2
  have hP4 : PtsAt (w4.alloc (.cells #[.slice ab1 nb1 cb1, .slice ap1 np1 cp1, .int .i64 r1.1.code, .int .i64 r1.1.last, .int .i64 r1.1.add, .int .i64 r1.1.flow, .bool r1.1.fin, .bool r1.1.whole, .bool r1.1.acked] 29)) 29 w4.heap.size (.slice ab1 nb1 cb1) (.slice ap1 np1 cp1) r1.1 := PtsAt.new w4 _ _ _ _
  have hQ4 := heap_alloc_new (w4.alloc (.cells #[.slice ab1 nb1 cb1, .slice ap1 np1 cp1, .int .i64 r1.1.code, .int .i64 r1.1.last, .int .i64 r1.1.add, .int .i64 r1.1.flow, .bool r1.1.fin, .bool r1.1.whole, .bool r1.1.acked] 29)) (.cells #[.int .i64 r1.2.1.1, .int .i64 r1.2.1.2] 32)
  have hsz4 : (w4.alloc (.cells #[.slice ab1 nb1 cb1, .slice ap1 np1 cp1, .int .i64 r1.1.code, .int .i64 r1.1.last, .int .i64 r1.1.add, .int .i64 r1.1.flow, .bool r1.1.fin, .bool r1.1.whole, .bool r1.1.acked] 29)).heap.size = w4.heap.size + 1 := by simp
  rw [hsz4] at hQ4
  clear hsz4
  have hP6 := Lib.hid ((hP4.grown ((Below.refl _ _).alloc (Nat.le_refl _) (.cells #[.int .i64 r1.2.1.1, .int .i64 r1.2.1.2] 32))).grown hb6)
  have hQ6 := Lib.hid ((hb6.block _ (Array.getElem?_eq_some_iff.1 hQ4).1).trans hQ4)
  have hG6 := Lib.hid ((Bx.below G4.out HA2.out).below hb6)
  have hF6 := Lib.hid ((Bx.below F4.out HA2.out).below hb6)
  have HV6 := Lib.hid ((HV1.out.below HA2.out).below hb6)
  have B6 := Lib.hid (B4.out.trans ((HA2.out.trans (hb6.mono HA2.out.size)).mono B4.out.size))
  clear hP4 hQ4 hb6 HV1 HA2 G4 F4 S4 B4
  have hA7 := ((Below.refl w6.heap.size w6).alloc (Nat.le_refl _) (.cells #[.slice ab2 nb1 cb2, .slice ap2 np1 cp2, .int .i64 r1.1.code, .int .i64 r1.1.last, .int .i64 r1.1.add, .int .i64 fl2, .bool r1.1.fin, .bool r1.1.whole, .bool r1.1.acked] 29)).alloc (by simp) (.cells #[.int .i64 r1.2.1.1, .int .i64 r1.2.1.2] 32)
  obtain ⟨_, _, _, _, _, k5, _⟩ := (hP6.out.grown hA7).cs
  have hG7 := Bx.below hG6.out hA7
  have hF7 := Bx.below hF6.out hA7
  have d3 := hG7.c3
  have f0 := hF7.c0
  have f3 := hF7.c3
  simp only at d3 f0 f3
  clear hG7 hF7 hA7
  have L1 := hP6.out.lt
  have L2 := hG6.out.lt
  have L3 := hF6.out.lt
  have hA8 := ((Below.refl w6.heap.size w6).alloc (Nat.le_refl _) (.cells #[.slice ab2 nb1 cb2, .slice ap2 np1 cp2, .int .i64 r1.1.code, .int .i64 r1.1.last, .int .i64 r1.1.add, .int .i64 r1.1.flow, .bool r1.1.fin, .bool r1.1.whole, .bool r1.1.acked] 29)).alloc (by simp) (.cells #[.int .i64 r1.2.1.1, .int .i64 r1.2.1.2] 32)
  have HPa := Lib.hid (hP6.out.grown hA8)
  have hPb : PtsAt (w6.alloc (.cells #[.slice ab2 nb1 cb2, .slice ap2 np1 cp2, .int .i64 r1.1.code, .int .i64 r1.1.last, .int .i64 r1.1.add, .int .i64 r1.1.flow, .bool r1.1.fin, .bool r1.1.whole, .bool r1.1.acked] 29)) 29 w6.heap.size (.slice ab2 nb1 cb2) (.slice ap2 np1 cp2) r1.1 := PtsAt.new w6 _ _ _ _
  have HPb := Lib.hid (hPb.grown ((Below.refl _ _).alloc (Nat.le_refl _) (.cells #[.int .i64 r1.2.1.1, .int .i64 r1.2.1.2] 32)))
  have HVa := Lib.hid (HV6.out.below hA8)
  have HVb : Hid (PtV ((w6.alloc (.cells #[.slice ab2 nb1 cb2, .slice ap2 np1 cp2, .int .i64 r1.1.code, .int .i64 r1.1.last, .int .i64 r1.1.add, .int .i64 r1.1.flow, .bool r1.1.fin, .bool r1.1.whole, .bool r1.1.acked] 29)).alloc (.cells #[.int .i64 r1.2.1.1, .int .i64 r1.2.1.2] 32)) (.agg #[.slice ab2 nb1 cb2, .slice ap2 np1 cp2, .int .i64 r1.1.code, .int .i64 r1.1.last, .int .i64 r1.1.add, .int .i64 r1.1.flow, .bool r1.1.fin, .bool r1.1.whole, .bool r1.1.acked]) r1.1) := Lib.hid (by
    obtain ⟨_, _, e, h1, h2⟩ := HV2.out.below hA8
    simp only [Value.agg.injEq, Array.mk.injEq, List.cons.injEq] at e
    obtain ⟨rfl, rfl, _⟩ := e
    exact ⟨_, _, rfl, h1, h2⟩)
  have hQ7 := heap_alloc_new (w6.alloc (.cells #[.slice ab2 nb1 cb2, .slice ap2 np1 cp2, .int .i64 r1.1.code, .int .i64 r1.1.last, .int .i64 r1.1.add, .int .i64 r1.1.flow, .bool r1.1.fin, .bool r1.1.whole, .bool r1.1.acked] 29)) (.cells #[.int .i64 r1.2.1.1, .int .i64 r1.2.1.2] 32)
  have hsz6 : (w6.alloc (.cells #[.slice ab2 nb1 cb2, .slice ap2 np1 cp2, .int .i64 r1.1.code, .int .i64 r1.1.last, .int .i64 r1.1.add, .int .i64 r1.1.flow, .bool r1.1.fin, .bool r1.1.whole, .bool r1.1.acked] 29)).heap.size = w6.heap.size + 1 := by simp
  rw [hsz6] at hQ7
  have HQa := Lib.hid ((hA8.block _ (Array.getElem?_eq_some_iff.1 hQ6.out).1).trans hQ6.out)
  have HQb := Lib.hid hQ7
  have B8 := Lib.hid (B6.out.trans (hA8.mono B6.out.size))
  clear hA8 hPb hQ7 hsz6 hQ6 HV6 HV2 hP6 hG6 hF6
  obtain ⟨rb, hrb⟩ : ∃ b, r1.2.2 = b := ⟨_, rfl⟩
  rw [hrb] at q3 ⊢
  cases rb
  · clear q3
    go_wp2_with fail
    refine wp_region_table 5 [98, 99, 100, 101, 102] [[], [(0, 98)], [], [(2, 100)], [(1, 99), (3, 101)]]
      (fun i v w' => match i with
        | 0 => v = .agg #[.slice ab1 nb1 cb1, .slice ap1 np1 cp1, .int .i64 r1.1.code, .int .i64 r1.1.last, .int .i64 r1.1.add, .int .i64 r1.1.flow, .bool r1.1.fin, .bool r1.1.whole, .bool r1.1.acked]
        | 1 => PtV w' v r1.1
        | 2 => v = .agg #[.slice ab2 nb1 cb2, .slice ap2 np1 cp2, .int .i64 r1.1.code, .int .i64 r1.1.last, .int .i64 r1.1.add, .int .i64 r1.1.flow, .bool r1.1.fin, .bool r1.1.whole, .bool r1.1.acked]
        | 3 => PtV w' v r1.1
        | 4 => v = .bool true
        | _ => True) (by kernel_rfl) (by kernel_rfl) ?tStab ?tOps ?tRest
    case tStab =>
      intro i v w3 w4 h hb
      match i, h with
      | 0, h | 2, h | 4, h => exact h
      | 1, h => exact h.below hb
      | 3, h => exact h.below hb
      | i + 5, _ => trivial
    case tOps =>
      simp only [List.take_succ_cons, List.take_zero, opsOk]
      refine ⟨?_, ?_, ?_, ?_, ?_, trivial⟩
      · intro ρ w3 hc hf ho hB hj
        have x0 : ρ (.tmp 6) = .pointer (some ⟨w4.heap.size, 0, none⟩) := ho 6 (by decide)
        obtain ⟨c0, c1, c2, c3, c4, c5, c6, c7, c8⟩ := (HPa.out.grown hB).cs
        simp [gives, go_sem, x0, c0, c1, c2, c3, c4, c5, c6, c7, c8, Below.refl]
      · intro ρ w3 hc hf ho hB hj
        have x0 : ρ (.tmp 98) = .agg #[.slice ab1 nb1 cb1, .slice ap1 np1 cp1, .int .i64 r1.1.code, .int .i64 r1.1.last, .int .i64 r1.1.add, .int .i64 r1.1.flow, .bool r1.1.fin, .bool r1.1.whole, .bool r1.1.acked] := hj (0, 98) (by simp)
        simp [gives, go_sem, x0, hf]
        refine (of11_any _ r1.1 _ (HVa.out.below hB) HPL.out).mono ?_
        rintro e w9 ⟨v9, rfl, hv9, hb9⟩
        exact ⟨_, rfl, hv9, hb9⟩
      · intro ρ w3 hc hf ho hB hj
        have x0 : ρ (.tmp 9) = .pointer (some ⟨w6.heap.size, 0, none⟩) := ho 9 (by decide)
        obtain ⟨c0, c1, c2, c3, c4, c5, c6, c7, c8⟩ := (HPb.out.grown hB).cs
        simp [gives, go_sem, x0, c0, c1, c2, c3, c4, c5, c6, c7, c8, Below.refl]
      · intro ρ w3 hc hf ho hB hj
        have x0 : ρ (.tmp 100) = .agg #[.slice ab2 nb1 cb2, .slice ap2 np1 cp2, .int .i64 r1.1.code, .int .i64 r1.1.last, .int .i64 r1.1.add, .int .i64 r1.1.flow, .bool r1.1.fin, .bool r1.1.whole, .bool r1.1.acked] := hj (2, 100) (by simp)
        simp [gives, go_sem, x0, hf]
        refine (of11_any _ r1.1 _ (HVb.out.below hB) HPL.out).mono ?_
        rintro e w9 ⟨v9, rfl, hv9, hb9⟩
        exact ⟨_, rfl, hv9, hb9⟩
      · intro ρ w3 hc hf ho hB hj
        have x0 : PtV w3 (ρ (.tmp 99)) r1.1 := hj (1, 99) (by simp)
        have x1 : PtV w3 (ρ (.tmp 101)) r1.1 := hj (3, 101) (by simp)
        simp [gives, go_sem, hf]
        refine (refSame11_eq _ _ r1.1 _ x0 x1).mono ?_
        rintro e w9 ⟨rfl, hb9⟩
        exact ⟨_, rfl, rfl, hb9⟩
    case tRest =>
      intro X w3 hBw hX
      have x0 : X 0 = .agg #[.slice ab1 nb1 cb1, .slice ap1 np1 cp1, .int .i64 r1.1.code, .int .i64 r1.1.last, .int .i64 r1.1.add, .int .i64 r1.1.flow, .bool r1.1.fin, .bool r1.1.whole, .bool r1.1.acked] := hX 0 (by decide)
      have x1 := hX 1 (by decide)
      have x2 : X 2 = .agg #[.slice ab2 nb1 cb2, .slice ap2 np1 cp2, .int .i64 r1.1.code, .int .i64 r1.1.last, .int .i64 r1.1.add, .int .i64 r1.1.flow, .bool r1.1.fin, .bool r1.1.whole, .bool r1.1.acked] := hX 2 (by decide)
      have x3 := hX 3 (by decide)
      have x4 : X 4 = .bool true := hX 4 (by decide)
      simp only [putAll, List.getD_cons_zero, List.getD_cons_succ, Act.put, List.setIfInBounds_toArray, List.set_cons_zero, List.set_cons_succ, List.drop_succ_cons, List.drop_zero]
      rw [x0, x2, x4]
      clear x0 x1 x2 x3 x4 hX
      have HB9 := Lib.hid (B8.out.trans (hBw.mono B8.out.size))
      have k1 := (hBw.block _ (Array.getElem?_eq_some_iff.1 HQa.out).1).trans HQa.out
      have k2 := (hBw.block _ (Array.getElem?_eq_some_iff.1 HQb.out).1).trans HQb.out
      clear hBw
      go_wp2_with fail
      refine (alive11 _).mono ?_
      rintro e w9 ⟨rfl, hb9⟩
      have u1 := (hb9.block _ (Array.getElem?_eq_some_iff.1 k1).1).trans k1
      have u2 := (hb9.block _ (Array.getElem?_eq_some_iff.1 k2).1).trans k2
      have v1 := blk_cell (j := 0) u1 rfl
      have v2 := blk_cell (j := 1) u1 rfl
      have v3 := blk_cell (j := 0) u2 rfl
      have v4 := blk_cell (j := 1) u2 rfl
      have HBa := Lib.hid (HB9.out.trans (hb9.mono HB9.out.size))
      clear u1 u2 k1 k2 hb9
      go_wp2_with fail
      go_ret
      exact ⟨rfl, HBa.out⟩
  · obtain ⟨t1, t2⟩ := q3 rfl (by rw [HFR.out])
    have t3 : r1.1.flow = (N : Int) := by rw [t1, HFR.out, HN.out]
    have t4 : fl2 = ((1 + pay.length + n : Nat) : Int) := by rw [t2, HFR.out]; simp [padF]; omega
    clear t1 t2 q3
    have g6 : (r1.1.flow != (N : Int)) = false := by rw [t3]; simp
    have g7 : (fl2 != ((1 + pay.length + n : Nat) : Int)) = false := by rw [t4]; simp
    have g8 : (r1.1.flow == (N : Int)) = true := by rw [t3]; simp
    have g9 : (fl2 == ((1 + pay.length + n : Nat) : Int)) = true := by rw [t4]; simp
    clear t3 t4
    go_wp2_with fail
    refine wp_region_table 5 [98, 99, 100, 101, 102] [[], [(0, 98)], [], [(2, 100)], [(1, 99), (3, 101)]]
      (fun i v w' => match i with
        | 0 => v = .agg #[.slice ab1 nb1 cb1, .slice ap1 np1 cp1, .int .i64 r1.1.code, .int .i64 r1.1.last, .int .i64 r1.1.add, .int .i64 r1.1.flow, .bool r1.1.fin, .bool r1.1.whole, .bool r1.1.acked]
        | 1 => PtV w' v r1.1
        | 2 => v = .agg #[.slice ab2 nb1 cb2, .slice ap2 np1 cp2, .int .i64 r1.1.code, .int .i64 r1.1.last, .int .i64 r1.1.add, .int .i64 r1.1.flow, .bool r1.1.fin, .bool r1.1.whole, .bool r1.1.acked]
        | 3 => PtV w' v r1.1
        | 4 => v = .bool true
        | _ => True) (by kernel_rfl) (by kernel_rfl) ?tStab ?tOps ?tRest
    case tStab =>
      intro i v w3 w4 h hb
      match i, h with
      | 0, h | 2, h | 4, h => exact h
      | 1, h => exact h.below hb
      | 3, h => exact h.below hb
      | i + 5, _ => trivial
    case tOps =>
      simp only [List.take_succ_cons, List.take_zero, opsOk]
      refine ⟨?_, ?_, ?_, ?_, ?_, trivial⟩
      · intro ρ w3 hc hf ho hB hj
        have x0 : ρ (.tmp 6) = .pointer (some ⟨w4.heap.size, 0, none⟩) := ho 6 (by decide)
        obtain ⟨c0, c1, c2, c3, c4, c5, c6, c7, c8⟩ := (HPa.out.grown hB).cs
        simp [gives, go_sem, x0, c0, c1, c2, c3, c4, c5, c6, c7, c8, Below.refl]
      · intro ρ w3 hc hf ho hB hj
        have x0 : ρ (.tmp 98) = .agg #[.slice ab1 nb1 cb1, .slice ap1 np1 cp1, .int .i64 r1.1.code, .int .i64 r1.1.last, .int .i64 r1.1.add, .int .i64 r1.1.flow, .bool r1.1.fin, .bool r1.1.whole, .bool r1.1.acked] := hj (0, 98) (by simp)
        simp [gives, go_sem, x0, hf]
        refine (of11_any _ r1.1 _ (HVa.out.below hB) HPL.out).mono ?_
        rintro e w9 ⟨v9, rfl, hv9, hb9⟩
        exact ⟨_, rfl, hv9, hb9⟩
      · intro ρ w3 hc hf ho hB hj
        have x0 : ρ (.tmp 9) = .pointer (some ⟨w6.heap.size, 0, none⟩) := ho 9 (by decide)
        obtain ⟨c0, c1, c2, c3, c4, c5, c6, c7, c8⟩ := (HPb.out.grown hB).cs
        simp [gives, go_sem, x0, c0, c1, c2, c3, c4, c5, c6, c7, c8, Below.refl]
      · intro ρ w3 hc hf ho hB hj
        have x0 : ρ (.tmp 100) = .agg #[.slice ab2 nb1 cb2, .slice ap2 np1 cp2, .int .i64 r1.1.code, .int .i64 r1.1.last, .int .i64 r1.1.add, .int .i64 r1.1.flow, .bool r1.1.fin, .bool r1.1.whole, .bool r1.1.acked] := hj (2, 100) (by simp)
        simp [gives, go_sem, x0, hf]
        refine (of11_any _ r1.1 _ (HVb.out.below hB) HPL.out).mono ?_
        rintro e w9 ⟨v9, rfl, hv9, hb9⟩
        exact ⟨_, rfl, hv9, hb9⟩
      · intro ρ w3 hc hf ho hB hj
        have x0 : PtV w3 (ρ (.tmp 99)) r1.1 := hj (1, 99) (by simp)
        have x1 : PtV w3 (ρ (.tmp 101)) r1.1 := hj (3, 101) (by simp)
        simp [gives, go_sem, hf]
        refine (refSame11_eq _ _ r1.1 _ x0 x1).mono ?_
        rintro e w9 ⟨rfl, hb9⟩
        exact ⟨_, rfl, rfl, hb9⟩
    case tRest =>
      intro X w3 hBw hX
      have x0 : X 0 = .agg #[.slice ab1 nb1 cb1, .slice ap1 np1 cp1, .int .i64 r1.1.code, .int .i64 r1.1.last, .int .i64 r1.1.add, .int .i64 r1.1.flow, .bool r1.1.fin, .bool r1.1.whole, .bool r1.1.acked] := hX 0 (by decide)
      have x1 := hX 1 (by decide)
      have x2 : X 2 = .agg #[.slice ab2 nb1 cb2, .slice ap2 np1 cp2, .int .i64 r1.1.code, .int .i64 r1.1.last, .int .i64 r1.1.add, .int .i64 r1.1.flow, .bool r1.1.fin, .bool r1.1.whole, .bool r1.1.acked] := hX 2 (by decide)
      have x3 := hX 3 (by decide)
      have x4 : X 4 = .bool true := hX 4 (by decide)
      simp only [putAll, List.getD_cons_zero, List.getD_cons_succ, Act.put, List.setIfInBounds_toArray, List.set_cons_zero, List.set_cons_succ, List.drop_succ_cons, List.drop_zero]
      rw [x0, x2, x4]
      clear x0 x1 x2 x3 x4 hX
      have HB9 := Lib.hid (B8.out.trans (hBw.mono B8.out.size))
      have k1 := (hBw.block _ (Array.getElem?_eq_some_iff.1 HQa.out).1).trans HQa.out
      have k2 := (hBw.block _ (Array.getElem?_eq_some_iff.1 HQb.out).1).trans HQb.out
      clear hBw
      go_wp2_with fail
      refine (alive11 _).mono ?_
      rintro e w9 ⟨rfl, hb9⟩
      have u1 := (hb9.block _ (Array.getElem?_eq_some_iff.1 k1).1).trans k1
      have u2 := (hb9.block _ (Array.getElem?_eq_some_iff.1 k2).1).trans k2
      have v1 := blk_cell (j := 0) u1 rfl
      have v2 := blk_cell (j := 1) u1 rfl
      have v3 := blk_cell (j := 0) u2 rfl
      have v4 := blk_cell (j := 1) u2 rfl
      have HBa := Lib.hid (HB9.out.trans (hb9.mono HB9.out.size))
      clear u1 u2 k1 k2 hb9
      go_wp2_with fail
      go_ret
      exact ⟨rfl, HBa.out⟩
set_option maxHeartbeats 8000000 in
/-- kind 1, without the flag -/
theorem padded11_a1 (v : Value) (flags stream : Int) (pay : List Int) (n : Nat) (w : World) (h : FrV w v ⟨1, flags, stream, pay⟩) (hn : n < 256) (hlen : pay.length ≤ 500) (h0 : 0 ≤ flags) (h1 : flags + 8 ≤ 263) (h1' : flags ≤ 255) (h8 : ¬ flags / 8 % 2 = 1) :
    Calls Try.prog 3 #[v, .int .u8 (n : Int)] w fun e w' => e = .returned (.bool true) ∧ Below w.heap.size w w' := by
  obtain ⟨pv, rfl, hp⟩ := h
  simp only at hp ⊢
  obtain ⟨ap, cp, rfl, hcp, _⟩ := id hp
  obtain ⟨N, hN⟩ : ∃ N, N = pay.length := ⟨_, rfl⟩
  rw [← hN] at hp hlen hcp ⊢
  have hal := (Below.refl w.heap.size w).alloc (Nat.le_refl _) (.cells #[.int .i64 1, .int .i64 flags, .int .i64 stream, .slice ap N cp] 25)
  have HB := Lib.hid hal
  have hbx := Bx.new w 25 ⟨1, flags, stream, pay⟩ (.slice ap N cp)
  have hby := Bx.new w 25 ⟨1, flags, stream, pay⟩ (.slice ap N cp)
  have c0 := hby.c0
  have c1 := hby.c1
  have c3 := hby.c3
  have hsz := hby.lt
  simp only at c0 c1 c3 hsz
  have HP := Lib.hid hp
  have HX := Lib.hid hbx
  clear hal hp hbx hby
  have HN := Lib.hid hN
  clear hN
  have g1 : decide ((500 : Int) < (N : Int)) = false := by simp; omega
  have g2 : decide (flags < 0) = false := by simp; omega
  have g3 : decide ((255 : Int) < flags) = false := by simp; omega
  have ht1 : (flags).tdiv 8 = (flags) / 8 := Int.tdiv_eq_ediv_of_nonneg (by omega)
  have ht2 : ((flags) / 8).tmod 2 = (flags) / 8 % 2 := Int.tmod_eq_emod_of_nonneg (by omega)
  have g5 : ((flags) / 8 % 2 == 1) = false := by simp; omega
  have HW2 : Below w.heap.size w ((w.alloc (.cells #[.int .i64 1, .int .i64 flags, .int .i64 stream, .slice ap N cp] 25)).alloc (.cells #[.int .i64 1, .int .i64 (flags + 8), .int .i64 stream, .slice ap N cp] 25)) := HB.out.trans ((Below.refl _ _).alloc (by simp) (.cells #[.int .i64 1, .int .i64 (flags + 8), .int .i64 stream, .slice ap N cp] 25))
  have HW3 := Lib.hid (HW2.trans ((Below.refl _ _).alloc (by simp; omega) (.cells #[.int .u8 (n : Int)] 5)))
  have hO0 : (((w.alloc (.cells #[.int .i64 1, .int .i64 flags, .int .i64 stream, .slice ap N cp] 25)).alloc (.cells #[.int .i64 1, .int .i64 (flags + 8), .int .i64 stream, .slice ap N cp] 25)).alloc (.cells #[.int .u8 (n : Int)] 5)).ownsRow (w.heap.size + 1 + 1) 5 1 (.slice (some ⟨w.heap.size + 1 + 1, 0, none⟩) 1 1) 1 ([(n : Int)].map (Value.int .u8)) := by
    have h := World.ownsRow_lit (size := 1) (base := w.heap.size + 1 + 1) (e := 5) ((w.alloc (.cells #[.int .i64 1, .int .i64 flags, .int .i64 stream, .slice ap N cp] 25)).alloc (.cells #[.int .i64 1, .int .i64 (flags + 8), .int .i64 stream, .slice ap N cp] 25)) #[.int .u8 (n : Int)] 1 (by simp) (by unfold maxLen; omega) (by simp)
    simpa using h
  have hP3 := HP.out.below HW3.out
  have HG : Hid (Bx ((w.alloc (.cells #[.int .i64 1, .int .i64 flags, .int .i64 stream, .slice ap N cp] 25)).alloc (.cells #[.int .i64 1, .int .i64 (flags + 8), .int .i64 stream, .slice ap N cp] 25)) (w.heap.size + 1) 25 ⟨1, flags + 8, stream, pay⟩ (.slice ap N cp)) := Lib.hid (by
    have h := Bx.new (w.alloc (.cells #[.int .i64 1, .int .i64 flags, .int .i64 stream, .slice ap N cp] 25)) 25 ⟨1, flags + 8, stream, pay⟩ (.slice ap N cp)
    simpa using h)
  have HF := Lib.hid (HX.out.below ((Below.refl _ _).alloc (Nat.le_refl _) (.cells #[.int .i64 1, .int .i64 (flags + 8), .int .i64 stream, .slice ap N cp] 25)))
  have HL1 := Lib.hid (show [(n : Int)].length + pay.length ≤ 501 by have := HN.out; simp; omega)
  have HW2' : Hid (Below (w.heap.size + 1 + 1) ((w.alloc (.cells #[.int .i64 1, .int .i64 flags, .int .i64 stream, .slice ap N cp] 25)).alloc (.cells #[.int .i64 1, .int .i64 (flags + 8), .int .i64 stream, .slice ap N cp] 25)) (((w.alloc (.cells #[.int .i64 1, .int .i64 flags, .int .i64 stream, .slice ap N cp] 25)).alloc (.cells #[.int .i64 1, .int .i64 (flags + 8), .int .i64 stream, .slice ap N cp] 25)).alloc (.cells #[.int .u8 (n : Int)] 5))) := Lib.hid ((Below.refl _ _).alloc (by simp) _)
  have HW2h := Lib.hid HW2
  clear HW2
  obtain ⟨fr, hfr⟩ : ∃ fr, fr = (⟨1, flags, stream, pay⟩ : Fr) := ⟨_, rfl⟩
  have HFR := Lib.hid hfr
  have HLF := Lib.hid (show fr.pay.length ≤ 500 by rw [hfr]; simp only; have := HN.out; omega)
  have HPS := Lib.hid (pad_same (f := fr) (n := n) (by rw [hfr]; simp) (by rw [hfr]; exact h0) (by rw [hfr]; show flags ≤ 255; omega) (by rw [hfr]; exact h8) HLF.out (by omega))
  have HRP := Lib.hid (readF_pairs (f := fr) (by rw [hfr]; simp))
  clear hfr
  go_enter Try.func3, Try.ntmps3
  go_wp2_with (first
    | (at_builtin; refine app_ints rfl (.tmp 53) (.tmp 55) 23 rfl (w.heap.size + 1 + 1) 5 .u8 1 Try.underlying23 Try.info5' _ 1 [(n : Int)] rfl hO0 _ pay rfl hP3 (by have := HL1.out; omega) (by have := HL1.out; unfold maxLen; omega) (by simp) ?_; intro v1 w1 own1 hb1 hg1; obtain ⟨g1, cap1, rfl, hge1, hlt1⟩ := World.ownsRow.form own1 (by simp; omega); have HB1 := Lib.hid (Below.trans (HW2'.out) hb1); have hsz1 := hb1.size; clear hO0 hP3 hb1 hg1)
    | (at_builtin; refine app_zeros rfl (.tmp 56) (.tmp 58) 23 3 rfl (w.heap.size + 1 + 1) 5 Try.underlying23 Try.underlying3 Try.info5' g1 _ cap1 _ rfl n rfl own1 (by have := HL1.out; omega) (by (try simp at hsz1); omega) ?_; intro v2 w2 own2 hg2; obtain ⟨p2, cap2, rfl, hge2, hlt2⟩ := World.ownsRow.form own2 (by (try simp); omega); have hs5 : w.heap.size + 1 + 1 ≤ w1.heap.size := (by (try simp at hsz1); omega); have G2 := HG.out.kept2 HB1.out hg2 hge1 hs5 (by omega); have F2 := HF.out.kept2 HB1.out hg2 hge1 hs5 (by omega); have e3 := G2.c3; have fz := blk_free (j := 3) G2; have d0 := F2.c0; have d1 := F2.c1; have d2 := F2.c2; have d3 := F2.c3; have s2 := G2.lt; have s3 := F2.lt; have HF2 := Lib.hid F2; have HG2 := Lib.hid G2; have HO2 := Lib.hid own2; have HB2 := Lib.hid (HB1.out.grown hg2 hs5 (fun k hk => by cases hk; exact hge1)); clear F2 G2 own1 hg2 own2))
  have G3 := Lib.hid (HG2.out.s3' (.slice (some ⟨p2, 0, none⟩) (1 + pay.length + n) cap2))
  have F3 : Hid (Bx _ w.heap.size 25 ⟨_, flags, stream, pay⟩ (.slice ap N cp)) := Lib.hid ((Below.heap_setCell w2 ⟨w.heap.size + 1, 3, none⟩ (.slice (some ⟨p2, 0, none⟩) (1 + pay.length + n) cap2) w.heap.size (by simp)).trans HF2.out)
  have O3 := ownsRow_setCell_below HO2.out (a := ⟨w.heap.size + 1, 3, none⟩) (by simp) (.slice (some ⟨p2, 0, none⟩) (1 + pay.length + n) cap2)
  have B3 := Lib.hid ((HW2h.out.trans (HB2.out.mono (by omega))).setCell (p := ⟨w.heap.size + 1, 3, none⟩) (by simp) (.slice (some ⟨p2, 0, none⟩) (1 + pay.length + n) cap2))
  have S3 := Lib.hid (pad_sl O3 HP.out.fit (by omega) (by have := HN.out; omega))
  clear O3 HG2 HF2 HO2 HB2 HW2h e3 fz d0 d1 d2 d3 s2 s3 HB1 hsz1 hs5 HW2' HF HG HW3 HB HX c0 c1 c3 hsz HL1
  generalize World.setCell w2 _ _ = w3 at *
  have hp3 : Sl .u8 w3 (.slice ap N cp) pay := HP.out.below B3.out
  have d0 := F3.out.c0
  have d1 := F3.out.c1
  have d2 := F3.out.c2
  have d3 := F3.out.c3
  have s3 := F3.out.lt
  refine (pRead_any _ fr _ (by rw [HFR.out]; exact ⟨_, rfl, hp3⟩) (by have := HLF.out; omega)).mono ?_
  rintro e w4 ⟨pv1, rfl, hv1, hb4⟩
  obtain ⟨r1, hr1⟩ : ∃ r, readF fr = r := ⟨_, rfl⟩
  rw [hr1] at hv1 ⊢
  have HR1 := Lib.hid hr1
  clear hr1 d0 d1 d2 d3 s3 hp3
  obtain ⟨bu1, pu1, rfl, hbu1, hpu1⟩ := id hv1
  obtain ⟨ab1, cb1, rfl, _⟩ := id hbu1
  obtain ⟨ap1, cp1, rfl, _, _⟩ := hpu1.shape
  obtain ⟨nb1, hnb1⟩ : ∃ k, k = r1.1.bytes.length := ⟨_, rfl⟩
  obtain ⟨np1, hnp1⟩ : ∃ k, k = r1.1.pairs.length := ⟨_, rfl⟩
  rw [← hnb1, ← hnp1] at hv1 ⊢
  have HNB1 := Lib.hid hnb1
  have HNP1 := Lib.hid hnp1
  clear hnb1 hnp1
  have HV1 := Lib.hid hv1
  have G4 := Lib.hid (G3.out.below hb4)
  have F4 := Lib.hid (Bx.below F3.out hb4)
  have S4 := Lib.hid (S3.out.below hb4)
  have B4 := Lib.hid (B3.out.trans (hb4.mono B3.out.size))
  clear hv1 hbu1 hpu1 G3 F3 S3 B3 hb4
  have hA := (Below.refl w4.heap.size w4).alloc (Nat.le_refl _) (.cells #[.slice ab1 nb1 cb1, .slice ap1 np1 cp1, .int .i64 r1.1.code, .int .i64 r1.1.last, .int .i64 r1.1.add, .int .i64 r1.1.flow, .bool r1.1.fin, .bool r1.1.whole, .bool r1.1.acked] 29)
  have hA2 := hA.alloc (by simp) (.cells #[.int .i64 r1.2.1.1, .int .i64 r1.2.1.2] 32)
  have S5 := S4.out.below hA2
  have hG5 := Bx.below G4.out hA2
  have d0 := hG5.c0
  have d1 := hG5.c1
  have d2 := hG5.c2
  have d3 := hG5.c3
  have s3 := G4.out.lt
  clear hG5
  simp only at d0 d1 d2 d3
  have HA2 := Lib.hid hA2
  clear hA hA2
  go_wp2_with fail
  refine (pRead_any _ (padF fr n) _ (by rw [HFR.out]; exact ⟨_, rfl, S5⟩) (by have := HLF.out; simp [padF]; omega)).mono ?_
  rintro e w6 ⟨pv2, rfl, hv2, hb6⟩
  obtain ⟨q1, q2, q3⟩ := HPS.out
  rw [HR1.out] at q1 q2 q3
  obtain ⟨fl2, hfl⟩ : ∃ z, z = (readF (padF fr n)).1.flow := ⟨_, rfl⟩
  have e2 : readF (padF fr n) = ({ r1.1 with flow := fl2 }, r1.2) := by rw [hfl]; exact Prod.ext (pt_back q2) q1
  rw [e2] at hv2 q3 ⊢
  have HPL : Hid (r1.1.pairs.length ≤ 1000000) := Lib.hid (by rw [← HR1.out, HRP.out]; simp)
  clear e2 hfl q1 q2 HPS HR1 HRP d0 d1 d2 d3 s3 S5
  simp only at hv2 q3 ⊢
  obtain ⟨bu2, pu2, rfl, hbu2, hpu2⟩ := id hv2
  obtain ⟨ab2, cb2, rfl, _⟩ := id hbu2
  obtain ⟨ap2, cp2, rfl, _, _⟩ := hpu2.shape
  simp only at hv2 ⊢
  rw [← HNB1.out, ← HNP1.out] at hv2 ⊢
  have HV2 := Lib.hid hv2
  clear hv2 hbu2 hpu2
  have hP4 : PtsAt (w4.alloc (.cells #[.slice ab1 nb1 cb1, .slice ap1 np1 cp1, .int .i64 r1.1.code, .int .i64 r1.1.last, .int .i64 r1.1.add, .int .i64 r1.1.flow, .bool r1.1.fin, .bool r1.1.whole, .bool r1.1.acked] 29)) 29 w4.heap.size (.slice ab1 nb1 cb1) (.slice ap1 np1 cp1) r1.1 := PtsAt.new w4 _ _ _ _
  have hQ4 := heap_alloc_new (w4.alloc (.cells #[.slice ab1 nb1 cb1, .slice ap1 np1 cp1, .int .i64 r1.1.code, .int .i64 r1.1.last, .int .i64 r1.1.add, .int .i64 r1.1.flow, .bool r1.1.fin, .bool r1.1.whole, .bool r1.1.acked] 29)) (.cells #[.int .i64 r1.2.1.1, .int .i64 r1.2.1.2] 32)
  have hsz4 : (w4.alloc (.cells #[.slice ab1 nb1 cb1, .slice ap1 np1 cp1, .int .i64 r1.1.code, .int .i64 r1.1.last, .int .i64 r1.1.add, .int .i64 r1.1.flow, .bool r1.1.fin, .bool r1.1.whole, .bool r1.1.acked] 29)).heap.size = w4.heap.size + 1 := by simp
  rw [hsz4] at hQ4
  clear hsz4
  have hP6 := Lib.hid ((hP4.grown ((Below.refl _ _).alloc (Nat.le_refl _) (.cells #[.int .i64 r1.2.1.1, .int .i64 r1.2.1.2] 32))).grown hb6)
  have hQ6 := Lib.hid ((hb6.block _ (Array.getElem?_eq_some_iff.1 hQ4).1).trans hQ4)
  have hG6 := Lib.hid ((Bx.below G4.out HA2.out).below hb6)
  have hF6 := Lib.hid ((Bx.below F4.out HA2.out).below hb6)
  have HV6 := Lib.hid ((HV1.out.below HA2.out).below hb6)
  have B6 := Lib.hid (B4.out.trans ((HA2.out.trans (hb6.mono HA2.out.size)).mono B4.out.size))
  clear hP4 hQ4 hb6 HV1 HA2 G4 F4 S4 B4
  have hA7 := ((Below.refl w6.heap.size w6).alloc (Nat.le_refl _) (.cells #[.slice ab2 nb1 cb2, .slice ap2 np1 cp2, .int .i64 r1.1.code, .int .i64 r1.1.last, .int .i64 r1.1.add, .int .i64 fl2, .bool r1.1.fin, .bool r1.1.whole, .bool r1.1.acked] 29)).alloc (by simp) (.cells #[.int .i64 r1.2.1.1, .int .i64 r1.2.1.2] 32)
  obtain ⟨_, _, _, _, _, k5, _⟩ := (hP6.out.grown hA7).cs
  have hG7 := Bx.below hG6.out hA7
  have hF7 := Bx.below hF6.out hA7
  have d3 := hG7.c3
  have f0 := hF7.c0
  have f3 := hF7.c3
  simp only at d3 f0 f3
  clear hG7 hF7 hA7
  have L1 := hP6.out.lt
  have L2 := hG6.out.lt
  have L3 := hF6.out.lt
  have hA8 := ((Below.refl w6.heap.size w6).alloc (Nat.le_refl _) (.cells #[.slice ab2 nb1 cb2, .slice ap2 np1 cp2, .int .i64 r1.1.code, .int .i64 r1.1.last, .int .i64 r1.1.add, .int .i64 r1.1.flow, .bool r1.1.fin, .bool r1.1.whole, .bool r1.1.acked] 29)).alloc (by simp) (.cells #[.int .i64 r1.2.1.1, .int .i64 r1.2.1.2] 32)
  have HPa := Lib.hid (hP6.out.grown hA8)
  have hPb : PtsAt (w6.alloc (.cells #[.slice ab2 nb1 cb2, .slice ap2 np1 cp2, .int .i64 r1.1.code, .int .i64 r1.1.last, .int .i64 r1.1.add, .int .i64 r1.1.flow, .bool r1.1.fin, .bool r1.1.whole, .bool r1.1.acked] 29)) 29 w6.heap.size (.slice ab2 nb1 cb2) (.slice ap2 np1 cp2) r1.1 := PtsAt.new w6 _ _ _ _
  have HPb := Lib.hid (hPb.grown ((Below.refl _ _).alloc (Nat.le_refl _) (.cells #[.int .i64 r1.2.1.1, .int .i64 r1.2.1.2] 32)))
  have HVa := Lib.hid (HV6.out.below hA8)
  have HVb : Hid (PtV ((w6.alloc (.cells #[.slice ab2 nb1 cb2, .slice ap2 np1 cp2, .int .i64 r1.1.code, .int .i64 r1.1.last, .int .i64 r1.1.add, .int .i64 r1.1.flow, .bool r1.1.fin, .bool r1.1.whole, .bool r1.1.acked] 29)).alloc (.cells #[.int .i64 r1.2.1.1, .int .i64 r1.2.1.2] 32)) (.agg #[.slice ab2 nb1 cb2, .slice ap2 np1 cp2, .int .i64 r1.1.code, .int .i64 r1.1.last, .int .i64 r1.1.add, .int .i64 r1.1.flow, .bool r1.1.fin, .bool r1.1.whole, .bool r1.1.acked]) r1.1) := Lib.hid (by
    obtain ⟨_, _, e, h1, h2⟩ := HV2.out.below hA8
    simp only [Value.agg.injEq, Array.mk.injEq, List.cons.injEq] at e
    obtain ⟨rfl, rfl, _⟩ := e
    exact ⟨_, _, rfl, h1, h2⟩)
  have hQ7 := heap_alloc_new (w6.alloc (.cells #[.slice ab2 nb1 cb2, .slice ap2 np1 cp2, .int .i64 r1.1.code, .int .i64 r1.1.last, .int .i64 r1.1.add, .int .i64 r1.1.flow, .bool r1.1.fin, .bool r1.1.whole, .bool r1.1.acked] 29)) (.cells #[.int .i64 r1.2.1.1, .int .i64 r1.2.1.2] 32)
  have hsz6 : (w6.alloc (.cells #[.slice ab2 nb1 cb2, .slice ap2 np1 cp2, .int .i64 r1.1.code, .int .i64 r1.1.last, .int .i64 r1.1.add, .int .i64 r1.1.flow, .bool r1.1.fin, .bool r1.1.whole, .bool r1.1.acked] 29)).heap.size = w6.heap.size + 1 := by simp
  rw [hsz6] at hQ7
  have HQa := Lib.hid ((hA8.block _ (Array.getElem?_eq_some_iff.1 hQ6.out).1).trans hQ6.out)
  have HQb := Lib.hid hQ7
  have B8 := Lib.hid (B6.out.trans (hA8.mono B6.out.size))
  clear hA8 hPb hQ7 hsz6 hQ6 HV6 HV2 hP6 hG6 hF6
  obtain ⟨rb, hrb⟩ : ∃ b, r1.2.2 = b := ⟨_, rfl⟩
  rw [hrb] at q3 ⊢
  cases rb
  · clear q3
    go_wp2_with fail
    refine wp_region_table 5 [98, 99, 100, 101, 102] [[], [(0, 98)], [], [(2, 100)], [(1, 99), (3, 101)]]
      (fun i v w' => match i with
        | 0 => v = .agg #[.slice ab1 nb1 cb1, .slice ap1 np1 cp1, .int .i64 r1.1.code, .int .i64 r1.1.last, .int .i64 r1.1.add, .int .i64 r1.1.flow, .bool r1.1.fin, .bool r1.1.whole, .bool r1.1.acked]
        | 1 => PtV w' v r1.1
        | 2 => v = .agg #[.slice ab2 nb1 cb2, .slice ap2 np1 cp2, .int .i64 r1.1.code, .int .i64 r1.1.last, .int .i64 r1.1.add, .int .i64 r1.1.flow, .bool r1.1.fin, .bool r1.1.whole, .bool r1.1.acked]
        | 3 => PtV w' v r1.1
        | 4 => v = .bool true
        | _ => True) (by kernel_rfl) (by kernel_rfl) ?tStab ?tOps ?tRest
    case tStab =>
      intro i v w3 w4 h hb
      match i, h with
      | 0, h | 2, h | 4, h => exact h
      | 1, h => exact h.below hb
      | 3, h => exact h.below hb
      | i + 5, _ => trivial
    case tOps =>
      simp only [List.take_succ_cons, List.take_zero, opsOk]
      refine ⟨?_, ?_, ?_, ?_, ?_, trivial⟩
      · intro ρ w3 hc hf ho hB hj
        have x0 : ρ (.tmp 6) = .pointer (some ⟨w4.heap.size, 0, none⟩) := ho 6 (by decide)
        obtain ⟨c0, c1, c2, c3, c4, c5, c6, c7, c8⟩ := (HPa.out.grown hB).cs
        simp [gives, go_sem, x0, c0, c1, c2, c3, c4, c5, c6, c7, c8, Below.refl]
      · intro ρ w3 hc hf ho hB hj
        have x0 : ρ (.tmp 98) = .agg #[.slice ab1 nb1 cb1, .slice ap1 np1 cp1, .int .i64 r1.1.code, .int .i64 r1.1.last, .int .i64 r1.1.add, .int .i64 r1.1.flow, .bool r1.1.fin, .bool r1.1.whole, .bool r1.1.acked] := hj (0, 98) (by simp)
        simp [gives, go_sem, x0, hf]
        refine (of11_any _ r1.1 _ (HVa.out.below hB) HPL.out).mono ?_
        rintro e w9 ⟨v9, rfl, hv9, hb9⟩
        exact ⟨_, rfl, hv9, hb9⟩
      · intro ρ w3 hc hf ho hB hj
        have x0 : ρ (.tmp 9) = .pointer (some ⟨w6.heap.size, 0, none⟩) := ho 9 (by decide)
        obtain ⟨c0, c1, c2, c3, c4, c5, c6, c7, c8⟩ := (HPb.out.grown hB).cs
        simp [gives, go_sem, x0, c0, c1, c2, c3, c4, c5, c6, c7, c8, Below.refl]
      · intro ρ w3 hc hf ho hB hj
        have x0 : ρ (.tmp 100) = .agg #[.slice ab2 nb1 cb2, .slice ap2 np1 cp2, .int .i64 r1.1.code, .int .i64 r1.1.last, .int .i64 r1.1.add, .int .i64 r1.1.flow, .bool r1.1.fin, .bool r1.1.whole, .bool r1.1.acked] := hj (2, 100) (by simp)
        simp [gives, go_sem, x0, hf]
        refine (of11_any _ r1.1 _ (HVb.out.below hB) HPL.out).mono ?_
        rintro e w9 ⟨v9, rfl, hv9, hb9⟩
        exact ⟨_, rfl, hv9, hb9⟩
      · intro ρ w3 hc hf ho hB hj
        have x0 : PtV w3 (ρ (.tmp 99)) r1.1 := hj (1, 99) (by simp)
        have x1 : PtV w3 (ρ (.tmp 101)) r1.1 := hj (3, 101) (by simp)
        simp [gives, go_sem, hf]
        refine (refSame11_eq _ _ r1.1 _ x0 x1).mono ?_
        rintro e w9 ⟨rfl, hb9⟩
        exact ⟨_, rfl, rfl, hb9⟩
    case tRest =>
      intro X w3 hBw hX
      have x0 : X 0 = .agg #[.slice ab1 nb1 cb1, .slice ap1 np1 cp1, .int .i64 r1.1.code, .int .i64 r1.1.last, .int .i64 r1.1.add, .int .i64 r1.1.flow, .bool r1.1.fin, .bool r1.1.whole, .bool r1.1.acked] := hX 0 (by decide)
      have x1 := hX 1 (by decide)
      have x2 : X 2 = .agg #[.slice ab2 nb1 cb2, .slice ap2 np1 cp2, .int .i64 r1.1.code, .int .i64 r1.1.last, .int .i64 r1.1.add, .int .i64 r1.1.flow, .bool r1.1.fin, .bool r1.1.whole, .bool r1.1.acked] := hX 2 (by decide)
      have x3 := hX 3 (by decide)
      have x4 : X 4 = .bool true := hX 4 (by decide)
      simp only [putAll, List.getD_cons_zero, List.getD_cons_succ, Act.put, List.setIfInBounds_toArray, List.set_cons_zero, List.set_cons_succ, List.drop_succ_cons, List.drop_zero]
      rw [x0, x2, x4]
      clear x0 x1 x2 x3 x4 hX
      have HB9 := Lib.hid (B8.out.trans (hBw.mono B8.out.size))
      have k1 := (hBw.block _ (Array.getElem?_eq_some_iff.1 HQa.out).1).trans HQa.out
      have k2 := (hBw.block _ (Array.getElem?_eq_some_iff.1 HQb.out).1).trans HQb.out
      clear hBw
      go_wp2_with fail
      refine (alive11 _).mono ?_
      rintro e w9 ⟨rfl, hb9⟩
      have u1 := (hb9.block _ (Array.getElem?_eq_some_iff.1 k1).1).trans k1
      have u2 := (hb9.block _ (Array.getElem?_eq_some_iff.1 k2).1).trans k2
      have v1 := blk_cell (j := 0) u1 rfl
      have v2 := blk_cell (j := 1) u1 rfl
      have v3 := blk_cell (j := 0) u2 rfl
      have v4 := blk_cell (j := 1) u2 rfl
      have HBa := Lib.hid (HB9.out.trans (hb9.mono HB9.out.size))
      clear u1 u2 k1 k2 hb9
      go_wp2_with fail
      go_ret
      exact ⟨rfl, HBa.out⟩
  · clear q3
    go_wp2_with fail
    refine wp_region_table 5 [98, 99, 100, 101, 102] [[], [(0, 98)], [], [(2, 100)], [(1, 99), (3, 101)]]
      (fun i v w' => match i with
        | 0 => v = .agg #[.slice ab1 nb1 cb1, .slice ap1 np1 cp1, .int .i64 r1.1.code, .int .i64 r1.1.last, .int .i64 r1.1.add, .int .i64 r1.1.flow, .bool r1.1.fin, .bool r1.1.whole, .bool r1.1.acked]
        | 1 => PtV w' v r1.1
        | 2 => v = .agg #[.slice ab2 nb1 cb2, .slice ap2 np1 cp2, .int .i64 r1.1.code, .int .i64 r1.1.last, .int .i64 r1.1.add, .int .i64 r1.1.flow, .bool r1.1.fin, .bool r1.1.whole, .bool r1.1.acked]
        | 3 => PtV w' v r1.1
        | 4 => v = .bool true
        | _ => True) (by kernel_rfl) (by kernel_rfl) ?tStab ?tOps ?tRest
    case tStab =>
      intro i v w3 w4 h hb
      match i, h with
      | 0, h | 2, h | 4, h => exact h
      | 1, h => exact h.below hb
      | 3, h => exact h.below hb
      | i + 5, _ => trivial
    case tOps =>
      simp only [List.take_succ_cons, List.take_zero, opsOk]
      refine ⟨?_, ?_, ?_, ?_, ?_, trivial⟩
      · intro ρ w3 hc hf ho hB hj
        have x0 : ρ (.tmp 6) = .pointer (some ⟨w4.heap.size, 0, none⟩) := ho 6 (by decide)
        obtain ⟨c0, c1, c2, c3, c4, c5, c6, c7, c8⟩ := (HPa.out.grown hB).cs
        simp [gives, go_sem, x0, c0, c1, c2, c3, c4, c5, c6, c7, c8, Below.refl]
      · intro ρ w3 hc hf ho hB hj
        have x0 : ρ (.tmp 98) = .agg #[.slice ab1 nb1 cb1, .slice ap1 np1 cp1, .int .i64 r1.1.code, .int .i64 r1.1.last, .int .i64 r1.1.add, .int .i64 r1.1.flow, .bool r1.1.fin, .bool r1.1.whole, .bool r1.1.acked] := hj (0, 98) (by simp)
        simp [gives, go_sem, x0, hf]
        refine (of11_any _ r1.1 _ (HVa.out.below hB) HPL.out).mono ?_
        rintro e w9 ⟨v9, rfl, hv9, hb9⟩
        exact ⟨_, rfl, hv9, hb9⟩
      · intro ρ w3 hc hf ho hB hj
        have x0 : ρ (.tmp 9) = .pointer (some ⟨w6.heap.size, 0, none⟩) := ho 9 (by decide)
        obtain ⟨c0, c1, c2, c3, c4, c5, c6, c7, c8⟩ := (HPb.out.grown hB).cs
        simp [gives, go_sem, x0, c0, c1, c2, c3, c4, c5, c6, c7, c8, Below.refl]
      · intro ρ w3 hc hf ho hB hj
        have x0 : ρ (.tmp 100) = .agg #[.slice ab2 nb1 cb2, .slice ap2 np1 cp2, .int .i64 r1.1.code, .int .i64 r1.1.last, .int .i64 r1.1.add, .int .i64 r1.1.flow, .bool r1.1.fin, .bool r1.1.whole, .bool r1.1.acked] := hj (2, 100) (by simp)
        simp [gives, go_sem, x0, hf]
        refine (of11_any _ r1.1 _ (HVb.out.below hB) HPL.out).mono ?_
        rintro e w9 ⟨v9, rfl, hv9, hb9⟩
        exact ⟨_, rfl, hv9, hb9⟩
      · intro ρ w3 hc hf ho hB hj
        have x0 : PtV w3 (ρ (.tmp 99)) r1.1 := hj (1, 99) (by simp)
        have x1 : PtV w3 (ρ (.tmp 101)) r1.1 := hj (3, 101) (by simp)
        simp [gives, go_sem, hf]
        refine (refSame11_eq _ _ r1.1 _ x0 x1).mono ?_
        rintro e w9 ⟨rfl, hb9⟩
        exact ⟨_, rfl, rfl, hb9⟩
    case tRest =>
      intro X w3 hBw hX
      have x0 : X 0 = .agg #[.slice ab1 nb1 cb1, .slice ap1 np1 cp1, .int .i64 r1.1.code, .int .i64 r1.1.last, .int .i64 r1.1.add, .int .i64 r1.1.flow, .bool r1.1.fin, .bool r1.1.whole, .bool r1.1.acked] := hX 0 (by decide)
      have x1 := hX 1 (by decide)
      have x2 : X 2 = .agg #[.slice ab2 nb1 cb2, .slice ap2 np1 cp2, .int .i64 r1.1.code, .int .i64 r1.1.last, .int .i64 r1.1.add, .int .i64 r1.1.flow, .bool r1.1.fin, .bool r1.1.whole, .bool r1.1.acked] := hX 2 (by decide)
      have x3 := hX 3 (by decide)
      have x4 : X 4 = .bool true := hX 4 (by decide)
      simp only [putAll, List.getD_cons_zero, List.getD_cons_succ, Act.put, List.setIfInBounds_toArray, List.set_cons_zero, List.set_cons_succ, List.drop_succ_cons, List.drop_zero]
      rw [x0, x2, x4]
      clear x0 x1 x2 x3 x4 hX
      have HB9 := Lib.hid (B8.out.trans (hBw.mono B8.out.size))
      have k1 := (hBw.block _ (Array.getElem?_eq_some_iff.1 HQa.out).1).trans HQa.out
      have k2 := (hBw.block _ (Array.getElem?_eq_some_iff.1 HQb.out).1).trans HQb.out
      clear hBw
      go_wp2_with fail
      refine (alive11 _).mono ?_
      rintro e w9 ⟨rfl, hb9⟩
      have u1 := (hb9.block _ (Array.getElem?_eq_some_iff.1 k1).1).trans k1
      have u2 := (hb9.block _ (Array.getElem?_eq_some_iff.1 k2).1).trans k2
      have v1 := blk_cell (j := 0) u1 rfl
      have v2 := blk_cell (j := 1) u1 rfl
      have v3 := blk_cell (j := 0) u2 rfl
      have v4 := blk_cell (j := 1) u2 rfl
      have HBa := Lib.hid (HB9.out.trans (hb9.mono HB9.out.size))
      clear u1 u2 k1 k2 hb9
      go_wp2_with fail
      go_ret
      exact ⟨rfl, HBa.out⟩
set_option maxHeartbeats 8000000 in
/-- kind 1, with the flag -/
theorem padded11_b1 (v : Value) (flags stream : Int) (pay : List Int) (n : Nat) (w : World) (h : FrV w v ⟨1, (flags + 8), stream, pay⟩) (hn : n < 256) (hlen : pay.length ≤ 500) (h0 : 0 ≤ flags) (h1 : flags + 8 ≤ 263) (h1' : (flags + 8) ≤ 255) (h8 : ¬ flags / 8 % 2 = 1) :
    Calls Try.prog 3 #[v, .int .u8 (n : Int)] w fun e w' => e = .returned (.bool true) ∧ Below w.heap.size w w' := by
  obtain ⟨pv, rfl, hp⟩ := h
  simp only at hp ⊢
  obtain ⟨ap, cp, rfl, hcp, _⟩ := id hp
  obtain ⟨N, hN⟩ : ∃ N, N = pay.length := ⟨_, rfl⟩
  rw [← hN] at hp hlen hcp ⊢
  have hal := (Below.refl w.heap.size w).alloc (Nat.le_refl _) (.cells #[.int .i64 1, .int .i64 flags, .int .i64 stream, .slice ap N cp] 25)
  have HB := Lib.hid hal
  have hbx := Bx.new w 25 ⟨1, flags, stream, pay⟩ (.slice ap N cp)
  have hby := Bx.new w 25 ⟨1, (flags + 8), stream, pay⟩ (.slice ap N cp)
  have c0 := hby.c0
  have c1 := hby.c1
  have c3 := hby.c3
  have hsz := hby.lt
  simp only at c0 c1 c3 hsz
  have HP := Lib.hid hp
  have HX := Lib.hid hbx
  clear hal hp hbx hby
  have HN := Lib.hid hN
  clear hN
  have g1 : decide ((500 : Int) < (N : Int)) = false := by simp; omega
  have g2 : decide ((flags + 8) < 0) = false := by simp; omega
  have g3 : decide ((255 : Int) < (flags + 8)) = false := by simp; omega
  have ht1 : ((flags + 8)).tdiv 8 = ((flags + 8)) / 8 := Int.tdiv_eq_ediv_of_nonneg (by omega)
  have ht2 : (((flags + 8)) / 8).tmod 2 = ((flags + 8)) / 8 % 2 := Int.tmod_eq_emod_of_nonneg (by omega)
  have g5 : (((flags + 8)) / 8 % 2 == 1) = true := by simp; omega
  have HW2 : Below w.heap.size w ((w.alloc (.cells #[.int .i64 1, .int .i64 flags, .int .i64 stream, .slice ap N cp] 25)).alloc (.cells #[.int .i64 1, .int .i64 (flags + 8), .int .i64 stream, .slice ap N cp] 25)) := HB.out.trans ((Below.refl _ _).alloc (by simp) (.cells #[.int .i64 1, .int .i64 (flags + 8), .int .i64 stream, .slice ap N cp] 25))
  have HW3 := Lib.hid (HW2.trans ((Below.refl _ _).alloc (by simp; omega) (.cells #[.int .u8 (n : Int)] 5)))
  have hO0 : (((w.alloc (.cells #[.int .i64 1, .int .i64 flags, .int .i64 stream, .slice ap N cp] 25)).alloc (.cells #[.int .i64 1, .int .i64 (flags + 8), .int .i64 stream, .slice ap N cp] 25)).alloc (.cells #[.int .u8 (n : Int)] 5)).ownsRow (w.heap.size + 1 + 1) 5 1 (.slice (some ⟨w.heap.size + 1 + 1, 0, none⟩) 1 1) 1 ([(n : Int)].map (Value.int .u8)) := by
    have h := World.ownsRow_lit (size := 1) (base := w.heap.size + 1 + 1) (e := 5) ((w.alloc (.cells #[.int .i64 1, .int .i64 flags, .int .i64 stream, .slice ap N cp] 25)).alloc (.cells #[.int .i64 1, .int .i64 (flags + 8), .int .i64 stream, .slice ap N cp] 25)) #[.int .u8 (n : Int)] 1 (by simp) (by unfold maxLen; omega) (by simp)
    simpa using h
  have hP3 := HP.out.below HW3.out
  have HG : Hid (Bx ((w.alloc (.cells #[.int .i64 1, .int .i64 flags, .int .i64 stream, .slice ap N cp] 25)).alloc (.cells #[.int .i64 1, .int .i64 (flags + 8), .int .i64 stream, .slice ap N cp] 25)) (w.heap.size + 1) 25 ⟨1, flags + 8, stream, pay⟩ (.slice ap N cp)) := Lib.hid (by
    have h := Bx.new (w.alloc (.cells #[.int .i64 1, .int .i64 flags, .int .i64 stream, .slice ap N cp] 25)) 25 ⟨1, flags + 8, stream, pay⟩ (.slice ap N cp)
    simpa using h)
  have HF := Lib.hid (HX.out.below ((Below.refl _ _).alloc (Nat.le_refl _) (.cells #[.int .i64 1, .int .i64 (flags + 8), .int .i64 stream, .slice ap N cp] 25)))
  have HL1 := Lib.hid (show [(n : Int)].length + pay.length ≤ 501 by have := HN.out; simp; omega)
  have HW2' : Hid (Below (w.heap.size + 1 + 1) ((w.alloc (.cells #[.int .i64 1, .int .i64 flags, .int .i64 stream, .slice ap N cp] 25)).alloc (.cells #[.int .i64 1, .int .i64 (flags + 8), .int .i64 stream, .slice ap N cp] 25)) (((w.alloc (.cells #[.int .i64 1, .int .i64 flags, .int .i64 stream, .slice ap N cp] 25)).alloc (.cells #[.int .i64 1, .int .i64 (flags + 8), .int .i64 stream, .slice ap N cp] 25)).alloc (.cells #[.int .u8 (n : Int)] 5))) := Lib.hid ((Below.refl _ _).alloc (by simp) _)
  have HW2h := Lib.hid HW2
  clear HW2
  obtain ⟨fr, hfr⟩ : ∃ fr, fr = (⟨1, flags, stream, pay⟩ : Fr) := ⟨_, rfl⟩
  have HFR := Lib.hid hfr
  have HLF := Lib.hid (show fr.pay.length ≤ 500 by rw [hfr]; simp only; have := HN.out; omega)
  have HPS := Lib.hid (pad_same (f := fr) (n := n) (by rw [hfr]; simp) (by rw [hfr]; exact h0) (by rw [hfr]; show flags ≤ 255; omega) (by rw [hfr]; exact h8) HLF.out (by omega))
  have HRP := Lib.hid (readF_pairs (f := fr) (by rw [hfr]; simp))
  clear hfr
  go_enter Try.func3, Try.ntmps3
  go_wp2_with (first
    | (at_builtin; refine app_ints rfl (.tmp 53) (.tmp 55) 23 rfl (w.heap.size + 1 + 1) 5 .u8 1 Try.underlying23 Try.info5' _ 1 [(n : Int)] rfl hO0 _ pay rfl hP3 (by have := HL1.out; omega) (by have := HL1.out; unfold maxLen; omega) (by simp) ?_; intro v1 w1 own1 hb1 hg1; obtain ⟨g1, cap1, rfl, hge1, hlt1⟩ := World.ownsRow.form own1 (by simp; omega); have HB1 := Lib.hid (Below.trans (HW2'.out) hb1); have hsz1 := hb1.size; clear hO0 hP3 hb1 hg1)
    | (at_builtin; refine app_zeros rfl (.tmp 56) (.tmp 58) 23 3 rfl (w.heap.size + 1 + 1) 5 Try.underlying23 Try.underlying3 Try.info5' g1 _ cap1 _ rfl n rfl own1 (by have := HL1.out; omega) (by (try simp at hsz1); omega) ?_; intro v2 w2 own2 hg2; obtain ⟨p2, cap2, rfl, hge2, hlt2⟩ := World.ownsRow.form own2 (by (try simp); omega); have hs5 : w.heap.size + 1 + 1 ≤ w1.heap.size := (by (try simp at hsz1); omega); have G2 := HG.out.kept2 HB1.out hg2 hge1 hs5 (by omega); have F2 := HF.out.kept2 HB1.out hg2 hge1 hs5 (by omega); have e3 := G2.c3; have fz := blk_free (j := 3) G2; have d0 := F2.c0; have d1 := F2.c1; have d2 := F2.c2; have d3 := F2.c3; have s2 := G2.lt; have s3 := F2.lt; have HF2 := Lib.hid F2; have HG2 := Lib.hid G2; have HO2 := Lib.hid own2; have HB2 := Lib.hid (HB1.out.grown hg2 hs5 (fun k hk => by cases hk; exact hge1)); clear F2 G2 own1 hg2 own2))
  have G3 := Lib.hid (HG2.out.s3' (.slice (some ⟨p2, 0, none⟩) (1 + pay.length + n) cap2))
  have F3 : Hid (Bx _ w.heap.size 25 ⟨_, flags, stream, pay⟩ (.slice ap N cp)) := Lib.hid ((Below.heap_setCell w2 ⟨w.heap.size + 1, 3, none⟩ (.slice (some ⟨p2, 0, none⟩) (1 + pay.length + n) cap2) w.heap.size (by simp)).trans HF2.out)
  have O3 := ownsRow_setCell_below HO2.out (a := ⟨w.heap.size + 1, 3, none⟩) (by simp) (.slice (some ⟨p2, 0, none⟩) (1 + pay.length + n) cap2)
  have B3 := Lib.hid ((HW2h.out.trans (HB2.out.mono (by omega))).setCell (p := ⟨w.heap.size + 1, 3, none⟩) (by simp) (.slice (some ⟨p2, 0, none⟩) (1 + pay.length + n) cap2))
  have S3 := Lib.hid (pad_sl O3 HP.out.fit (by omega) (by have := HN.out; omega))
  clear O3 HG2 HF2 HO2 HB2 HW2h e3 fz d0 d1 d2 d3 s2 s3 HB1 hsz1 hs5 HW2' HF HG HW3 HB HX c0 c1 c3 hsz HL1
  generalize World.setCell w2 _ _ = w3 at *
  have hp3 : Sl .u8 w3 (.slice ap N cp) pay := HP.out.below B3.out
  have d0 := F3.out.c0
  have d1 := F3.out.c1
  have d2 := F3.out.c2
  have d3 := F3.out.c3
  have s3 := F3.out.lt
  refine (pRead_any _ fr _ (by rw [HFR.out]; exact ⟨_, rfl, hp3⟩) (by have := HLF.out; omega)).mono ?_
  rintro e w4 ⟨pv1, rfl, hv1, hb4⟩
  obtain ⟨r1, hr1⟩ : ∃ r, readF fr = r := ⟨_, rfl⟩
  rw [hr1] at hv1 ⊢
  have HR1 := Lib.hid hr1
  clear hr1 d0 d1 d2 d3 s3 hp3
  obtain ⟨bu1, pu1, rfl, hbu1, hpu1⟩ := id hv1
  obtain ⟨ab1, cb1, rfl, _⟩ := id hbu1
  obtain ⟨ap1, cp1, rfl, _, _⟩ := hpu1.shape
  obtain ⟨nb1, hnb1⟩ : ∃ k, k = r1.1.bytes.length := ⟨_, rfl⟩
  obtain ⟨np1, hnp1⟩ : ∃ k, k = r1.1.pairs.length := ⟨_, rfl⟩
  rw [← hnb1, ← hnp1] at hv1 ⊢
  have HNB1 := Lib.hid hnb1
  have HNP1 := Lib.hid hnp1
  clear hnb1 hnp1
  have HV1 := Lib.hid hv1
  have G4 := Lib.hid (G3.out.below hb4)
  have F4 := Lib.hid (Bx.below F3.out hb4)
  have S4 := Lib.hid (S3.out.below hb4)
  have B4 := Lib.hid (B3.out.trans (hb4.mono B3.out.size))
  clear hv1 hbu1 hpu1 G3 F3 S3 B3 hb4
  have hA := (Below.refl w4.heap.size w4).alloc (Nat.le_refl _) (.cells #[.slice ab1 nb1 cb1, .slice ap1 np1 cp1, .int .i64 r1.1.code, .int .i64 r1.1.last, .int .i64 r1.1.add, .int .i64 r1.1.flow, .bool r1.1.fin, .bool r1.1.whole, .bool r1.1.acked] 29)
  have hA2 := hA.alloc (by simp) (.cells #[.int .i64 r1.2.1.1, .int .i64 r1.2.1.2] 32)
  have S5 := S4.out.below hA2
  have hG5 := Bx.below G4.out hA2
  have d0 := hG5.c0
  have d1 := hG5.c1
  have d2 := hG5.c2
  have d3 := hG5.c3
  have s3 := G4.out.lt
  clear hG5
  simp only at d0 d1 d2 d3
  have HA2 := Lib.hid hA2
  clear hA hA2
  go_wp2_with fail
  refine (pRead_any _ (padF fr n) _ (by rw [HFR.out]; exact ⟨_, rfl, S5⟩) (by have := HLF.out; simp [padF]; omega)).mono ?_
  rintro e w6 ⟨pv2, rfl, hv2, hb6⟩
  obtain ⟨q1, q2, q3⟩ := HPS.out
  rw [HR1.out] at q1 q2 q3
  obtain ⟨fl2, hfl⟩ : ∃ z, z = (readF (padF fr n)).1.flow := ⟨_, rfl⟩
  have e2 : readF (padF fr n) = ({ r1.1 with flow := fl2 }, r1.2) := by rw [hfl]; exact Prod.ext (pt_back q2) q1
  rw [e2] at hv2 q3 ⊢
  have HPL : Hid (r1.1.pairs.length ≤ 1000000) := Lib.hid (by rw [← HR1.out, HRP.out]; simp)
  clear e2 hfl q1 q2 HPS HR1 HRP d0 d1 d2 d3 s3 S5
  simp only at hv2 q3 ⊢
  obtain ⟨bu2, pu2, rfl, hbu2, hpu2⟩ := id hv2
  obtain ⟨ab2, cb2, rfl, _⟩ := id hbu2
  obtain ⟨ap2, cp2, rfl, _, _⟩ := hpu2.shape
  simp only at hv2 ⊢
  rw [← HNB1.out, ← HNP1.out] at hv2 ⊢
  have HV2 := Lib.hid hv2
  clear hv2 hbu2 hpu2
  have hP4 : PtsAt (w4.alloc (.cells #[.slice ab1 nb1 cb1, .slice ap1 np1 cp1, .int .i64 r1.1.code, .int .i64 r1.1.last, .int .i64 r1.1.add, .int .i64 r1.1.flow, .bool r1.1.fin, .bool r1.1.whole, .bool r1.1.acked] 29)) 29 w4.heap.size (.slice ab1 nb1 cb1) (.slice ap1 np1 cp1) r1.1 := PtsAt.new w4 _ _ _ _
  have hQ4 := heap_alloc_new (w4.alloc (.cells #[.slice ab1 nb1 cb1, .slice ap1 np1 cp1, .int .i64 r1.1.code, .int .i64 r1.1.last, .int .i64 r1.1.add, .int .i64 r1.1.flow, .bool r1.1.fin, .bool r1.1.whole, .bool r1.1.acked] 29)) (.cells #[.int .i64 r1.2.1.1, .int .i64 r1.2.1.2] 32)
  have hsz4 : (w4.alloc (.cells #[.slice ab1 nb1 cb1, .slice ap1 np1 cp1, .int .i64 r1.1.code, .int .i64 r1.1.last, .int .i64 r1.1.add, .int .i64 r1.1.flow, .bool r1.1.fin, .bool r1.1.whole, .bool r1.1.acked] 29)).heap.size = w4.heap.size + 1 := by simp
  rw [hsz4] at hQ4
  clear hsz4
  have hP6 := Lib.hid ((hP4.grown ((Below.refl _ _).alloc (Nat.le_refl _) (.cells #[.int .i64 r1.2.1.1, .int .i64 r1.2.1.2] 32))).grown hb6)
  have hQ6 := Lib.hid ((hb6.block _ (Array.getElem?_eq_some_iff.1 hQ4).1).trans hQ4)
  have hG6 := Lib.hid ((Bx.below G4.out HA2.out).below hb6)
  have hF6 := Lib.hid ((Bx.below F4.out HA2.out).below hb6)
  have HV6 := Lib.hid ((HV1.out.below HA2.out).below hb6)
  have B6 := Lib.hid (B4.out.trans ((HA2.out.trans (hb6.mono HA2.out.size)).mono B4.out.size))
  clear hP4 hQ4 hb6 HV1 HA2 G4 F4 S4 B4
  have hA7 := ((Below.refl w6.heap.size w6).alloc (Nat.le_refl _) (.cells #[.slice ab2 nb1 cb2, .slice ap2 np1 cp2, .int .i64 r1.1.code, .int .i64 r1.1.last, .int .i64 r1.1.add, .int .i64 fl2, .bool r1.1.fin, .bool r1.1.whole, .bool r1.1.acked] 29)).alloc (by simp) (.cells #[.int .i64 r1.2.1.1, .int .i64 r1.2.1.2] 32)
  obtain ⟨_, _, _, _, _, k5, _⟩ := (hP6.out.grown hA7).cs
  have hG7 := Bx.below hG6.out hA7
  have hF7 := Bx.below hF6.out hA7
  have d3 := hG7.c3
  have f0 := hF7.c0
  have f3 := hF7.c3
  simp only at d3 f0 f3
  clear hG7 hF7 hA7
  have L1 := hP6.out.lt
  have L2 := hG6.out.lt
  have L3 := hF6.out.lt
  have hA8 := ((Below.refl w6.heap.size w6).alloc (Nat.le_refl _) (.cells #[.slice ab2 nb1 cb2, .slice ap2 np1 cp2, .int .i64 r1.1.code, .int .i64 r1.1.last, .int .i64 r1.1.add, .int .i64 r1.1.flow, .bool r1.1.fin, .bool r1.1.whole, .bool r1.1.acked] 29)).alloc (by simp) (.cells #[.int .i64 r1.2.1.1, .int .i64 r1.2.1.2] 32)
  have HPa := Lib.hid (hP6.out.grown hA8)
  have hPb : PtsAt (w6.alloc (.cells #[.slice ab2 nb1 cb2, .slice ap2 np1 cp2, .int .i64 r1.1.code, .int .i64 r1.1.last, .int .i64 r1.1.add, .int .i64 r1.1.flow, .bool r1.1.fin, .bool r1.1.whole, .bool r1.1.acked] 29)) 29 w6.heap.size (.slice ab2 nb1 cb2) (.slice ap2 np1 cp2) r1.1 := PtsAt.new w6 _ _ _ _
  have HPb := Lib.hid (hPb.grown ((Below.refl _ _).alloc (Nat.le_refl _) (.cells #[.int .i64 r1.2.1.1, .int .i64 r1.2.1.2] 32)))
  have HVa := Lib.hid (HV6.out.below hA8)
  have HVb : Hid (PtV ((w6.alloc (.cells #[.slice ab2 nb1 cb2, .slice ap2 np1 cp2, .int .i64 r1.1.code, .int .i64 r1.1.last, .int .i64 r1.1.add, .int .i64 r1.1.flow, .bool r1.1.fin, .bool r1.1.whole, .bool r1.1.acked] 29)).alloc (.cells #[.int .i64 r1.2.1.1, .int .i64 r1.2.1.2] 32)) (.agg #[.slice ab2 nb1 cb2, .slice ap2 np1 cp2, .int .i64 r1.1.code, .int .i64 r1.1.last, .int .i64 r1.1.add, .int .i64 r1.1.flow, .bool r1.1.fin, .bool r1.1.whole, .bool r1.1.acked]) r1.1) := Lib.hid (by
    obtain ⟨_, _, e, h1, h2⟩ := HV2.out.below hA8
    simp only [Value.agg.injEq, Array.mk.injEq, List.cons.injEq] at e
    obtain ⟨rfl, rfl, _⟩ := e
    exact ⟨_, _, rfl, h1, h2⟩)
  have hQ7 := heap_alloc_new (w6.alloc (.cells #[.slice ab2 nb1 cb2, .slice ap2 np1 cp2, .int .i64 r1.1.code, .int .i64 r1.1.last, .int .i64 r1.1.add, .int .i64 r1.1.flow, .bool r1.1.fin, .bool r1.1.whole, .bool r1.1.acked] 29)) (.cells #[.int .i64 r1.2.1.1, .int .i64 r1.2.1.2] 32)
  have hsz6 : (w6.alloc (.cells #[.slice ab2 nb1 cb2, .slice ap2 np1 cp2, .int .i64 r1.1.code, .int .i64 r1.1.last, .int .i64 r1.1.add, .int .i64 r1.1.flow, .bool r1.1.fin, .bool r1.1.whole, .bool r1.1.acked] 29)).heap.size = w6.heap.size + 1 := by simp
  rw [hsz6] at hQ7
  have HQa := Lib.hid ((hA8.block _ (Array.getElem?_eq_some_iff.1 hQ6.out).1).trans hQ6.out)
  have HQb := Lib.hid hQ7
  have B8 := Lib.hid (B6.out.trans (hA8.mono B6.out.size))
  clear hA8 hPb hQ7 hsz6 hQ6 HV6 HV2 hP6 hG6 hF6
  obtain ⟨rb, hrb⟩ : ∃ b, r1.2.2 = b := ⟨_, rfl⟩
  rw [hrb] at q3 ⊢
  cases rb
  · clear q3
    go_wp2_with fail
    refine wp_region_table 5 [98, 99, 100, 101, 102] [[], [(0, 98)], [], [(2, 100)], [(1, 99), (3, 101)]]
      (fun i v w' => match i with
        | 0 => v = .agg #[.slice ab1 nb1 cb1, .slice ap1 np1 cp1, .int .i64 r1.1.code, .int .i64 r1.1.last, .int .i64 r1.1.add, .int .i64 r1.1.flow, .bool r1.1.fin, .bool r1.1.whole, .bool r1.1.acked]
        | 1 => PtV w' v r1.1
        | 2 => v = .agg #[.slice ab2 nb1 cb2, .slice ap2 np1 cp2, .int .i64 r1.1.code, .int .i64 r1.1.last, .int .i64 r1.1.add, .int .i64 r1.1.flow, .bool r1.1.fin, .bool r1.1.whole, .bool r1.1.acked]
        | 3 => PtV w' v r1.1
        | 4 => v = .bool true
        | _ => True) (by kernel_rfl) (by kernel_rfl) ?tStab ?tOps ?tRest
    case tStab =>
      intro i v w3 w4 h hb
      match i, h with
      | 0, h | 2, h | 4, h => exact h
      | 1, h => exact h.below hb
      | 3, h => exact h.below hb
      | i + 5, _ => trivial
    case tOps =>
      simp only [List.take_succ_cons, List.take_zero, opsOk]
      refine ⟨?_, ?_, ?_, ?_, ?_, trivial⟩
      · intro ρ w3 hc hf ho hB hj
        have x0 : ρ (.tmp 6) = .pointer (some ⟨w4.heap.size, 0, none⟩) := ho 6 (by decide)
        obtain ⟨c0, c1, c2, c3, c4, c5, c6, c7, c8⟩ := (HPa.out.grown hB).cs
        simp [gives, go_sem, x0, c0, c1, c2, c3, c4, c5, c6, c7, c8, Below.refl]
      · intro ρ w3 hc hf ho hB hj
        have x0 : ρ (.tmp 98) = .agg #[.slice ab1 nb1 cb1, .slice ap1 np1 cp1, .int .i64 r1.1.code, .int .i64 r1.1.last, .int .i64 r1.1.add, .int .i64 r1.1.flow, .bool r1.1.fin, .bool r1.1.whole, .bool r1.1.acked] := hj (0, 98) (by simp)
        simp [gives, go_sem, x0, hf]
        refine (of11_any _ r1.1 _ (HVa.out.below hB) HPL.out).mono ?_
        rintro e w9 ⟨v9, rfl, hv9, hb9⟩
        exact ⟨_, rfl, hv9, hb9⟩
      · intro ρ w3 hc hf ho hB hj
        have x0 : ρ (.tmp 9) = .pointer (some ⟨w6.heap.size, 0, none⟩) := ho 9 (by decide)
        obtain ⟨c0, c1, c2, c3, c4, c5, c6, c7, c8⟩ := (HPb.out.grown hB).cs
        simp [gives, go_sem, x0, c0, c1, c2, c3, c4, c5, c6, c7, c8, Below.refl]
      · intro ρ w3 hc hf ho hB hj
        have x0 : ρ (.tmp 100) = .agg #[.slice ab2 nb1 cb2, .slice ap2 np1 cp2, .int .i64 r1.1.code, .int .i64 r1.1.last, .int .i64 r1.1.add, .int .i64 r1.1.flow, .bool r1.1.fin, .bool r1.1.whole, .bool r1.1.acked] := hj (2, 100) (by simp)
        simp [gives, go_sem, x0, hf]
        refine (of11_any _ r1.1 _ (HVb.out.below hB) HPL.out).mono ?_
        rintro e w9 ⟨v9, rfl, hv9, hb9⟩
        exact ⟨_, rfl, hv9, hb9⟩
      · intro ρ w3 hc hf ho hB hj
        have x0 : PtV w3 (ρ (.tmp 99)) r1.1 := hj (1, 99) (by simp)
        have x1 : PtV w3 (ρ (.tmp 101)) r1.1 := hj (3, 101) (by simp)
        simp [gives, go_sem, hf]
        refine (refSame11_eq _ _ r1.1 _ x0 x1).mono ?_
        rintro e w9 ⟨rfl, hb9⟩
        exact ⟨_, rfl, rfl, hb9⟩
    case tRest =>
      intro X w3 hBw hX
      have x0 : X 0 = .agg #[.slice ab1 nb1 cb1, .slice ap1 np1 cp1, .int .i64 r1.1.code, .int .i64 r1.1.last, .int .i64 r1.1.add, .int .i64 r1.1.flow, .bool r1.1.fin, .bool r1.1.whole, .bool r1.1.acked] := hX 0 (by decide)
      have x1 := hX 1 (by decide)
      have x2 : X 2 = .agg #[.slice ab2 nb1 cb2, .slice ap2 np1 cp2, .int .i64 r1.1.code, .int .i64 r1.1.last, .int .i64 r1.1.add, .int .i64 r1.1.flow, .bool r1.1.fin, .bool r1.1.whole, .bool r1.1.acked] := hX 2 (by decide)
      have x3 := hX 3 (by decide)
      have x4 : X 4 = .bool true := hX 4 (by decide)
      simp only [putAll, List.getD_cons_zero, List.getD_cons_succ, Act.put, List.setIfInBounds_toArray, List.set_cons_zero, List.set_cons_succ, List.drop_succ_cons, List.drop_zero]
      rw [x0, x2, x4]
      clear x0 x1 x2 x3 x4 hX
      have HB9 := Lib.hid (B8.out.trans (hBw.mono B8.out.size))
      have k1 := (hBw.block _ (Array.getElem?_eq_some_iff.1 HQa.out).1).trans HQa.out
      have k2 := (hBw.block _ (Array.getElem?_eq_some_iff.1 HQb.out).1).trans HQb.out
      clear hBw
      go_wp2_with fail
      refine (alive11 _).mono ?_
      rintro e w9 ⟨rfl, hb9⟩
      have u1 := (hb9.block _ (Array.getElem?_eq_some_iff.1 k1).1).trans k1
      have u2 := (hb9.block _ (Array.getElem?_eq_some_iff.1 k2).1).trans k2
      have v1 := blk_cell (j := 0) u1 rfl
      have v2 := blk_cell (j := 1) u1 rfl
      have v3 := blk_cell (j := 0) u2 rfl
      have v4 := blk_cell (j := 1) u2 rfl
      have HBa := Lib.hid (HB9.out.trans (hb9.mono HB9.out.size))
      clear u1 u2 k1 k2 hb9
      go_wp2_with fail
      go_ret
      exact ⟨rfl, HBa.out⟩
  · clear q3
    go_wp2_with fail
    refine wp_region_table 5 [98, 99, 100, 101, 102] [[], [(0, 98)], [], [(2, 100)], [(1, 99), (3, 101)]]
      (fun i v w' => match i with
        | 0 => v = .agg #[.slice ab1 nb1 cb1, .slice ap1 np1 cp1, .int .i64 r1.1.code, .int .i64 r1.1.last, .int .i64 r1.1.add, .int .i64 r1.1.flow, .bool r1.1.fin, .bool r1.1.whole, .bool r1.1.acked]
        | 1 => PtV w' v r1.1
        | 2 => v = .agg #[.slice ab2 nb1 cb2, .slice ap2 np1 cp2, .int .i64 r1.1.code, .int .i64 r1.1.last, .int .i64 r1.1.add, .int .i64 r1.1.flow, .bool r1.1.fin, .bool r1.1.whole, .bool r1.1.acked]
        | 3 => PtV w' v r1.1
        | 4 => v = .bool true
        | _ => True) (by kernel_rfl) (by kernel_rfl) ?tStab ?tOps ?tRest
    case tStab =>
      intro i v w3 w4 h hb
      match i, h with
      | 0, h | 2, h | 4, h => exact h
      | 1, h => exact h.below hb
      | 3, h => exact h.below hb
      | i + 5, _ => trivial
    case tOps =>
      simp only [List.take_succ_cons, List.take_zero, opsOk]
      refine ⟨?_, ?_, ?_, ?_, ?_, trivial⟩
      · intro ρ w3 hc hf ho hB hj
        have x0 : ρ (.tmp 6) = .pointer (some ⟨w4.heap.size, 0, none⟩) := ho 6 (by decide)
        obtain ⟨c0, c1, c2, c3, c4, c5, c6, c7, c8⟩ := (HPa.out.grown hB).cs
        simp [gives, go_sem, x0, c0, c1, c2, c3, c4, c5, c6, c7, c8, Below.refl]
      · intro ρ w3 hc hf ho hB hj
        have x0 : ρ (.tmp 98) = .agg #[.slice ab1 nb1 cb1, .slice ap1 np1 cp1, .int .i64 r1.1.code, .int .i64 r1.1.last, .int .i64 r1.1.add, .int .i64 r1.1.flow, .bool r1.1.fin, .bool r1.1.whole, .bool r1.1.acked] := hj (0, 98) (by simp)
        simp [gives, go_sem, x0, hf]
        refine (of11_any _ r1.1 _ (HVa.out.below hB) HPL.out).mono ?_
        rintro e w9 ⟨v9, rfl, hv9, hb9⟩
        exact ⟨_, rfl, hv9, hb9⟩
      · intro ρ w3 hc hf ho hB hj
        have x0 : ρ (.tmp 9) = .pointer (some ⟨w6.heap.size, 0, none⟩) := ho 9 (by decide)
        obtain ⟨c0, c1, c2, c3, c4, c5, c6, c7, c8⟩ := (HPb.out.grown hB).cs
        simp [gives, go_sem, x0, c0, c1, c2, c3, c4, c5, c6, c7, c8, Below.refl]
      · intro ρ w3 hc hf ho hB hj
        have x0 : ρ (.tmp 100) = .agg #[.slice ab2 nb1 cb2, .slice ap2 np1 cp2, .int .i64 r1.1.code, .int .i64 r1.1.last, .int .i64 r1.1.add, .int .i64 r1.1.flow, .bool r1.1.fin, .bool r1.1.whole, .bool r1.1.acked] := hj (2, 100) (by simp)
        simp [gives, go_sem, x0, hf]
        refine (of11_any _ r1.1 _ (HVb.out.below hB) HPL.out).mono ?_
        rintro e w9 ⟨v9, rfl, hv9, hb9⟩
        exact ⟨_, rfl, hv9, hb9⟩
      · intro ρ w3 hc hf ho hB hj
        have x0 : PtV w3 (ρ (.tmp 99)) r1.1 := hj (1, 99) (by simp)
        have x1 : PtV w3 (ρ (.tmp 101)) r1.1 := hj (3, 101) (by simp)
        simp [gives, go_sem, hf]
        refine (refSame11_eq _ _ r1.1 _ x0 x1).mono ?_
        rintro e w9 ⟨rfl, hb9⟩
        exact ⟨_, rfl, rfl, hb9⟩
    case tRest =>
      intro X w3 hBw hX
      have x0 : X 0 = .agg #[.slice ab1 nb1 cb1, .slice ap1 np1 cp1, .int .i64 r1.1.code, .int .i64 r1.1.last, .int .i64 r1.1.add, .int .i64 r1.1.flow, .bool r1.1.fin, .bool r1.1.whole, .bool r1.1.acked] := hX 0 (by decide)
      have x1 := hX 1 (by decide)
      have x2 : X 2 = .agg #[.slice ab2 nb1 cb2, .slice ap2 np1 cp2, .int .i64 r1.1.code, .int .i64 r1.1.last, .int .i64 r1.1.add, .int .i64 r1.1.flow, .bool r1.1.fin, .bool r1.1.whole, .bool r1.1.acked] := hX 2 (by decide)
      have x3 := hX 3 (by decide)
      have x4 : X 4 = .bool true := hX 4 (by decide)
      simp only [putAll, List.getD_cons_zero, List.getD_cons_succ, Act.put, List.setIfInBounds_toArray, List.set_cons_zero, List.set_cons_succ, List.drop_succ_cons, List.drop_zero]
      rw [x0, x2, x4]
      clear x0 x1 x2 x3 x4 hX
      have HB9 := Lib.hid (B8.out.trans (hBw.mono B8.out.size))
      have k1 := (hBw.block _ (Array.getElem?_eq_some_iff.1 HQa.out).1).trans HQa.out
      have k2 := (hBw.block _ (Array.getElem?_eq_some_iff.1 HQb.out).1).trans HQb.out
      clear hBw
      go_wp2_with fail
      refine (alive11 _).mono ?_
      rintro e w9 ⟨rfl, hb9⟩
      have u1 := (hb9.block _ (Array.getElem?_eq_some_iff.1 k1).1).trans k1
      have u2 := (hb9.block _ (Array.getElem?_eq_some_iff.1 k2).1).trans k2
      have v1 := blk_cell (j := 0) u1 rfl
      have v2 := blk_cell (j := 1) u1 rfl
      have v3 := blk_cell (j := 0) u2 rfl
      have v4 := blk_cell (j := 1) u2 rfl
      have HBa := Lib.hid (HB9.out.trans (hb9.mono HB9.out.size))
      clear u1 u2 k1 k2 hb9
      go_wp2_with fail
      go_ret
      exact ⟨rfl, HBa.out⟩
end Go.Proofs.Ytohghphegcnfkaa
