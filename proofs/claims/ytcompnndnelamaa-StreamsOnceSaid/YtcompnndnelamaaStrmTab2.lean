
/-
  Layer 17's reference: Close, Kind, Begin.
-/
import Derived.Test.YtcompnndnelamaaStrmTab
namespace Go.Proofs.Ytcompnndnelamaa
set_option maxRecDepth 20000
open Go.RowKit

set_option maxHeartbeats 2000000 in
theorem rclose_any (R : Nat) (av lv : Value) (s : St17) (n : Int) (late : Bool) (w : World) (h : RtObj w R av lv s) (hA : s.A.length ≤ 1000000) (hL : s.L.length ≤ 1000000) :
    Calls Try.prog 11 #[.pointer (some ⟨R, 0, none⟩), .int .i64 n, .bool late] w fun e w' => e = .returned (.int .i64 (closeE s n)) ∧ ∃ av' lv', RtObj w' R av' lv' (closeS s n late) ∧ Turn (fun k => k = R) w w' ∧ FromV w w' av av' ∧ FromV w w' lv lv' := by
  obtain ⟨f0, f1, f2, f3, f4, f5⟩ := h.blk.cells
  have HH := Lib.hid h
  have HL := Lib.hid (And.intro hA hL)
  by_cases hm : n ∈ s.A
  · have hwf : (Lit.int .i64 n).wf = true := h.a.fit n hm
    have HM := Lib.hid (show decide (n ∈ s.A) = true ∧ (Lit.int .i64 n).wf = true from ⟨decide_eq_true hm, hwf⟩)
    have HE := Lib.hid (show closeE s n = 0 ∧ closeS s n late = if late = true then lateT { s with A := woutL s.A n } n else { s with A := woutL s.A n } from ⟨if_pos hm, if_pos hm⟩)
    clear h hA hL hm hwf
    go_enter Try.func11, Try.ntmps11
    go_wp2_with fail
    refine (has17_any _ s.A n w HH.out.a).mono ?_
    rintro e w1 ⟨rfl, rfl⟩
    rw [HM.out.1]
    go_wp2_with fail
    refine (less17_any _ s.A n w1 HH.out.a HL.out.1).mono ?_
    rintro e w2 ⟨u, rfl, ho, hb⟩
    obtain ⟨au, cu, rfl, _⟩ := owned_shape ho
    have HO := Lib.hid (And.intro ho hb)
    have j1 := hb.cell (p := ⟨R, 3, none⟩) f5
    have j2 := (HH.out.below hb).blk.free 3
    have j3 := (HH.out.below hb).blk.lt
    obtain ⟨XS, hXS⟩ : ∃ XS, woutL s.A n = XS := ⟨_, rfl⟩
    have HXS := Lib.hid (show XS.length ≤ 1000000 ∧ Fit .i64 XS by rw [← hXS]; exact ⟨Nat.le_trans (woutL_le _ _) HL.out.1, fun z hz => HH.out.a.fit z ((List.mem_filter.1 hz).1)⟩)
    rw [hXS] at HO HE ⊢
    clear ho hb hXS
    cases late
    · go_wp2_with fail
      go_ret
      obtain ⟨ho, hb⟩ := HO.out
      have hn : ∀ g, (Value.slice au XS.length cu).ownBlock = some g → g ≠ R ∧ g < w2.heap.size := fun g hg => by have := ho.lt g hg; have := HH.out.blk.lt; omega
      refine ⟨by rw [HE.out.1]; rfl, .slice au XS.length cu, lv, ?_, (Turn.of_below hb).trans (turn_set17 _ _ _), fun g hg => .inr ⟨(ho.lt g hg).1, by simpa [World.setCell] using (hn g hg).2⟩, FromV.refl _ _ _⟩
      rw [HE.out.2]
      exact (HH.out.below hb).setA (Sl.of_own ho HXS.out.2 (by have := HXS.out.1; unfold maxLen; omega)) hn
    · go_wp2_with fail
      have HW := Lib.hid (show RtObj (w2.setCell ⟨R, 3, none⟩ (.slice au XS.length cu)) R (.slice au XS.length cu) lv { s with A := XS } ∧ Turn (fun k => k = R) w1 (w2.setCell ⟨R, 3, none⟩ (.slice au XS.length cu)) ∧ FromV w1 (w2.setCell ⟨R, 3, none⟩ (.slice au XS.length cu)) av (.slice au XS.length cu) from by
        obtain ⟨ho, hb⟩ := HO.out
        have hn : ∀ g, (Value.slice au XS.length cu).ownBlock = some g → g ≠ R ∧ g < w2.heap.size := fun g hg => by have := ho.lt g hg; have := HH.out.blk.lt; omega
        exact ⟨(HH.out.below hb).setA (Sl.of_own ho HXS.out.2 (by have := HXS.out.1; unfold maxLen; omega)) hn, (Turn.of_below hb).trans (turn_set17 _ _ _), fun g hg => .inr ⟨(ho.lt g hg).1, by simpa [World.setCell] using (hn g hg).2⟩⟩)
      generalize w2.setCell ⟨R, 3, none⟩ (.slice au XS.length cu) = w3 at HW ⊢
      clear j1 j2 j3 f0 f1 f2 f3 f4 f5
      refine (rlate_any R _ lv { s with A := XS } n w3 HW.out.1 HM.out.2 HL.out.2).mono ?_
      rintro e w4 ⟨rfl, lv', h1, h2, h3⟩
      have HX := Lib.hid (And.intro h1 (And.intro h2 h3))
      clear h1 h2 h3
      go_wp2_with fail
      go_ret
      obtain ⟨h1, h2, h3⟩ := HX.out
      exact ⟨by rw [HE.out.1]; rfl, _, lv', by rw [HE.out.2]; exact h1, HW.out.2.1.trans h2, HW.out.2.2.later h2.size, (FromV.refl w1 w3 lv).trans HW.out.2.1.size h2.size h3⟩
  · have HM := Lib.hid (show decide (n ∈ s.A) = false from decide_eq_false hm)
    have HE := Lib.hid (show closeE s n = 5 ∧ closeS s n late = s from ⟨if_neg hm, if_neg hm⟩)
    clear h hA hL hm
    go_enter Try.func11, Try.ntmps11
    go_wp2_with fail
    refine (has17_any _ s.A n w HH.out.a).mono ?_
    rintro e w1 ⟨rfl, rfl⟩
    rw [HM.out]
    go_wp2_with fail
    go_ret
    exact ⟨by rw [HE.out.1]; rfl, av, lv, by rw [HE.out.2]; exact HH.out, Turn.of_below (Below.refl _ _), FromV.refl _ _ _, FromV.refl _ _ _⟩
theorem kindT_no {s : St17} {n : Int} (h : n < 1 ∨ n % 2 = 0 ∨ s.hi < n) : kindT s n = 0 := if_pos h
set_option maxHeartbeats 2000000 in
theorem rkind_any (R : Nat) (av lv : Value) (s : St17) (n : Int) (w : World) (h : RtObj w R av lv s) :
    Calls Try.prog 17 #[.pointer (some ⟨R, 0, none⟩), .int .i64 n] w fun e w' => e = .returned (.int .i64 (kindT s n)) ∧ ∃ k, w' = w.drewN k := by
  obtain ⟨f0, f1, f2, f3, f4, f5⟩ := h.blk.cells
  have HH := Lib.hid h
  clear h
  by_cases h1 : n < 1
  · have HE := Lib.hid (kindT_no (s := s) (.inl h1))
    have d1 : decide (n < 1) = true := decide_eq_true h1
    clear h1
    go_enter Try.func17, Try.ntmps17
    go_wp2_with fail
    go_ret
    exact ⟨by rw [HE.out]; rfl, 0, rfl⟩
  have d1 : decide (n < 1) = false := decide_eq_false h1
  by_cases h2 : n % 2 = 0
  · have HE := Lib.hid (kindT_no (s := s) (.inr (.inl h2)))
    have d2 : n.tmod 2 = 0 := by rw [Int.tmod_eq_emod_of_nonneg (by omega)]; exact h2
    clear h1 h2
    go_enter Try.func17, Try.ntmps17
    go_wp2_with fail
    go_ret
    exact ⟨by rw [HE.out]; rfl, 0, rfl⟩
  have d2 : n.tmod 2 = 1 := by rw [Int.tmod_eq_emod_of_nonneg (by omega)]; omega
  by_cases h3 : s.hi < n
  · have HE := Lib.hid (kindT_no (.inr (.inr h3)))
    have d3 : decide (s.hi < n) = true := decide_eq_true h3
    clear h1 h2 h3
    go_enter Try.func17, Try.ntmps17
    go_wp2_with fail
    go_ret
    exact ⟨by rw [HE.out]; rfl, 0, rfl⟩
  have d3 : decide (s.hi < n) = false := decide_eq_false h3
  have hk : kindT s n = if n ∈ s.A then 1 else if n ∈ s.L then 2 else 3 := if_neg (by omega)
  by_cases h4 : n ∈ s.A
  · have HE := Lib.hid (show kindT s n = 1 ∧ decide (n ∈ s.A) = true from ⟨by rw [hk, if_pos h4], decide_eq_true h4⟩)
    clear h1 h2 h3 h4 hk
    go_enter Try.func17, Try.ntmps17
    go_wp2_with fail
    refine (has17_any _ s.A n w HH.out.a).mono ?_
    rintro e w1 ⟨rfl, rfl⟩
    rw [HE.out.2]
    go_wp2_with fail
    go_ret
    exact ⟨by rw [HE.out.1]; rfl, 0, rfl⟩
  · by_cases h5 : n ∈ s.L
    all_goals
      have HE := Lib.hid (show kindT s n = (if n ∈ s.L then 2 else 3) ∧ decide (n ∈ s.A) = false from ⟨by rw [hk, if_neg h4], decide_eq_false h4⟩)
    · have HL := Lib.hid (show (if n ∈ s.L then (2 : Int) else 3) = 2 ∧ decide (n ∈ s.L) = true from ⟨if_pos h5, decide_eq_true h5⟩)
      clear h1 h2 h3 h4 h5 hk
      go_enter Try.func17, Try.ntmps17
      go_wp2_with fail
      refine (has17_any _ s.A n w HH.out.a).mono ?_
      rintro e w1 ⟨rfl, rfl⟩
      rw [HE.out.2]
      go_wp2_with fail
      refine (has17_any _ s.L n w1 HH.out.l).mono ?_
      rintro e w2 ⟨rfl, rfl⟩
      rw [HL.out.2]
      go_wp2_with fail
      go_ret
      exact ⟨by rw [HE.out.1, HL.out.1]; rfl, 0, rfl⟩
    · have HL := Lib.hid (show (if n ∈ s.L then (2 : Int) else 3) = 3 ∧ decide (n ∈ s.L) = false from ⟨if_neg h5, decide_eq_false h5⟩)
      clear h1 h2 h3 h4 h5 hk
      go_enter Try.func17, Try.ntmps17
      go_wp2_with fail
      refine (has17_any _ s.A n w HH.out.a).mono ?_
      rintro e w1 ⟨rfl, rfl⟩
      rw [HE.out.2]
      go_wp2_with fail
      refine (has17_any _ s.L n w1 HH.out.l).mono ?_
      rintro e w2 ⟨rfl, rfl⟩
      rw [HL.out.2]
      go_wp2_with fail
      go_ret
      exact ⟨by rw [HE.out.1, HL.out.1]; rfl, 0, rfl⟩
theorem rbegin17_any (most mem : Int) (w : World) : Calls Try.prog 7 #[.int .i64 most, .int .i64 mem] w fun e w' => e = .returned (.pointer (some ⟨w.heap.size, 0, none⟩)) ∧ RtObj w' w.heap.size (.slice none 0 0) (.slice none 0 0) (St17.new most mem) ∧ Below w.heap.size w w' := by
  go_enter Try.func7, Try.ntmps7
  go_wp2_with fail
  go_ret
  exact ⟨rfl, ⟨heap_alloc_new w _, Sl.nil _ _, Sl.nil _ _, (fun g hg => by cases hg), (fun g hg => by cases hg)⟩, (Below.refl _ _).alloc (Nat.le_refl _) _⟩
end Go.Proofs.Ytcompnndnelamaa
