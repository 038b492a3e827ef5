
/-
  Layer 12: Encode, the program's and the reference's.
-/
import Derived.Test.YtmmcpmkkgembbaaPairKit
import Derived.Test.YtmmcpmkkgembbaaOwn
import Derived.Test.YtmmcpmkkgembbaaWireWalks
import Derived.Test.YtmmcpmkkgembbaaRef01
import Derived.Deep.LoopGhost
import Derived.WalkMore
namespace Go.Proofs.Ytmmcpmkkgembbaa
set_option maxRecDepth 20000
open Go.RowKit

/-- can a pair be said? -/
def okP (p : Pr) : Bool := (decide (0 ≤ p.1) && decide (p.1 < 65536)) && (decide (0 ≤ p.2) && decide (p.2 < 4294967296))
def byt1 (p : Pr) : List Int := putL p.1 2 ++ putL p.2 4
def bytP (ps : List Pr) : List Int := ps.flatMap byt1
theorem bytP_snoc (ps : List Pr) (p : Pr) : bytP (ps ++ [p]) = (bytP ps ++ putL p.1 2) ++ putL p.2 4 := by
  unfold bytP byt1; simp
theorem byt1_length (p : Pr) : (byt1 p).length = 6 := by unfold byt1; simp [putL_length]
theorem bytP_length (ps : List Pr) : (bytP ps).length = 6 * ps.length := by
  induction ps with
  | nil => rfl
  | cons p r ih =>
    have : bytP (p :: r) = byt1 p ++ bytP r := rfl
    rw [this, List.length_append, byt1_length, ih, List.length_cons]; omega
theorem bytP_fit (ps : List Pr) : Fit .u8 (bytP ps) := by
  induction ps with
  | nil => intro n hn; cases hn
  | cons p r ih => exact Fit.append (Fit.append (putL_fit _ _) (putL_fit _ _)) ih
/-- the payload, and the error -/
def encP (ps : List Pr) : List Int × Int := bif ps.all okP then (bytP ps, 0) else ([], 1)
theorem all_no {ps : List Pr} {k : Nat} {p : Pr} (h : ps[k]? = some p) (hn : okP p = false) : ps.all okP = false := by
  rw [Bool.eq_false_iff]
  intro ha
  have := List.all_eq_true.1 ha p (List.mem_of_getElem? h)
  rw [hn] at this; cases this
theorem own_nil (w : World) (base : Nat) (e : TypeId) : w.ownsRow base e 1 (.slice none 0 0) 0 (([] : List Int).map (Value.int .u8)) := ⟨rfl, .inl ⟨rfl, rfl⟩⟩
/-- the row, and the world around it -/
def EnW (w W : World) (v : Value) (xs : List Int) : Prop := W.ownsRow w.heap.size 5 1 v xs.length (xs.map (Value.int .u8)) ∧ Below w.heap.size w W
theorem EnW.below {w W W' : World} {v : Value} {xs : List Int} (h : EnW w W v xs) (hb : Below W.heap.size W W') : EnW w W' v xs := ⟨owned_below h.1 hb, h.2.trans (hb.mono h.2.size)⟩
theorem pow2 : (256 : Int) ^ (2 : Int).toNat = 65536 := by decide
theorem pow4 : (256 : Int) ^ (4 : Int).toNat = 4294967296 := by decide

set_option maxHeartbeats 4000000 in
theorem encode12_any (v : Value) (ps : List Pr) (w : World) (h : SlP w v ps) (hl : ps.length ≤ 1000000) :
    Calls Try.prog 10 #[v] w fun e w' => ∃ x, e = .returned (.tuple #[x, .int .i64 (encP ps).2]) ∧ Sl .u8 w' x (encP ps).1 ∧ Below w.heap.size w w' := by
  obtain ⟨a, c, rfl, hc1, hc2⟩ := h.shape
  unfold maxLen at hc2
  obtain ⟨N, hN⟩ : ∃ N, N = ps.length := ⟨_, rfl⟩
  rw [← hN] at h hc1 hl ⊢
  have HN := Lib.hid hN
  have HS := Lib.hid h
  clear hN h
  obtain ⟨i0, hi, hz0, hz1, hz2⟩ := info_parts Try.info5
  go_enter Try.func10, Try.ntmps10
  go_wp2_with (at_make; refine wpList_make_own _ rfl _ _ 36 rfl w.heap.size 5 i0 (.int .u8 0) 1 Try.underlying36 hi hz0 hz1 .i64 .i64 _ (6 * N) rfl rfl (by omega) (by rw [hz2]; omega) (by unfold maxLen; omega) (Nat.le_refl _) ?_; intro w2 hown hgrow)
  have HW2 := Lib.hid (show EnW w w2 (.slice (some ⟨w.heap.size, 0, none⟩) 0 (6 * N)) (bytP []) from ⟨hown, (Below.refl _ _).grown hgrow (Nat.le_refl _) (fun k h => by simp at h)⟩)
  clear hown hgrow hz0 hz1 hz2 hi
  go_loopg [4, 6, 7, 8, 9, 16] N (fun q s4 s6 s7 s8 s9 s16 wr => ∃ k : Nat, k + q = N ∧ s16 = .int .i64 k ∧ ∃ v, s4 = v ∧ Hid ((ps.take k).all okP = true) ∧ Hid (EnW w wr v (bytP (ps.take k))))
  case atStart => exact ⟨0, by omega, rfl, _, rfl, Lib.hid rfl, HW2⟩
  case round =>
    obtain ⟨k, hkq, rfl, v, rfl, HY, HW⟩ := hrel
    have HKQ := Lib.hid hkq
    have hk : k ≤ N := by omega
    clear hkq HW2
    obtain ⟨av, cv, rfl, _⟩ := owned_shape HW.out.1
    by_cases hlt : k < N
    · obtain ⟨p, hp⟩ := pr_at (ps := ps) (k := k) (by rw [← HN.out]; exact hlt)
      obtain ⟨b, off, rfl, hbl, hcell⟩ := (HS.out.below HW.out.2).at_ (i := k) (by rw [← HN.out]; exact hlt)
      obtain ⟨c0, c1⟩ := hcell p hp
      have HP := Lib.hid hp
      clear hcell hp
      have g0 : (wr.alloc (.cells #[.int .i64 p.1, .int .i64 p.2] 45)).cell? ⟨wr.heap.size, 0, none⟩ = some (.int .i64 p.1) := blk_cell (heap_alloc_new wr _) rfl
      have g1 : (wr.alloc (.cells #[.int .i64 p.1, .int .i64 p.2] 45)).cell? ⟨wr.heap.size, 1, none⟩ = some (.int .i64 p.2) := blk_cell (heap_alloc_new wr _) rfl
      have gz : wr.heap.size < (wr.alloc (.cells #[.int .i64 p.1, .int .i64 p.2] 45)).heap.size := by simp
      have HWa := Lib.hid (HW.out.below ((Below.refl wr.heap.size wr).alloc (Nat.le_refl _) (.cells #[.int .i64 p.1, .int .i64 p.2] 45)))
      go_wp2_with fail
      by_cases ha : 0 ≤ p.1 ∧ p.1 < 65536
      · have HA := Lib.hid ha
        refine (put_own p.1 2 _ (by decide) (by decide) ha.1 (by rw [pow2]; exact ha.2)).mono ?_
        rintro e w3 ⟨va, rfl, hva, hb3⟩
        have HV3 := Lib.hid (show w3.ownsRow (wr.alloc (.cells #[.int .i64 p.1, .int .i64 p.2] 45)).heap.size 5 1 va (putL p.1 2).length ((putL p.1 2).map (Value.int .u8)) from hva)
        have HW3 := Lib.hid (HWa.out.below hb3)
        obtain ⟨aa, ca, rfl, _⟩ := owned_shape hva
        have g2 : w3.cell? ⟨wr.heap.size, 1, none⟩ = some (.int .i64 p.2) := (hb3.cell (p := ⟨wr.heap.size, 1, none⟩) gz).trans g1
        have gz3 : wr.heap.size < w3.heap.size := by have := hb3.size; omega
        clear g0 g1 hva hb3 ha c0 c1 hbl
        go_wp2_with fail
        by_cases hb : 0 ≤ p.2 ∧ p.2 < 4294967296
        · have HBd := Lib.hid hb
          refine (put_own p.2 4 _ (by decide) (by decide) hb.1 (by rw [pow4]; exact hb.2)).mono ?_
          rintro e w4 ⟨vb, rfl, hvb, hb4⟩
          have HV4 := Lib.hid (show w4.ownsRow w3.heap.size 5 1 vb (putL p.2 4).length ((putL p.2 4).map (Value.int .u8)) from hvb)
          have HW4 := Lib.hid (HW3.out.below hb4)
          have HU4 := Lib.hid (owned_below HV3.out hb4)
          obtain ⟨ab, cb, rfl, _⟩ := owned_shape hvb
          clear g2 hvb hb4 hb
          have hlen : (bytP (ps.take k)).length ≤ 6000000 := by rw [bytP_length, List.length_take]; omega
          have hgap : wr.heap.size ≤ w3.heap.size := by omega
          have hvlt : ∀ g, (Value.slice av (bytP (ps.take k)).length cv).ownBlock = some g → g < wr.heap.size := fun g hg => (HW.out.1.lt g hg).2
          go_wp2_with (first
            | (at_builtin; refine app_ints rfl (.tmp 38) (.tmp 39) 36 rfl w.heap.size 5 .u8 1 Try.underlying36 Try.info5 _ _ (bytP (ps.take k)) rfl HW4.out.1 _ _ rfl (Sl.of_own HU4.out (putL_fit _ _) (by unfold maxLen; simp [putL_length])) (by simp [putL_length]; omega) (by unfold maxLen; simp [putL_length]; omega) HW4.out.2.size ?_; intro v5 w5 own5 hc5 hg5; obtain ⟨a5, c5, rfl, _⟩ := owned_shape own5; have HV5 := Lib.hid (owned_kept HV4.out hg5 (fun g hg e => by have h1 := hvlt g e; have h2 := (HV4.out.lt g hg).1; omega)); have HW5 := Lib.hid (HW4.out.2.trans hc5))
            | (at_builtin; refine app_ints rfl (.tmp 40) (.tmp 41) 36 rfl w.heap.size 5 .u8 1 Try.underlying36 Try.info5 _ _ (bytP (ps.take k) ++ putL p.1 2) rfl own5 _ _ rfl (Sl.of_own HV5.out (putL_fit _ _) (by unfold maxLen; simp [putL_length])) (by simp [putL_length]; omega) (by unfold maxLen; simp [putL_length]; omega) HW5.out.size ?_; intro v6 w6 own6 hc6 hg6))
          go_roundg (N - (k + 1))
          case measure => have := HKQ.out; omega
          case rel =>
            refine ⟨k + 1, by omega, by go_num, v6, rfl, Lib.hid ?_, Lib.hid ⟨?_, HW5.out.trans hc6⟩⟩
            · rw [pr_take HP.out, List.all_append, HY.out]
              have h1 := HA.out
              have h2 := HBd.out
              simp [okP, h1.1, h1.2, h2.1, h2.2]
            · rw [pr_take HP.out, bytP_snoc]
              have := own6
              simpa [Nat.add_assoc] using this
        · have HE := Lib.hid (show encP ps = ([], 1) from by
            unfold encP
            rw [all_no HP.out (show okP p = false by
              unfold okP
              rw [show (decide (0 ≤ p.2) && decide (p.2 < 4294967296)) = false by rw [Bool.and_eq_false_iff, decide_eq_false_iff_not, decide_eq_false_iff_not]; omega, Bool.and_false])]
            rfl)
          refine (put_no p.2 4 _ (by rw [pow4]; omega)).mono ?_
          rintro e w4 ⟨rfl, rfl⟩
          go_wp2_with fail
          go_ret2
          exact ⟨_, by rw [HE.out]; rfl, by rw [HE.out]; exact Sl.nil _ _, HW3.out.2⟩
      · have HE := Lib.hid (show encP ps = ([], 1) from by
          unfold encP
          rw [all_no HP.out (show okP p = false by
            unfold okP
            rw [show (decide (0 ≤ p.1) && decide (p.1 < 65536)) = false by rw [Bool.and_eq_false_iff, decide_eq_false_iff_not, decide_eq_false_iff_not]; omega, Bool.false_and])]
          rfl)
        refine (put_no p.1 2 _ (by rw [pow2]; omega)).mono ?_
        rintro e w3 ⟨rfl, rfl⟩
        go_wp2_with fail
        go_ret2
        exact ⟨_, by rw [HE.out]; rfl, by rw [HE.out]; exact Sl.nil _ _, HWa.out.2⟩
    · obtain rfl : k = N := by omega
      have HE := Lib.hid (show encP ps = (bytP ps, 0) ∧ bytP (ps.take k) = bytP ps from by
        have h := HY.out
        rw [List.take_of_length_le (by rw [HN.out]; exact Nat.le_refl _)] at h ⊢
        unfold encP
        rw [h]; exact ⟨rfl, rfl⟩)
      clear hlt hk
      go_wp2_with fail
      go_ret2
      refine ⟨_, by rw [HE.out.1]; rfl, ?_, HW.out.2⟩
      rw [HE.out.1]
      have := Sl.of_own HW.out.1 (bytP_fit _) (by rw [bytP_length, List.length_take]; unfold maxLen; omega)
      exact (show ∀ z, bytP (ps.take k) = z → Sl .u8 wr (.slice av (bytP (ps.take k)).length cv) z from fun z hz => by subst hz; exact this) _ HE.out.2

set_option maxHeartbeats 4000000 in
theorem refEncode12_any (v : Value) (ps : List Pr) (w : World) (h : SlP w v ps) (hl : ps.length ≤ 1000000) :
    Calls Try.prog 11 #[v] w fun e w' => ∃ x, e = .returned (.tuple #[x, .int .i64 (encP ps).2]) ∧ Sl .u8 w' x (encP ps).1 ∧ Below w.heap.size w w' := by
  obtain ⟨a, c, rfl, hc1, hc2⟩ := h.shape
  unfold maxLen at hc2
  obtain ⟨N, hN⟩ : ∃ N, N = ps.length := ⟨_, rfl⟩
  rw [← hN] at h hc1 hl ⊢
  have HN := Lib.hid hN
  have HS := Lib.hid h
  have HW2 := Lib.hid (show EnW w w (.slice none 0 0) (bytP []) from ⟨own_nil _ _ _, Below.refl _ _⟩)
  clear hN h
  go_enter Try.func11, Try.ntmps11
  go_wp2_with fail
  go_loopg [4, 5, 6, 7, 8, 9] N (fun q s4 s5 s6 s7 s8 s9 wr => ∃ k : Nat, k + q = N ∧ s5 = .int .i64 k ∧ ∃ v, s4 = v ∧ Hid ((ps.take k).all okP = true) ∧ Hid (EnW w wr v (bytP (ps.take k))))
  case atStart => exact ⟨0, by omega, rfl, _, rfl, Lib.hid rfl, HW2⟩
  case round =>
    obtain ⟨k, hkq, rfl, v, rfl, HY, HW⟩ := hrel
    have HKQ := Lib.hid hkq
    have hk : k ≤ N := by omega
    clear hkq HW2
    obtain ⟨av, cv, rfl, _⟩ := owned_shape HW.out.1
    by_cases hlt : k < N
    · obtain ⟨p, hp⟩ := pr_at (ps := ps) (k := k) (by rw [← HN.out]; exact hlt)
      obtain ⟨b, off, rfl, hbl, hcell⟩ := (HS.out.below HW.out.2).at_ (i := k) (by rw [← HN.out]; exact hlt)
      obtain ⟨c0, c1⟩ := hcell p hp
      have HP := Lib.hid hp
      clear hcell hp
      go_wp2_with fail
      by_cases ha : 0 ≤ p.1 ∧ p.1 < 65536
      · have HA := Lib.hid ha
        refine (refPut_own p.1 2 _ (by decide) (by decide) ha.1 (by rw [pow2]; exact ha.2)).mono ?_
        rintro e w3 ⟨va, rfl, hva, hb3⟩
        have HV3 := Lib.hid (show w3.ownsRow wr.heap.size 5 1 va (putL p.1 2).length ((putL p.1 2).map (Value.int .u8)) from hva)
        have HW3 := Lib.hid (HW.out.below hb3)
        obtain ⟨aa, ca, rfl, _⟩ := owned_shape hva
        have g1 : w3.cell? ⟨b, off + k * 2 + 1, none⟩ = some (.int .i64 p.2) := (hb3.cell (p := ⟨b, off + k * 2 + 1, none⟩) hbl).trans c1
        have gz : b < w3.heap.size := by have := hb3.size; omega
        have hgap : wr.heap.size ≤ w3.heap.size := hb3.size
        clear hva hb3 ha c0 c1 hbl
        go_wp2_with fail
        by_cases hb : 0 ≤ p.2 ∧ p.2 < 4294967296
        · have HBd := Lib.hid hb
          refine (refPut_own p.2 4 _ (by decide) (by decide) hb.1 (by rw [pow4]; exact hb.2)).mono ?_
          rintro e w4 ⟨vb, rfl, hvb, hb4⟩
          have HV4 := Lib.hid (show w4.ownsRow w3.heap.size 5 1 vb (putL p.2 4).length ((putL p.2 4).map (Value.int .u8)) from hvb)
          have HW4 := Lib.hid (HW3.out.below hb4)
          have HU4 := Lib.hid (owned_below HV3.out hb4)
          obtain ⟨ab, cb, rfl, _⟩ := owned_shape hvb
          clear g1 hvb hb4 hb
          have hlen : (bytP (ps.take k)).length ≤ 6000000 := by rw [bytP_length, List.length_take]; omega
          have hvlt : ∀ g, (Value.slice av (bytP (ps.take k)).length cv).ownBlock = some g → g < wr.heap.size := fun g hg => (HW.out.1.lt g hg).2
          go_wp2_with (first
            | (at_builtin; refine app_ints rfl (.tmp 40) (.tmp 41) 36 rfl w.heap.size 5 .u8 1 Try.underlying36 Try.info5 _ _ (bytP (ps.take k)) rfl HW4.out.1 _ _ rfl (Sl.of_own HU4.out (putL_fit _ _) (by unfold maxLen; simp [putL_length])) (by simp [putL_length]; omega) (by unfold maxLen; simp [putL_length]; omega) HW4.out.2.size ?_; intro v5 w5 own5 hc5 hg5; obtain ⟨a5, c5, rfl, _⟩ := owned_shape own5; have HV5 := Lib.hid (owned_kept HV4.out hg5 (fun g hg e => by have h1 := hvlt g e; have h2 := (HV4.out.lt g hg).1; omega)); have HW5 := Lib.hid (HW4.out.2.trans hc5))
            | (at_builtin; refine app_ints rfl (.tmp 43) (.tmp 44) 36 rfl w.heap.size 5 .u8 1 Try.underlying36 Try.info5 _ _ (bytP (ps.take k) ++ putL p.1 2) rfl own5 _ _ rfl (Sl.of_own HV5.out (putL_fit _ _) (by unfold maxLen; simp [putL_length])) (by simp [putL_length]; omega) (by unfold maxLen; simp [putL_length]; omega) HW5.out.size ?_; intro v6 w6 own6 hc6 hg6))
          go_roundg (N - (k + 1))
          case measure => have := HKQ.out; omega
          case rel =>
            refine ⟨k + 1, by omega, by go_num, v6, rfl, Lib.hid ?_, Lib.hid ⟨?_, HW5.out.trans hc6⟩⟩
            · rw [pr_take HP.out, List.all_append, HY.out]
              have h1 := HA.out
              have h2 := HBd.out
              simp [okP, h1.1, h1.2, h2.1, h2.2]
            · rw [pr_take HP.out, bytP_snoc]
              have := own6
              simpa [Nat.add_assoc] using this
        · have HE := Lib.hid (show encP ps = ([], 1) from by
            unfold encP
            rw [all_no HP.out (show okP p = false by
              unfold okP
              rw [show (decide (0 ≤ p.2) && decide (p.2 < 4294967296)) = false by rw [Bool.and_eq_false_iff, decide_eq_false_iff_not, decide_eq_false_iff_not]; omega, Bool.and_false])]
            rfl)
          refine (refPut_no p.2 4 _ (by rw [pow4]; omega)).mono ?_
          rintro e w4 ⟨rfl, rfl⟩
          go_wp2_with fail
          go_ret2
          exact ⟨_, by rw [HE.out]; rfl, by rw [HE.out]; exact Sl.nil _ _, HW3.out.2⟩
      · have HE := Lib.hid (show encP ps = ([], 1) from by
          unfold encP
          rw [all_no HP.out (show okP p = false by
            unfold okP
            rw [show (decide (0 ≤ p.1) && decide (p.1 < 65536)) = false by rw [Bool.and_eq_false_iff, decide_eq_false_iff_not, decide_eq_false_iff_not]; omega, Bool.false_and])]
          rfl)
        refine (refPut_no p.1 2 _ (by rw [pow2]; omega)).mono ?_
        rintro e w3 ⟨rfl, rfl⟩
        go_wp2_with fail
        by_cases hb : 0 ≤ p.2 ∧ p.2 < 4294967296
        · refine (refPut_own p.2 4 _ (by decide) (by decide) hb.1 (by rw [pow4]; exact hb.2)).mono ?_
          rintro e w4 ⟨vb, rfl, hvb, hb4⟩
          have HW4 := Lib.hid (HW.out.below hb4)
          obtain ⟨ab, cb, rfl, _⟩ := owned_shape hvb
          clear hvb hb4 hb
          go_wp2_with fail
          go_ret2
          exact ⟨_, by rw [HE.out]; rfl, by rw [HE.out]; exact Sl.nil _ _, HW4.out.2⟩
        · refine (refPut_no p.2 4 _ (by rw [pow4]; omega)).mono ?_
          rintro e w4 ⟨rfl, rfl⟩
          go_wp2_with fail
          go_ret2
          exact ⟨_, by rw [HE.out]; rfl, by rw [HE.out]; exact Sl.nil _ _, HW.out.2⟩
    · obtain rfl : k = N := by omega
      have HE := Lib.hid (show encP ps = (bytP ps, 0) ∧ bytP (ps.take k) = bytP ps from by
        have h := HY.out
        rw [List.take_of_length_le (by rw [HN.out]; exact Nat.le_refl _)] at h ⊢
        unfold encP
        rw [h]; exact ⟨rfl, rfl⟩)
      clear hlt hk
      go_wp2_with fail
      go_ret2
      refine ⟨_, by rw [HE.out.1]; rfl, ?_, HW.out.2⟩
      rw [HE.out.1]
      have := Sl.of_own HW.out.1 (bytP_fit _) (by rw [bytP_length, List.length_take]; unfold maxLen; omega)
      exact (show ∀ z, bytP (ps.take k) = z → Sl .u8 wr (.slice av (bytP (ps.take k)).length cv) z from fun z hz => by subst hz; exact this) _ HE.out.2
end Go.Proofs.Ytmmcpmkkgembbaa
