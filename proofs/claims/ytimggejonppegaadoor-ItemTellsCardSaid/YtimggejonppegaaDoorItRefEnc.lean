
/-
  The document's own answer for layer 8: an item's bytes.
-/
import Derived.Test.YtimggejonppegaaDoorItRef
import Derived.Test.YtimggejonppegaaDoorItEnc
import Derived.Test.YtimggejonppegaaDoorRef05
namespace Go.Proofs.YtimggejonppegaaDoor
open Go.RowKit

theorem refIEnc_no (k n : Int) (a b : ByteArray) (w : World) (h : ¬ rightI k n a b) :
    Calls Tryd.prog 7 #[itV k n a b] w fun e w' => e = .returned (.tuple #[.slice none 0 0, .int .i64 1]) ∧ Below w.heap.size w w' := by
  have D := Lib.hid (decide_eq_false h)
  clear h
  unfold itV
  go_enter Tryd.func7, Tryd.ntmps7
  go_wp2_with fail
  refine (refRight_any k n a b _).mono ?_
  rintro e w1 ⟨rfl, hb⟩
  rw [D.out]
  go_wp2_with fail
  go_ret2
  exact ⟨rfl, ((Below.refl _ _).alloc (Nat.le_refl _) _).trans (hb.mono (by simp))⟩

set_option maxHeartbeats 4000000 in
theorem refIEnc_yes (k n : Int) (a b : ByteArray) (w : World) (h : rightI k n a b) :
    Calls Tryd.prog 7 #[itV k n a b] w fun e w' => ∃ v, e = .returned (.tuple #[v, .int .i64 0]) ∧ w'.ownsRow w.heap.size 5 1 v (encI k n a b).length ((encI k n a b).map (Value.int .u8)) ∧ Below w.heap.size w w' := by
  have D := Lib.hid (decide_eq_true h)
  have HR := Lib.hid h
  obtain ⟨m, hm⟩ : ∃ m, bitsI k = m := ⟨_, rfl⟩
  obtain ⟨A, hA⟩ : ∃ A, aboveI k = A := ⟨_, rfl⟩
  obtain ⟨P, hP⟩ : ∃ P, encP (fullP (bitsI k)) (aboveI k) n = P := ⟨_, rfl⟩
  have HBI : Hid (∀ W : World, Calls Tryd.prog 18 #[.int .i64 k] W fun e w' => e = .returned (.int .i64 m) ∧ W = w') := by
    intro W; rw [← hm]; exact refBits_any k W h.1.1 h.1.2
  have HAB : Hid (∀ W : World, Calls Tryd.prog 19 #[.int .i64 k] W fun e w' => e = .returned (.int .i64 A) ∧ W = w') := by
    intro W; rw [← hA]; exact refAbove_any k W h.1.1 h.1.2
  have HEN : Hid (∀ W : World, w.heap.size ≤ W.heap.size → Calls Tryd.prog 17 #[.int .i64 n, .int .i64 m, .int .i64 A] W fun e w' => ∃ v, e = .returned (.tuple #[v, .int .i64 0]) ∧ w'.ownsRow w.heap.size 5 1 v P.length (P.map (Value.int .u8)) ∧ Below W.heap.size W w') := by
    intro W hW
    rw [← hm, ← hA, ← hP]
    refine (refEnc3_own n _ _ W h.enc).mono ?_
    rintro e w' ⟨v, rfl, hO, hb⟩
    exact ⟨v, rfl, owned_mono hO hW, hb⟩
  have HE : Hid (encI k n a b = P ++ nameI k n a ++ valI k b) := by show _ = _; rw [encI, hP]
  have hp6 : P.length ≤ 6 := by rw [← hP]; exact (encP_length _ _ _).2
  have HSA := Lib.hid (rightI_sizes h)
  have hk := Lib.hid h.1
  clear h hm hA hP
  unfold itV
  go_enter Tryd.func7, Tryd.ntmps7
  go_wp2_with fail
  refine (refRight_any k n a b _).mono ?_
  rintro e w1 ⟨rfl, hb⟩
  rw [D.out]
  have hI : ItAt w1 w.heap.size 30 k n a b := (hb.block _ (by simp)).trans (heap_alloc_new _ _)
  have hB1 : Below w.heap.size w w1 := ((Below.refl _ _).alloc (Nat.le_refl _) _).trans (hb.mono (by simp))
  have HC0 : Hid (∀ W, Below w1.heap.size w1 W → W.cell? ⟨w.heap.size, 0, none⟩ = some (.int .i64 k)) := fun W hW => (hI.grown hW).c0
  have HC1 : Hid (∀ W, Below w1.heap.size w1 W → W.cell? ⟨w.heap.size, 1, none⟩ = some (.int .i64 n)) := fun W hW => (hI.grown hW).c1
  have HI := Lib.hid (And.intro hI hB1)
  have HSZ : Hid (w.heap.size ≤ w1.heap.size) := hB1.size
  clear hb hI hB1 D
  go_wp2_with fail
  refine wp_region_late 12 [14, 15, 16, 17, 18, 19, 20, 21, 22, 13, 23, 24] [[], [(0, 14)], [], [(2, 16)], [(3, 17)], [], [(5, 19)], [(6, 20)], [(1, 15), (4, 18), (7, 21)], [(8, 22)], [(9, 13)], [(9, 13)]] [11]
    (fun i v w' => match i with
      | 0 => v = .pointer (some ⟨w.heap.size, 1, none⟩)
      | 1 => v = .int .i64 n
      | 2 => v = .pointer (some ⟨w.heap.size, 0, none⟩)
      | 3 => v = .int .i64 k
      | 4 => v = .int .i64 m
      | 5 => v = .pointer (some ⟨w.heap.size, 0, none⟩)
      | 6 => v = .int .i64 k
      | 7 => v = .int .i64 A
      | 8 => ∃ u, v = .tuple #[u, .int .i64 0] ∧ w'.ownsRow w.heap.size 5 1 u P.length (P.map (Value.int .u8))
      | 9 => ∃ u, v = .tuple #[u, .int .i64 0] ∧ w'.ownsRow w.heap.size 5 1 u P.length (P.map (Value.int .u8))
      | 10 => w'.ownsRow w.heap.size 5 1 v P.length (P.map (Value.int .u8))
      | 11 => v = .int .i64 0
      | _ => True) (by kernel_rfl) (by kernel_rfl) ?tStab ?tOps ?tLate ?tRest
  case tStab =>
    intro i v w3 w4 h hb
    match i, h with
    | 0, h | 1, h | 2, h | 3, h | 4, h | 5, h | 6, h | 7, h | 11, h => exact h
    | 8, h => obtain ⟨u, e, h⟩ := h; exact ⟨u, e, owned_below h hb⟩
    | 9, h => obtain ⟨u, e, h⟩ := h; exact ⟨u, e, owned_below h hb⟩
    | 10, h => exact owned_below h hb
    | i + 12, _ => trivial
  case tOps =>
    simp only [List.take_succ_cons, List.take_zero, opsOk]
    refine ⟨?_, ?_, ?_, ?_, ?_, ?_, ?_, ?_, ?_, ?_, ?_, ?_, trivial⟩
    · intro ρ w3 hc hf ho hB hj
      have x0 : ρ (.tmp 1) = .pointer (some ⟨w.heap.size, 0, none⟩) := ho 1 (by decide)
      simp [gives, go_sem, x0, Below.refl]
    · intro ρ w3 hc hf ho hB hj
      have x0 : ρ (.tmp 14) = .pointer (some ⟨w.heap.size, 1, none⟩) := hj (0, 14) (by simp)
      have cc := HC1.out _ hB
      simp [gives, go_sem, x0, cc, Below.refl]
    · intro ρ w3 hc hf ho hB hj
      have x0 : ρ (.tmp 1) = .pointer (some ⟨w.heap.size, 0, none⟩) := ho 1 (by decide)
      simp [gives, go_sem, x0, Below.refl]
    · intro ρ w3 hc hf ho hB hj
      have x0 : ρ (.tmp 16) = .pointer (some ⟨w.heap.size, 0, none⟩) := hj (2, 16) (by simp)
      have cc := HC0.out _ hB
      simp [gives, go_sem, x0, cc, Below.refl]
    · intro ρ w3 hc hf ho hB hj
      have x0 : ρ (.tmp 17) = .int .i64 k := hj (3, 17) (by simp)
      simp [gives, go_sem, x0, hf]
      exact (HBI.out _).mono (by rintro e w4 ⟨rfl, rfl⟩; exact ⟨_, rfl, rfl, Below.refl _ _⟩)
    · intro ρ w3 hc hf ho hB hj
      have x0 : ρ (.tmp 1) = .pointer (some ⟨w.heap.size, 0, none⟩) := ho 1 (by decide)
      simp [gives, go_sem, x0, Below.refl]
    · intro ρ w3 hc hf ho hB hj
      have x0 : ρ (.tmp 19) = .pointer (some ⟨w.heap.size, 0, none⟩) := hj (5, 19) (by simp)
      have cc := HC0.out _ hB
      simp [gives, go_sem, x0, cc, Below.refl]
    · intro ρ w3 hc hf ho hB hj
      have x0 : ρ (.tmp 20) = .int .i64 k := hj (6, 20) (by simp)
      simp [gives, go_sem, x0, hf]
      exact (HAB.out _).mono (by rintro e w4 ⟨rfl, rfl⟩; exact ⟨_, rfl, rfl, Below.refl _ _⟩)
    · intro ρ w3 hc hf ho hB hj
      have x0 : ρ (.tmp 15) = .int .i64 n := hj (1, 15) (by simp)
      have x1 : ρ (.tmp 18) = .int .i64 m := hj (4, 18) (by simp)
      have x2 : ρ (.tmp 21) = .int .i64 A := hj (7, 21) (by simp)
      simp [gives, go_sem, x0, x1, x2, hf]
      exact (HEN.out _ (Nat.le_trans HSZ.out hB.size)).mono (by rintro e w4 ⟨u, rfl, hO, hb4⟩; exact ⟨_, rfl, ⟨u, rfl, hO⟩, hb4⟩)
    · intro ρ w3 hc hf ho hB hj
      have x0 : ∃ u, (ρ (.tmp 22)) = .tuple #[u, .int .i64 0] ∧ w3.ownsRow w.heap.size 5 1 u P.length (P.map (Value.int .u8)) := hj (8, 22) (by simp)
      obtain ⟨u, hu, hO⟩ := x0
      simp [gives, go_sem, hu, Below.refl]
      exact hO
    · intro ρ w3 hc hf ho hB hj
      have x0 : ∃ u, (ρ (.tmp 13)) = .tuple #[u, .int .i64 0] ∧ w3.ownsRow w.heap.size 5 1 u P.length (P.map (Value.int .u8)) := hj (9, 13) (by simp)
      obtain ⟨u, hu, hO⟩ := x0
      simp [gives, go_sem, hu, Below.refl]
      exact hO
    · intro ρ w3 hc hf ho hB hj
      have x0 : ∃ u, (ρ (.tmp 13)) = .tuple #[u, .int .i64 0] ∧ w3.ownsRow w.heap.size 5 1 u P.length (P.map (Value.int .u8)) := hj (9, 13) (by simp)
      obtain ⟨u, hu, hO⟩ := x0
      simp [gives, go_sem, hu, Below.refl]
  case tLate =>
    intro i hi _ o ho
    simp only [List.mem_cons, List.not_mem_nil, or_false] at hi
    subst hi
    obtain rfl := Option.some.inj ho
    intro ρ w3 hc _ _ hj
    obtain ⟨u, hu, _⟩ := hj (9, 13) (by simp)
    exact ⟨_, fun w' => by simp [go_sem, hu], rfl⟩
  case tRest =>
    intro X w3 hBw hX
    have x0 : X 0 = .pointer (some ⟨w.heap.size, 1, none⟩) := hX 0 (by decide)
    have x1 : X 1 = .int .i64 n := hX 1 (by decide)
    have x2 : X 2 = .pointer (some ⟨w.heap.size, 0, none⟩) := hX 2 (by decide)
    have x3 : X 3 = .int .i64 k := hX 3 (by decide)
    have x4 : X 4 = .int .i64 m := hX 4 (by decide)
    have x5 : X 5 = .pointer (some ⟨w.heap.size, 0, none⟩) := hX 5 (by decide)
    have x6 : X 6 = .int .i64 k := hX 6 (by decide)
    have x7 : X 7 = .int .i64 A := hX 7 (by decide)
    have x8 := hX 8 (by decide)
    have x9 := hX 9 (by decide)
    have x10 := hX 10 (by decide)
    have x11 : X 11 = .int .i64 0 := hX 11 (by decide)
    simp only [putAll, List.getD_cons_zero, List.getD_cons_succ, Act.put, List.setIfInBounds_toArray, List.set_cons_zero, List.set_cons_succ, List.drop_succ_cons, List.drop_zero]
    rw [x0, x1, x2, x3, x4, x5, x6, x7, x11]

    have HW : Hid (ItAt w3 w.heap.size 30 k n a b ∧ Below w.heap.size w w3 ∧ w3.ownsRow w.heap.size 5 1 (X 10) P.length (P.map (Value.int .u8))) := ⟨HI.out.1.grown hBw, HI.out.2.trans (hBw.mono HI.out.2.size), x10⟩
    obtain ⟨y, hy⟩ : ∃ y, X 10 = y := ⟨_, rfl⟩
    rw [hy] at HW ⊢
    clear hX hBw x8 x9 x10 x11 HC0 HC1 HBI HAB HEN HI HSZ hy
    have c0 := HW.out.1.c0
    have c1 := HW.out.1.c1
    have c2 := HW.out.1.c2
    have c3 := HW.out.1.c3
    have hlt := HW.out.1.lt
    obtain ⟨ay, cy, rfl, _⟩ := owned_shape HW.out.2.2
    by_cases ht : textsI k = true
    · have e0 : (k == 0) = false := by simp [textsI] at ht ⊢; omega
      have e4 : (k == 4) = false := by simp [textsI] at ht ⊢; omega
      have hlb := (litS_length (nums_fit b) (by rw [nums_length]; have := HSA.out; omega)).2
      rw [nums_length] at hlb
      have hla := (litS_length (nums_fit a) (by rw [nums_length]; have := HSA.out; omega)).2
      rw [nums_length] at hla
      have hsa := HSA.out.1
      have hsb := HSA.out.2
      by_cases h0 : n = 0
      · have HE2 : Hid (encI k n a b = P ++ litS (nums a) ++ litS (nums b)) := by show _ = _; rw [HE.out, nameI, valI, if_pos ht, if_pos h0, if_pos ht]
        subst h0
        clear ht
        go_wp2_with fail
        refine Calm.intro ?_
        go_wp2_with fail
        refine (refShort_any a _ hsa).mono ?_
        rintro e w4 ⟨x, rfl, hx, hb4⟩
        obtain ⟨ax, cx, rfl, _⟩ := id hx
        have hO4 := owned_below HW.out.2.2 hb4
        have hw4 : w.heap.size ≤ w4.heap.size := Nat.le_trans HW.out.2.1.size hb4.size
        have hI4 := HW.out.1.grown hb4
        obtain ⟨Q, hQ⟩ : ∃ Q, P ++ litS (nums a) = Q := ⟨_, rfl⟩
        have hql : Q.length ≤ 6 + (4 * a.size + 5) := by rw [← hQ, List.length_append]; omega
        have HQ := Lib.hid hQ
        go_wp2_with (at_builtin; refine app_ints rfl (.tmp 40) (.tmp 41) 24 rfl w.heap.size 5 .u8 1 Tryd.underlying24 Tryd.info5' _ _ P rfl hO4 _ (litS (nums a)) rfl hx (by omega) (by unfold maxLen; omega) hw4 ?_; intro v5 w5 hO5 hb5 hg5; rw [← List.length_append, hQ] at hO5; have hI5 := hI4.app (by decide) hO4 hg5; have c35 := hI5.c3; have hlt5 := hI5.lt; obtain ⟨a5, c5, rfl, _⟩ := owned_shape hO5)
        refine (refShort_any b _ hsb).mono ?_
        rintro e w6 ⟨x6, rfl, hx6, hb6⟩
        clear hQ
        obtain ⟨ax6, cx6, rfl, _⟩ := id hx6
        have hO6 := owned_below hO5 hb6
        have hw6 : w.heap.size ≤ w6.heap.size := Nat.le_trans hw4 (Nat.le_trans hb5.size hb6.size)
        have hB6 : Below w.heap.size w w6 := ((HW.out.2.1.trans (hb4.mono HW.out.2.1.size)).trans hb5).trans (hb6.mono (Nat.le_trans hw4 hb5.size))
        go_wp2_with (at_builtin; refine app_ints rfl (.tmp 46) (.tmp 47) 24 rfl w.heap.size 5 .u8 1 Tryd.underlying24 Tryd.info5' _ _ Q rfl hO6 _ (litS (nums b)) rfl hx6 (by omega) (by unfold maxLen; omega) hw6 ?_; intro v7 w7 hO7 hb7 hg7; obtain ⟨a7, c7, rfl, _⟩ := owned_shape hO7)
        go_ret2
        exact ⟨_, rfl, by rw [HE2.out, HQ.out, List.length_append]; exact hO7, hB6.trans hb7⟩
      · have HE2 : Hid (encI k n a b = P ++ litS (nums b)) := by show _ = _; rw [HE.out, nameI, valI, if_pos ht, if_neg h0, if_pos ht, List.append_nil]
        have en : (n == 0) = false := by simp [h0]
        clear ht h0
        go_wp2_with fail
        refine Calm.intro ?_
        go_wp2_with fail
        refine (refShort_any b _ hsb).mono ?_
        rintro e w6 ⟨x6, rfl, hx6, hb6⟩
        obtain ⟨ax6, cx6, rfl, _⟩ := id hx6
        have hO6 := owned_below HW.out.2.2 hb6
        have hw6 : w.heap.size ≤ w6.heap.size := Nat.le_trans HW.out.2.1.size hb6.size
        have hB6 : Below w.heap.size w w6 := HW.out.2.1.trans (hb6.mono HW.out.2.1.size)
        go_wp2_with (at_builtin; refine app_ints rfl (.tmp 46) (.tmp 47) 24 rfl w.heap.size 5 .u8 1 Tryd.underlying24 Tryd.info5' _ _ P rfl hO6 _ (litS (nums b)) rfl hx6 (by omega) (by unfold maxLen; omega) hw6 ?_; intro v7 w7 hO7 hb7 hg7; obtain ⟨a7, c7, rfl, _⟩ := owned_shape hO7)
        go_ret2
        exact ⟨_, rfl, by rw [HE2.out, List.length_append]; exact hO7, hB6.trans hb7⟩
    · have HE2 : Hid (encI k n a b = P) := by show _ = _; rw [HE.out, nameI, valI, if_neg ht, if_neg ht, List.append_nil, List.append_nil]
      have hkk : k = 0 ∨ k = 4 := by simp [textsI] at ht; have := hk.out; omega
      clear ht hk
      rcases hkk with rfl | rfl
      all_goals
        go_wp2_with fail
        refine Calm.intro ?_
        go_wp2_with fail
        go_ret2
        exact ⟨_, rfl, by rw [HE2.out]; exact HW.out.2.2, HW.out.2.1⟩
end Go.Proofs.YtimggejonppegaaDoor
