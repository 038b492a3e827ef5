
/-
  Layer 11, the program's own: the pairs of Settings.
-/
import Derived.Test.YtohghphegcnfkaaPayRead1
import Derived.Test.YtohghphegcnfkaaPairRow
import Derived.Test.YtohghphegcnfkaaBuilds
import Derived.Deep.LoopGhost
namespace Go.Proofs.Ytohghphegcnfkaa
set_option maxRecDepth 20000
open Go.RowKit

def pr1 (zs : List Int) : Pr := (num (zs.take 2), num ((zs.drop 2).take 4))
theorem pairsF_snoc : ∀ (k : Nat) (zs : List Int), pairsF (k + 1) zs = pairsF k zs ++ [pr1 (zs.drop (k * 6))]
  | 0, zs => by simp [pairsF, pr1]
  | k + 1, zs => by
    rw [show pairsF (k + 1 + 1) zs = (num (zs.take 2), num ((zs.drop 2).take 4)) :: pairsF (k + 1) (zs.drop 6) from rfl, pairsF_snoc k (zs.drop 6), List.drop_drop]
    rw [show 6 + k * 6 = (k + 1) * 6 by omega]
    rfl
theorem pairsF_length : ∀ (k : Nat) (zs : List Int), (pairsF k zs).length = k
  | 0, _ => rfl
  | k + 1, zs => by simp [pairsF, pairsF_length k]
/-- the pairs that are told, and room for the others -/
def rowPr (K k : Nat) (zs : List Int) : List Pr := pairsF k zs ++ List.replicate (K - k) (0, 0)
theorem rowPr_length {K k : Nat} (zs : List Int) (h : k ≤ K) : (rowPr K k zs).length = K := by simp [rowPr, pairsF_length]; omega
theorem rowPr_set {K k : Nat} (zs : List Int) (h : k < K) (x y : Int) (hx : x = (pr1 (zs.drop (k * 6))).1) (hy : y = (pr1 (zs.drop (k * 6))).2) :
    ((flatC prC (rowPr K k zs)).set (k * 2) (.int .i64 x)).set (k * 2 + 1) (.int .i64 y) = flatC prC (rowPr K (k + 1) zs) := by
  subst hx hy
  unfold rowPr
  obtain ⟨d, rfl⟩ : ∃ d, K = k + 1 + d := ⟨K - (k + 1), by omega⟩
  rw [show k + 1 + d - k = d + 1 by omega, show k + 1 + d - (k + 1) = d by omega, List.replicate_succ, pairsF_snoc]
  have hl : (flatC prC (pairsF k zs)).length = k * 2 := by rw [flatC_length prC_len, pairsF_length]
  rw [flatC_append, flatC_append, flatC_append, show flatC prC ((0, 0) :: List.replicate d ((0, 0) : Pr)) = [.int .i64 0, .int .i64 0] ++ flatC prC (List.replicate d (0, 0)) from rfl, show ∀ p : Pr, flatC prC [p] = [.int .i64 p.1, .int .i64 p.2] from fun p => rfl]
  rw [List.set_append_right _ _ (by omega), List.set_append_right _ _ (by omega), hl, Nat.sub_self, show k * 2 + 1 - k * 2 = 1 by omega]
  simp
theorem made_pairs (K : Nat) (zs : List Int) : (madeCells (Value.agg #[.int .i64 0, .int .i64 0]).cells (K * 2)).toList = flatC prC (rowPr K 0 zs) := by
  unfold rowPr
  rw [show pairsF 0 zs = [] from rfl, List.nil_append, Nat.sub_zero]
  apply List.ext_getElem?
  intro i
  by_cases hi : i < K * 2
  · have h1 : (madeCells (Value.agg #[.int .i64 0, .int .i64 0]).cells (K * 2)).toList[i]? = some (.int .i64 0) := by
      have e : (Value.agg #[.int .i64 0, .int .i64 0]).cells = #[.int .i64 0, .int .i64 0] := rfl
      rw [e]
      simp [madeCells, hi]
      rcases Nat.mod_two_eq_zero_or_one i with h | h <;> simp [h]
    have h2 := flatC_at prC_len (List.replicate K ((0, 0) : Pr)) (i / 2) (0, 0) (by rw [List.getElem?_replicate, if_pos (by omega)]) (i % 2) (by omega)
    rw [show i / 2 * 2 + i % 2 = i by omega] at h2
    rw [h1, h2]
    rcases Nat.mod_two_eq_zero_or_one i with h | h <;> rw [h] <;> rfl
  · rw [List.getElem?_eq_none (by simp [size_madeCells]; omega), List.getElem?_eq_none (by rw [flatC_length prC_len]; simp; omega)]
theorem ppSl : Try.prog.underlying 27 = some (.slice 43) := by kernel_rfl
theorem ppSz : (Try.prog.info? 43).map (fun i => (i.zero, i.size, i.bytes)) = some (some (.agg #[.int .i64 0, .int .i64 0]), 2, 16) := by kernel_rfl
set_option maxHeartbeats 8000000 in
theorem ppairs_any (v : Value) (zs : List Int) (w : World) (hv : Sl .u8 w v zs) (hm : zs.length % 6 = 0) (hl : zs.length ≤ 100000000) :
    Calls Try.prog 30 #[v] w fun e w' => ∃ v', e = .returned v' ∧ SlP w' v' (pairsF (zs.length / 6) zs) ∧ Apart11 w' v' ∧ Below w.heap.size w w' := by
  obtain ⟨a, cap, rfl, hcp, hcm, _⟩ := id hv
  unfold maxLen at hcm
  obtain ⟨N, hN⟩ : ∃ N, N = zs.length := ⟨_, rfl⟩
  rw [← hN] at hv hm hl hcp ⊢
  obtain ⟨K, hK⟩ : ∃ K, K = N / 6 := ⟨_, rfl⟩
  rw [← hK]
  have HN := Lib.hid hN
  have HK := Lib.hid hK
  have HV := Lib.hid hv
  clear hN hK hv
  obtain ⟨i0, hi, hz0, hz1, hz2⟩ := info_parts ppSz
  have hq : (N : Int).tdiv 6 = (K : Int) := by rw [HK.out, Int.tdiv_eq_ediv_of_nonneg (by omega)]; omega
  have hK8 : K ≤ 100000000 := by have := HK.out; omega
  have hwr : wrap64 (K : Int) = (K : Int) := by unfold wrap64; omega
  go_enter Try.func30, Try.ntmps30
  go_wp2_with (at_make; refine wpList_make_full _ rfl _ _ 27 rfl w.heap.size 43 i0 (.agg #[.int .i64 0, .int .i64 0]) 2 ppSl hi hz0 hz1 .i64 .i64 _ _ K rfl rfl rfl rfl (by rw [hz2]; have := HK.out; omega) (by unfold maxLen; have := HK.out; omega) (Nat.le_refl _) ?_; intro w1 hown hgrow)
  have hO0 : w1.ownsRow w.heap.size 43 2 (.slice (some ⟨w.heap.size, 0, none⟩) K K) K (flatC prC (rowPr K 0 zs)) := by rw [← made_pairs]; exact hown
  have hb1 : Below w.heap.size w w1 := (Below.refl _ _).grown hgrow (Nat.le_refl _) (fun k h => by simp at h)
  have H0 := Lib.hid (And.intro hO0 hb1)
  clear hown hgrow hO0 hb1 hwr hq
  go_loopg [4, 5, 12] K (fun q s4 s5 s12 wr => ∃ k : Nat, k + q = K ∧ s12 = .int .i64 k ∧ Hid (wr.ownsRow w.heap.size 43 2 (.slice (some ⟨w.heap.size, 0, none⟩) K K) K (flatC prC (rowPr K k zs)) ∧ Below w.heap.size w wr))
  case atStart => exact ⟨0, by omega, rfl, H0⟩
  case round =>
    obtain ⟨k, hkq, rfl, HR0⟩ := hrel
    have HKQ := Lib.hid hkq
    have hk : k ≤ K := by omega
    clear hkq H0
    by_cases hlt : k < K
    · have hkn : k * 6 + 6 ≤ N := by have := HK.out; omega
      obtain ⟨vr, hrr, hvr⟩ := (HV.out.below HR0.out.2).from_ Try.sliceB11 Try.sizeB11 ((k : Int) * 6) (by omega) (by rw [← HN.out]; omega)
      rw [show ((k : Int) * 6).toNat = k * 6 by omega] at hvr
      obtain ⟨ar, cr, rfl, hcr, hcr2, _⟩ := id hvr
      have hrl : (zs.drop (k * 6)).length = N - k * 6 := by rw [List.length_drop, HN.out]
      obtain ⟨Mr, hMr⟩ : ∃ M, M = (zs.drop (k * 6)).length := ⟨_, rfl⟩
      rw [← hMr] at hrr hvr hcr
      have HRL : Hid (6 ≤ (zs.drop (k * 6)).length) := Lib.hid (by omega)
      obtain ⟨v2, hr2, hv2⟩ := hvr.from_ Try.sliceB11 Try.sizeB11 2 (by omega) (by omega)
      rw [show (2 : Int).toNat = 2 from rfl] at hv2
      have hMr6 : 6 ≤ Mr := by omega
      have hMrm : Mr ≤ 100000000 := by omega
      have hwk : wrap64 ((k : Int) * 6) = (k : Int) * 6 := by unfold wrap64; omega
      have HR := Lib.hid hvr
      have HR2 := Lib.hid hv2
      unfold maxLen at hcr2
      have hix := run_index_sl (P := Try.prog) (t := 27) (s := 2) (by kernel_rfl) (fun _ => by kernel_rfl) w.heap.size 0 K K k hlt
      rw [Nat.zero_add] at hix
      have HRS := Lib.hid hrl
      obtain ⟨n1, hn1⟩ : ∃ n, n = num ((zs.drop (k * 6)).take (2 : Int).toNat) := ⟨_, rfl⟩
      obtain ⟨n2, hn2⟩ : ∃ n, n = num (((zs.drop (k * 6)).drop 2).take (4 : Int).toNat) := ⟨_, rfl⟩
      have HN1 := Lib.hid hn1
      have HN2 := Lib.hid hn2
      clear hn1 hn2
      clear hvr hv2 hMr hrl
      go_wp2_with fail
      refine wp_region_table 9 [19, 20, 21, 22, 23, 24, 25, 26, 27] [[], [], [], [(2, 21)], [], [(4, 23)], [(5, 24)], [(3, 22), (6, 25)], [(0, 19), (1, 20)]]
        (fun i v w' => match i with
          | 0 => v = .slice (some ⟨w.heap.size, 0, none⟩) K K
          | 1 => v = .int .i64 (k : Int)
          | 2 => v = .slice ar Mr cr
          | 3 => v = .int .i64 n1
          | 4 => v = .slice ar Mr cr
          | 5 => v = v2
          | 6 => v = .int .i64 n2
          | 7 => v = .agg #[.int .i64 n1, .int .i64 n2]
          | 8 => v = .pointer (some ⟨w.heap.size, k * 2, none⟩)
          | _ => True) (by kernel_rfl) (by kernel_rfl) ?tStab ?tOps ?tRest
      case tStab =>
        intro i v w3 w4 h hb
        match i, h with
        | 0, h | 1, h | 2, h | 3, h | 4, h | 5, h | 6, h | 7, h | 8, h => exact h
        | i + 9, _ => trivial
      case tOps =>
        simp only [List.take_succ_cons, List.take_zero, opsOk]
        refine ⟨?_, ?_, ?_, ?_, ?_, ?_, ?_, ?_, ?_, trivial⟩
        · intro ρ w3 hc hf ho hB hj
          have x0 : ρ (.tmp 3) = .slice (some ⟨w.heap.size, 0, none⟩) K K := ho 3 (by decide)
          simp [gives, go_sem, x0, Below.refl]
        · intro ρ w3 hc hf ho hB hj
          have x0 : ρ (.tmp 4) = .int .i64 (k : Int) := ho 4 (by decide)
          simp [gives, go_sem, x0, Below.refl]
        · intro ρ w3 hc hf ho hB hj
          have x0 : ρ (.tmp 5) = .slice ar Mr cr := ho 5 (by decide)
          simp [gives, go_sem, x0, Below.refl]
        · intro ρ w3 hc hf ho hB hj
          have x0 : ρ (.tmp 21) = .slice ar Mr cr := hj (2, 21) (by simp)
          simp [gives, go_sem, x0, hc, hf]
          exact (pnumber_any _ _ 2 _ (HR.out.below hB) (by omega) (by omega) (by have := HRL.out; omega)).mono (by rintro e w4 ⟨rfl, rfl⟩; exact ⟨_, rfl, congrArg (Value.int .i64) HN1.out.symm, Below.refl _ _⟩)
        · intro ρ w3 hc hf ho hB hj
          have x0 : ρ (.tmp 5) = .slice ar Mr cr := ho 5 (by decide)
          simp [gives, go_sem, x0, Below.refl]
        · intro ρ w3 hc hf ho hB hj
          have x0 : ρ (.tmp 23) = .slice ar Mr cr := hj (4, 23) (by simp)
          simp [gives, go_sem, x0, hc, hr2, Below.refl]
        · intro ρ w3 hc hf ho hB hj
          have x0 : ρ (.tmp 24) = v2 := hj (5, 24) (by simp)
          simp [gives, go_sem, x0, hc, hf]
          exact (pnumber_any _ _ 4 _ (HR2.out.below hB) (by omega) (by omega) (by have := HRL.out; simp only [List.length_drop] at this ⊢; omega)).mono (by rintro e w4 ⟨rfl, rfl⟩; exact ⟨_, rfl, congrArg (Value.int .i64) HN2.out.symm, Below.refl _ _⟩)
        · intro ρ w3 hc hf ho hB hj
          have x0 : ρ (.tmp 22) = .int .i64 n1 := hj (3, 22) (by simp)
          have x1 : ρ (.tmp 25) = .int .i64 n2 := hj (6, 25) (by simp)
          simp [gives, go_sem, x0, x1, Below.refl]
        · intro ρ w3 hc hf ho hB hj
          have x0 : ρ (.tmp 19) = .slice (some ⟨w.heap.size, 0, none⟩) K K := hj (0, 19) (by simp)
          have x1 : ρ (.tmp 20) = .int .i64 (k : Int) := hj (1, 20) (by simp)
          simp [gives, go_sem, x0, x1, hix, Below.refl]
      case tRest =>
        intro X w3 hBw hX
        have x0 : X 0 = .slice (some ⟨w.heap.size, 0, none⟩) K K := hX 0 (by decide)
        have x1 : X 1 = .int .i64 (k : Int) := hX 1 (by decide)
        have x2 : X 2 = .slice ar Mr cr := hX 2 (by decide)
        have x3 : X 3 = .int .i64 n1 := hX 3 (by decide)
        have x4 : X 4 = .slice ar Mr cr := hX 4 (by decide)
        have x5 : X 5 = v2 := hX 5 (by decide)
        have x6 : X 6 = .int .i64 n2 := hX 6 (by decide)
        have x7 : X 7 = .agg #[.int .i64 n1, .int .i64 n2] := hX 7 (by decide)
        have x8 : X 8 = .pointer (some ⟨w.heap.size, k * 2, none⟩) := hX 8 (by decide)
        simp only [putAll, List.getD_cons_zero, List.getD_cons_succ, Act.put, List.setIfInBounds_toArray, List.set_cons_zero, List.set_cons_succ, List.drop_succ_cons, List.drop_zero]
        rw [x0, x1, x2, x3, x4, x5, x6, x7, x8]
        have hO3 := owned_below HR0.out.1 hBw
        have hb3 := HR0.out.2.trans (hBw.mono HR0.out.2.size)
        have g0 := hO3.cellAt (k * 2) (by omega)
        have g1 := hO3.cellAt (k * 2 + 1) (by omega)
        have fl := flatC_length prC_len (rowPr K k zs)
        rw [rowPr_length zs hk] at fl
        obtain ⟨u0, hu0⟩ : ∃ u, (flatC prC (rowPr K k zs))[k * 2]? = some u := ⟨_, List.getElem?_eq_getElem (by omega)⟩
        obtain ⟨u1, hu1⟩ : ∃ u, (flatC prC (rowPr K k zs))[k * 2 + 1]? = some u := ⟨_, List.getElem?_eq_getElem (by omega)⟩
        rw [hu0] at g0
        rw [hu1] at g1
        have f0 := hO3.frozenAt (k * 2)
        have f1 := hO3.frozenAt (k * 2 + 1)
        have hs := (hO3.stored (k * 2) (.int .i64 n1)).1.stored (k * 2 + 1) (.int .i64 n2)
        rw [rowPr_set zs hlt n1 n2 HN1.out HN2.out] at hs
        have HS3 := Lib.hid (And.intro hs.1 ((hb3.setCell (p := ⟨w.heap.size, k * 2, none⟩) (Nat.le_refl _) (.int .i64 n1)).setCell (p := ⟨w.heap.size, k * 2 + 1, none⟩) (Nat.le_refl _) (.int .i64 n2)))
        clear hO3 hb3 hs hu0 hu1 fl HR HR2 hix hrr hr2 hX hBw
        go_wp2_with fail
        go_roundg (K - (k + 1))
        case measure => have := HKQ.out; omega
        case rel => exact ⟨k + 1, by omega, by go_num, HS3⟩
    · obtain rfl : k = K := by omega
      clear hlt
      go_wp2_with fail
      go_ret
      have hO := HR0.out.1
      have hrw : RowC prC 2 wr w.heap.size 43 (.slice (some ⟨w.heap.size, 0, none⟩) k k) (rowPr k k zs) := by
        unfold RowC; rw [rowPr_length zs (Nat.le_refl _)]; exact hO
      have hsl := (hrw.toSl prC_len).toP
      have e : rowPr k k zs = pairsF k zs := by unfold rowPr; simp
      rw [e] at hsl
      exact ⟨_, rfl, hsl, Apart11.own hO (by decide) (by decide), HR0.out.2⟩
end Go.Proofs.Ytohghphegcnfkaa
