
/-
  The document's own answers of layer 4: lengths and codes.
-/
import Derived.Test.YtimggejonppegaaDoorHuffSize
import Derived.Great.BuildSlice
namespace Go.Proofs.YtimggejonppegaaDoor
open Go.RowKit

def lenZs : List Int := lenN.map (fun (x : Nat) => (x : Int))
theorem lenZs_eq : lenZs = lenL := lenL_list.symm
theorem lenZs_length : lenZs.length = 257 := by rw [lenZs_eq, lenL_length]
theorem Tryd.infoInt : (Tryd.prog.info? 3).map (fun i => (i.zero, i.size, i.bytes)) = some (some (.int .i64 0), 1, 8) := by kernel_rfl
theorem Tryd.sizeInt : (Tryd.prog.info? 3).map (·.size) = some 1 := by kernel_rfl
theorem Tryd.zeroSome : ((Tryd.prog.info? 3).bind (·.zero)).isSome = true := by kernel_rfl

theorem lengths_any (w : World) :
    Calls Tryd.prog 48 #[] w fun e w' => e = .returned (.slice (some ⟨w.heap.size, 0, none⟩) 257 257) ∧ w' = w.alloc (.cells (intsA lenL) 3) := by
  have hz : (lenZs.map (Value.int .i64)).toArray = intsA lenL := by rw [lenZs_eq]; rfl
  go_enter Tryd.func48, Tryd.ntmps48
  go_wp2_with (refine wpList_buildFlat rfl 74 3 257 _ rfl .i64 lenZs Tryd.underlying74 Tryd.sizeInt Tryd.zeroSome lenZs_length.symm (by decide) (by decide) (by kernel_rfl) ?_; rw [hz])
  go_ret
  exact ⟨rfl, rfl⟩

theorem lenL_cell {W : World} {b c : Nat} {t : TypeId} (h : W.heap[b]? = some (.cells (intsA lenL) t (0, 0))) (hc : c < 257) : W.cell? ⟨b, c, none⟩ = some (.int .i64 (len c)) := by
  have := blk_cell (j := c) h (intsA_get (by rw [lenL_length]; exact hc))
  rwa [lenL_at hc] at this
theorem codeL_cell {W : World} {b c : Nat} {t : TypeId} (h : W.heap[b]? = some (.cells (intsA codeL) t (0, 0))) (hc : c < 257) : W.cell? ⟨b, c, none⟩ = some (.int .i64 (code c)) := by
  have := blk_cell (j := c) h (intsA_get (by rw [codeL_length]; exact hc))
  rwa [codeL_at hc] at this

set_option maxHeartbeats 1000000 in
set_option maxRecDepth 20000 in
theorem refCodes_any (w : World) :
    Calls Tryd.prog 49 #[] w fun e w' => ∃ g, e = .returned (.slice (some ⟨g, 0, none⟩) 257 257) ∧ w.heap.size ≤ g ∧ w'.heap[g]? = some (.cells (intsA codeL) 3 (0, 0)) ∧ Below w.heap.size w w' := by
  obtain ⟨i0, hi, hz0, hz1, hz2⟩ := info_parts Tryd.infoInt
  have hl0 := heap_alloc_new w (.cells (intsA lenL) 3)
  have hB0 := (Below.refl w.heap.size w).alloc (Nat.le_refl _) (.cells (intsA lenL) 3)
  have hs0 : (w.alloc (.cells (intsA lenL) 3)).heap.size = w.heap.size + 1 := by simp
  obtain ⟨W1, hW1⟩ : ∃ W1, w.alloc (.cells (intsA lenL) 3) = W1 := ⟨_, rfl⟩
  have HW1 := Lib.hid hW1
  rw [hW1] at hl0 hB0 hs0
  have HS := Lib.hid hs0
  have HL0 := Lib.hid hl0
  clear hW1 hs0
  go_enter Tryd.func49, Tryd.ntmps49
  go_wp2_with fail
  refine (lengths_any _).mono ?_
  rintro e w' ⟨rfl, rfl⟩
  rw [HW1.out]
  go_wp2_with (at_make; refine wpList_make_full _ rfl _ _ 74 rfl W1.heap.size 3 i0 (.int .i64 0) 1 Tryd.underlying74 hi hz0 hz1 .i64 .i64 _ _ 257 rfl rfl rfl rfl (by rw [hz2]; decide) (by unfold maxLen; omega) (Nat.le_refl _) ?_; intro w1 hown hgrow; have hown1 := made_zeros hown; rw [← arrAt_low (Nat.le_add_left 1 4)] at hown1; clear hown)
  have hbl := hB0.grown hgrow hB0.size (fun k h => by simp at h)
  have hlen1 : w1.heap[w.heap.size]? = some (.cells (intsA lenL) 3 (0, 0)) := (hgrow.block _ (by have := HS.out; omega) (by simp)).trans hl0
  have hb1 : Below W1.heap.size W1 w1 := (Below.refl _ _).grown hgrow (Nat.le_refl _) (fun k h => by simp at h)
  clear hgrow hl0
  go_loopg [3, 4] 30 (fun g s3 s4 wx => ∃ n : Nat, n + g = 31 ∧ s4 = .int .i64 n ∧ s3 = .int .i64 (nextAt n 0) ∧ 1 ≤ n ∧ wx.ownsRow W1.heap.size 3 1 (.slice (some ⟨W1.heap.size, 0, none⟩) 257 257) 257 ((arrAt n 0).map (Value.int .i64)) ∧ Below W1.heap.size W1 wx)
  case atStart => exact ⟨1, rfl, rfl, by rw [nextAt_low.1]; rfl, Nat.le_refl _, hown1, hb1⟩
  case round =>
    clear hown1 hbl hb1 hlen1
    obtain ⟨n, hng, rfl, rfl, hn1, hO, hB⟩ := hrel
    have hnx : ((nextAt n 0 : Nat) : Int) ≤ 2147483905 := by have := nextAt_le (n := n) (by omega) 0; omega
    have HNG := Lib.hid hng
    have hn31 : n ≤ 31 := by omega
    have HO := Lib.hid hO
    have HB := Lib.hid hB
    clear hng hO hB
    obtain ⟨x0, hx0⟩ : ∃ x0, nextAt n 0 = x0 := ⟨_, rfl⟩
    have HX0 := Lib.hid hx0
    rw [hx0] at hnx ⊢
    clear hx0
    by_cases h30 : n ≤ 30
    · go_wp2_with fail
      clear hnx
      go_loopg [3, 5] 257 (fun g2 s3 s5 wy => ∃ c : Nat, c + g2 = 257 ∧ s5 = .int .i64 c ∧ s3 = .int .i64 (nextAt n c) ∧ wy.ownsRow W1.heap.size 3 1 (.slice (some ⟨W1.heap.size, 0, none⟩) 257 257) 257 ((arrAt n c).map (Value.int .i64)) ∧ Below W1.heap.size W1 wy)
      case atStart => exact ⟨0, rfl, rfl, by rw [HX0.out], HO.out, HB.out⟩
      case round =>
        obtain ⟨c, hcg, rfl, rfl, hO, hB⟩ := hrel
        have HCG := Lib.hid hcg
        have hc257 : c ≤ 257 := by omega
        clear hcg
        have hnx : ((nextAt n c : Nat) : Int) ≤ 2147483905 := by have := nextAt_le (n := n) (by omega) c; omega
        obtain ⟨x, hx⟩ : ∃ x, nextAt n c = x := ⟨_, rfl⟩
        have HX := Lib.hid hx
        rw [hx] at hnx ⊢
        clear hx
        by_cases hlt : c < 257
        · have hcl := lenL_cell ((hB.block w.heap.size (by have := HS.out; omega)).trans HL0.out) hlt
          by_cases hl : len c = n
          · have hcell := owned_cell hO c hlt
            have hfr := hO.frozenAt c
            have hO2 := owned_store hO c x
            rw [← HX.out, show nextAt n c = code c by rw [← hl]; exact nextAt_code hlt, arrAt_set hl] at hO2
            have HO2 := Lib.hid hO2
            have HXC : Hid (x = code c) := by show x = code c; rw [← HX.out, ← hl]; exact nextAt_code hlt
            have HB2 := Lib.hid hB
            have hd : (((len c : Nat) : Int) == (n : Int)) = true := by rw [hl]; simp
            have HL := Lib.hid hl
            clear hl hO hO2 hB
            go_wp2_with fail
            go_roundg (257 - (c + 1))
            case measure => have := HCG.out; omega
            case rel =>
              refine ⟨c + 1, by omega, by go_num, ?_, ?_, HB2.out.setCell (Nat.le_refl _) _⟩
              · rw [nextAt_set hlt HL.out, HX.out]; rfl
              · have := HO2.out
                rw [← HXC.out] at this
                exact this
          · have hd : (((len c : Nat) : Int) == (n : Int)) = false := by rw [beq_eq_false_iff_ne]; omega
            have HL := Lib.hid hl
            have HO2 := Lib.hid hO
            have HB2 := Lib.hid hB
            clear hl hO hB
            go_wp2_with fail
            go_roundg (257 - (c + 1))
            case measure => have := HCG.out; omega
            case rel => exact ⟨c + 1, by omega, by go_num, by rw [nextAt_skip hlt HL.out, HX.out], by rw [arrAt_skip HL.out]; exact HO2.out, HB2.out⟩
        · obtain rfl : c = 257 := by omega
          have HO2 := Lib.hid hO
          have HB2 := Lib.hid hB
          clear hO hB
          go_wp2_with fail
          go_roundg (30 - n)
          case measure => have := HNG.out; omega
          case rel =>
            refine ⟨n + 1, by omega, by go_num, ?_, by omega, by rw [← arrAt_row]; exact HO2.out, HB2.out⟩
            rw [nextAt_row h30, HX.out]; show _ = Value.int .i64 _; congr 1
    · obtain rfl : n = 31 := by omega
      go_wp2_with fail
      go_ret
      have hO := HO.out
      rw [arrAt_end] at hO
      refine ⟨W1.heap.size, rfl, hB0.size, own_block hO, hB0.trans (HB.out.mono hB0.size)⟩
end Go.Proofs.YtimggejonppegaaDoor
