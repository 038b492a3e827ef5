
/-
  The codes that package huff makes.
-/
import Derived.Test.YtimggejonppegaaDoorHuffSmall
import Derived.WalkMore
import Derived.Deep.LoopGhost
import Derived.Deep.WholeRow
namespace Go.Proofs.YtimggejonppegaaDoor
open Go.RowKit

/-- cells of ints -/
def intsA (zs : List Int) : Array Value := (zs.map (Value.int .i64)).toArray
theorem intsA_size (zs : List Int) : (intsA zs).size = zs.length := by simp [intsA]
theorem intsA_get {zs : List Int} {i : Nat} (h : i < zs.length) : (intsA zs)[i]? = some (.int .i64 (at0 zs i)) := by simp [intsA, at0, h]
theorem intsA_set (zs : List Int) (i : Nat) (z : Int) : (intsA zs).setIfInBounds i (.int .i64 z) = intsA (zs.set i z) := by
  simp only [intsA, List.setIfInBounds_toArray, List.map_set]
theorem intsA_one (zs : List Int) : (intsA zs).all (·.oneCell') = true := by
  rw [Array.all_eq_true_iff_forall_mem]
  intro v hv
  simp only [intsA, List.mem_toArray, List.mem_map] at hv
  obtain ⟨z, _, rfl⟩ := hv
  rfl
theorem Tryd.zeroArr0 : (Tryd.prog.info? 78).map (fun i => (i.zero, i.size)) = some (some (.agg (intsA (List.replicate 257 0))), 257) := by kernel_rfl
theorem Tryd.zeroArr : (Tryd.prog.info? 78).map (fun i => (i.zero, i.size)) = some (some (.agg (intsA (arrAt 5 0))), 257) := by
  rw [arrAt_low (Nat.le_refl 5)]; exact Tryd.zeroArr0
theorem Tryd.sizeArr : (Tryd.prog.info? 78).map (·.size) = some 257 := (zero_of_info Tryd.zeroArr).2
theorem Tryd.arrUnder : Tryd.prog.underlying 78 = some (.array 257 3) := by kernel_rfl
theorem arr_index (B c : Nat) (hc : c < 257) (w : World) : (Instr.indexAt 78 (.pointer (some ⟨B, 0, none⟩)) (.int .i64 c)).run Tryd.prog w = .ok (.pointer (some ⟨B, c, none⟩)) w := by
  have h : Tryd.prog.underlying 78 = some (.array (Tryd.prog.arrayLen 78) (Tryd.prog.elem 78)) := by kernel_rfl
  have h2 : Tryd.prog.arrayLen 78 = 257 := by kernel_rfl
  have h3 : (sizeOf (Tryd.prog.elem 78)).run Tryd.prog w = .ok 1 w := by kernel_rfl
  rw [run_indexAt_array w 78 ⟨B, 0, none⟩ .i64 c h, h2, if_pos ⟨by omega, by omega⟩, h3]
  simp [Result.andThen, Addr.add, eq_comm]

/-- what the two blocks hold -/
def CodesAt (w : World) (n c : Nat) (W : World) : Prop :=
  W.heap[w.heap.size]? = some (.cells (intsA (arrAt 5 0)) 78 (0, 0)) ∧ W.heap[w.heap.size + 1]? = some (.cells (intsA (arrAt n c)) 78 (0, 0)) ∧ Below w.heap.size w W
theorem CodesAt.drewN {w W : World} {n c : Nat} (h : CodesAt w n c W) (k : Nat) : CodesAt w n c (W.drewN k) := ⟨h.1, h.2.1, below_drewN h.2.2 k⟩
theorem CodesAt.skip {w W : World} {n c : Nat} (h : CodesAt w n c W) (hl : len c ≠ n) : CodesAt w n (c + 1) W := ⟨h.1, by rw [arrAt_skip hl]; exact h.2.1, h.2.2⟩
theorem CodesAt.set {w W : World} {n c : Nat} (h : CodesAt w n c W) (hl : len c = n) : CodesAt w n (c + 1) (W.setCell ⟨w.heap.size + 1, c, none⟩ (.int .i64 (code c))) := by
  refine ⟨(Below.heap_setCell _ _ _ _ (by show w.heap.size ≠ w.heap.size + 1; omega)).trans h.1, ?_, h.2.2.setCell (p := ⟨w.heap.size + 1, c, none⟩) (by show w.heap.size ≤ w.heap.size + 1; omega) _⟩
  rw [heap_setCell_same _ _ c _ _ _ h.2.1, intsA_set, arrAt_set hl]

theorem arrAt_last : arrAt 30 257 = codeL := by rw [arrAt_row, arrAt_end]
theorem sizeCodes : (Tryd.prog.info? 78).map (·.size) = some (intsA codeL).size := by rw [intsA_size, codeL_length]; exact Tryd.sizeArr
theorem sizeCodes' (n c : Nat) : (intsA (arrAt n c)).size = (intsA codeL).size := by rw [intsA_size, intsA_size, codeL_length, arrAt_length]

set_option maxHeartbeats 1000000 in
set_option maxRecDepth 20000 in
theorem codes_any (w : World) :
    Calls Tryd.prog 53 #[] w fun e w' => e = .returned (.agg (intsA codeL)) ∧ Below w.heap.size w w' := by
  have hz := (zero_of_info Tryd.zeroArr).1
  go_enter Tryd.func53, Tryd.ntmps53
  go_wp2_with fail
  go_step3
  go_wp2_with fail
  go_step3
  go_wp2_with fail
  clear hz
  go_loopg [2, 3] 25 (fun g s2 s3 wx => ∃ n : Nat, n + g = 30 ∧ s3 = .int .i64 n ∧ s2 = .int .i64 (nextAt n 0) ∧ 5 ≤ n ∧ CodesAt w n 0 wx)
  case atStart =>
    refine ⟨5, rfl, rfl, by rw [nextAt_low.2]; rfl, Nat.le_refl _, ?_, ?_, ?_⟩
    · exact (Below.heap_alloc _ _ _ (by simp)).trans (heap_alloc_new _ _)
    · have := heap_alloc_new (w.alloc (.cells (intsA (arrAt 5 0)) 78)) (.cells (intsA (arrAt 5 0)) 78)
      simpa using this
    · exact ((Below.refl _ _).alloc (Nat.le_refl _) _).alloc (by simp) _
  case round =>
    obtain ⟨n, hng, rfl, rfl, hn5, HC⟩ := hrel
    have hC := Lib.hid HC
    have hnx : ((nextAt n 0 : Nat) : Int) ≤ 2147483905 := by have := nextAt_le (n := n) (by omega) 0; omega
    have HNG := Lib.hid hng
    have hn30 : n ≤ 30 := by omega
    clear HC hng
    obtain ⟨g0, hg0⟩ : ∃ g0, gk = g0 := ⟨_, rfl⟩
    subst hg0
    obtain ⟨x0, hx0⟩ : ∃ x0, nextAt n 0 = x0 := ⟨_, rfl⟩
    have HX0 := Lib.hid hx0
    rw [hx0] at hnx ⊢
    clear hx0
    go_wp2_with fail
    go_loopg [2, 7] 257 (fun g2 s2 s7 wy => ∃ c : Nat, c + g2 = 257 ∧ s7 = .int .i64 c ∧ s2 = .int .i64 (nextAt n c) ∧ CodesAt w n c wy ∧ (n = 30 → c ≤ 256))
    case atStart => exact ⟨0, rfl, rfl, by rw [HX0.out], hC.out, fun _ => by omega⟩
    case round =>
      obtain ⟨c, hcg, rfl, rfl, HC, h30⟩ := hrel
      have hC2 := Lib.hid HC
      have H30 := Lib.hid h30
      have HCG := Lib.hid hcg
      have hc257 : c ≤ 257 := by omega
      clear HC h30 hnx hcg
      have hnx : ((nextAt n c : Nat) : Int) ≤ 2147483905 := by have := nextAt_le (n := n) (by omega) c; omega
      obtain ⟨x, hx⟩ : ∃ x, nextAt n c = x := ⟨_, rfl⟩
      have HX := Lib.hid hx
      rw [hx] at hnx ⊢
      clear hx
      by_cases hlt : c < 257
      · have hix := arr_index (w.heap.size + 1) c hlt
        by_cases hl : len c = n
        · have HL := Lib.hid hl
          clear hl
          obtain ⟨q0, q1, q2⟩ := hC2.out
          have hcl : wr.cell? ⟨w.heap.size + 1, c, none⟩ = some (.int .i64 (at0 (arrAt n c) c)) := blk_cell q1 (intsA_get (by rw [arrAt_length]; exact hlt))
          have hfr : wr.frozen? ⟨w.heap.size + 1, c, none⟩ = false := blk_free q1
          have HK : Hid (x = code c) := by
            show x = code c
            rw [← HX.out, ← HL.out]
            exact nextAt_code hlt
          clear q0 q1 q2
          by_cases he : c = 256
          · have hbe : ((c : Int) == 256) = true := by rw [he]; rfl
            have HE := Lib.hid he
            clear he
            have hln : Hid (n = 30) := by show n = 30; rw [← HL.out, HE.out, len_end]
            go_wp2_with fail
            refine (length_any c _ hlt).mono ?_
            rintro e w' ⟨rfl, n1, rfl⟩
            rw [HL.out]
            have hs := (hC2.out.drewN n1).set HL.out
            rw [← HK.out] at hs
            have harr : arrAt n (c + 1) = codeL := by rw [hln.out, HE.out, arrAt_last]
            obtain ⟨s1, s2, s3⟩ := hs
            rw [harr] at s2
            have S1 := Lib.hid s1
            have S2 := Lib.hid s2
            have S3 := Lib.hid s3
            clear harr s1 s2 s3
            go_wp2_with (first
              | (with_reducible refine wpList_load_row rfl 78 (.tmp 1) rfl (w.heap.size + 1) rfl 78 (intsA codeL) (0, 0) _ S2.out Tryd.arrUnder rfl sizeCodes ?_)
              | (with_reducible refine wpList_store_row rfl 78 (.tmp 0) (.tmp 24) rfl w.heap.size (intsA codeL) rfl rfl 78 (intsA (arrAt 5 0)) S1.out sizeCodes (sizeCodes' _ _) (intsA_one _) ?_))
            try rw [Exit.noGoto_ret]
            refine bodyPost_ret (v := .agg (intsA codeL)) (results_cell_row rfl _ _ w.heap.size _ _ (0, 0) _ rfl (setRow_heap _ _ _ _ _ _ S1.out) Tryd.arrUnder rfl sizeCodes) rfl ⟨rfl, below_setRow S3.out (Nat.le_refl _) _⟩
          · have hbe : ((c : Int) == 256) = false := by rw [beq_eq_false_iff_ne]; omega
            go_wp2_with fail
            refine (length_any c _ hlt).mono ?_
            rintro e w' ⟨rfl, n1, rfl⟩
            rw [HL.out]
            go_wp2_with fail
            go_roundg (257 - (c + 1))
            case measure => have := HCG.out; omega
            case rel =>
              refine ⟨c + 1, by omega, by go_num, ?_, ?_, fun h => ?_⟩
              · rw [nextAt_set hlt HL.out, HX.out]; rfl
              · have := (hC2.out.drewN n1).set HL.out
                rw [← HK.out] at this
                exact this
              · omega
        · have HL := Lib.hid hl
          have hb : ((len c : Int) != (n : Int)) = true := by rw [bne_iff_ne]; omega
          clear hl
          go_wp2_with fail
          refine (length_any c _ hlt).mono ?_
          rintro e w' ⟨rfl, n1, rfl⟩
          go_wp2_with fail
          go_roundg (257 - (c + 1))
          case measure => have := HCG.out; omega
          case rel =>
            refine ⟨c + 1, by omega, by go_num, ?_, (hC2.out.drewN n1).skip HL.out, fun h => ?_⟩
            · rw [nextAt_skip hlt HL.out, HX.out]
            · have := H30.out h
              have h2 := HL.out
              rw [h] at h2
              apply Classical.byContradiction
              intro h3
              obtain rfl : c = 256 := by omega
              exact h2 len_end
      · obtain rfl : c = 257 := by omega
        have hn29 : n ≤ 29 := by
          have := H30.out
          omega
        go_wp2_with fail
        go_roundg (29 - n)
        case measure => have := HNG.out; omega
        case rel =>
          refine ⟨n + 1, by omega, by go_num, ?_, by omega, ?_⟩
          · rw [nextAt_row (by omega), HX.out]; show _ = Value.int .i64 _; congr 1; omega
          · obtain ⟨h1, h2, h3⟩ := hC2.out
            exact ⟨h1, by rw [← arrAt_row]; exact h2, h3⟩
end Go.Proofs.YtimggejonppegaaDoor
