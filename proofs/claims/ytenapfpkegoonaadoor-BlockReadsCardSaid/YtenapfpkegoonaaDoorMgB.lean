/-
  Several texts of mine, one behind the other: HuffSize, Ref04, Ref04b, HuffEnc, Ref04Enc, Ref04Dec, HuffDec, Str, LitMath, LitDec, ItMath, ItRef, Law04, Lit, ItEnc, ItRead, ItDec, Ref03, Ref05Dec, ItRefDec.
-/
import Derived.Test.YtenapfpkegoonaaDoorMgA
import Derived.Great.BuildSlice
import Derived.IntWalk
import Derived.WalkMore
import Derived.Shelf.Abstract
import Derived.RangeFuncCalls
import Derived.Maps.AppendAt
import Derived.Laws.IdiomStrings
import Derived.Laws.BytesArg
import Derived.Lib.SmallJoins
import Derived.Deep.RegionWith

/-
  huff.Size.
-/
namespace Go.Proofs.YtenapfpkegoonaaDoor
open Go.RowKit

theorem bitsT_take {zs : List Int} {k : Nat} (h : k < zs.length) : bitsT (zs.take (k + 1)) = bitsT (zs.take k) ++ bitsOf (len (at0 zs k).toNat) (code (at0 zs k).toNat) := by
  rw [take_at0 zs k h, bitsT_snoc]
theorem bitsT_take_len {zs : List Int} {k : Nat} (h : k < zs.length) : (bitsT (zs.take (k + 1))).length = (bitsT (zs.take k)).length + len (at0 zs k).toNat := by
  rw [bitsT_take h, List.length_append, bitsOf_length]
theorem bitsT_take_le {zs : List Int} (hf : Fit .u8 zs) (k : Nat) : (bitsT (zs.take k)).length ≤ 30 * zs.length := by
  have := bitsT_length (zs.take k) (hf.take k)
  have h2 : (zs.take k).length ≤ zs.length := List.length_take_le' k zs
  omega

theorem ret_i64 {a b : Int} (h : a = b) : Ending.returned (.int .i64 a) = .returned (.int .i64 b) := by rw [h]
theorem Size_any (v : Value) (zs : List Int) (w : World) (hv : Sl .u8 w v zs) (hz : zs.length ≤ 1000000) :
    Calls Tryd.prog 83 #[v] w fun e w' => e = .returned (.int .i64 (sizeT zs)) ∧ ∃ n, w' = w.drewN n := by
  have hfit := hv.fit
  rcases hv.parts with ⟨rfl, a, cap, rfl⟩ | ⟨hp, b, off, cap, rfl, hlc, hcm, hb, hc⟩
  · clear hv
    go_enter Tryd.func83, Tryd.ntmps83
    go_wp2
    refine wp_loop_rounds 1 ?_
    rw [rounds_succ]
    go_wp2
    go_ret
    exact ⟨rfl, 0, rfl⟩
  · have HT := Lib.hid (fun k => bitsT_take_le hfit k)
    clear hv
    go_enter Tryd.func83, Tryd.ntmps83
    go_wp2
    go_loopw [3, 8] (fun s i wr => ∃ k n : Nat, k ≤ zs.length ∧ i = .int .i64 k ∧ s = .int .i64 (bitsT (zs.take k)).length ∧ wr = w.drewN n) (fun _ i _ => zs.length - (intOf i).toNat)
    case atStart => exact ⟨0, 0, Nat.zero_le _, rfl, rfl, rfl⟩
    case round =>
      obtain ⟨k, n, hk, rfl, rfl, rfl⟩ := hrel
      have hle := HT.out k
      obtain ⟨x, hx⟩ : ∃ x, (bitsT (zs.take k)).length = x := ⟨_, rfl⟩
      have HX := Lib.hid hx
      rw [hx] at hle ⊢
      clear hx
      by_cases hlt : k < zs.length
      · have hcx := hc k hlt
        have hbz := hfit.byte k
        obtain ⟨c, hcc⟩ : ∃ c : Nat, at0 zs k = (c : Int) := ⟨(at0 zs k).toNat, by omega⟩
        have HN := Lib.hid (bitsT_take_len hlt)
        have hc2 : c < 257 := by omega
        rw [hcc] at hcx hbz HN
        have HC := Lib.hid hcc
        have hl := len_bd hc2
        clear hc hcc
        go_wp2_with fail
        refine (length_any c _ hc2).mono ?_
        rintro e w' ⟨rfl, n1, rfl⟩
        go_wp2_with fail
        go_roundw
        case rel =>
          refine ⟨k + 1, n + n1, by omega, by go_num, ?_, rfl⟩
          rw [HN.out, HX.out, Int.toNat_natCast]
          go_num
        case measure => simp [intOf]; omega
      · obtain rfl : k = zs.length := by omega
        have HS := Lib.hid (show sizeT zs = (x + 7) / 8 by rw [sizeT, ← HX.out, List.take_length])
        go_wp2_with fail
        go_ret
        exact ⟨Eq.trans (b := Ending.returned (.int .i64 (((x : Int) + 8 - 1) / 8))) rfl (ret_i64 (by rw [HS.out]; omega)), _, rfl⟩
end Go.Proofs.YtenapfpkegoonaaDoor

/-
  The document's own answers of layer 4: lengths and codes.
-/
namespace Go.Proofs.YtenapfpkegoonaaDoor
open Go.RowKit

def lenZs : List Int := lenN.map (fun (x : Nat) => (x : Int))
theorem lenZs_eq : lenZs = lenL := lenL_list.symm
theorem lenZs_length : lenZs.length = 257 := by rw [lenZs_eq, lenL_length]
theorem Tryd.infoInt : (Tryd.prog.info? 3).map (fun i => (i.zero, i.size, i.bytes)) = some (some (.int .i64 0), 1, 8) := by kernel_rfl
theorem Tryd.sizeInt : (Tryd.prog.info? 3).map (·.size) = some 1 := by kernel_rfl
theorem Tryd.zeroSome : ((Tryd.prog.info? 3).bind (·.zero)).isSome = true := by kernel_rfl

theorem lengths_any (w : World) :
    Calls Tryd.prog 91 #[] w fun e w' => e = .returned (.slice (some ⟨w.heap.size, 0, none⟩) 257 257) ∧ w' = w.alloc (.cells (intsA lenL) 3) := by
  have hz : (lenZs.map (Value.int .i64)).toArray = intsA lenL := by rw [lenZs_eq]; rfl
  go_enter Tryd.func91, Tryd.ntmps91
  go_wp2_with (refine wpList_buildFlat rfl 131 3 257 _ rfl .i64 lenZs Tryd.underlying131 Tryd.sizeInt Tryd.zeroSome lenZs_length.symm (by decide) (by decide) (by kernel_rfl) ?_; rw [hz])
  go_ret
  exact ⟨rfl, rfl⟩

theorem lenL_cell {W : World} {b c : Nat} {t : TypeId} (h : W.heap[b]? = some (.cells (intsA lenL) t (0, 0))) (hc : c < 257) : W.cell? ⟨b, c, none⟩ = some (.int .i64 (len c)) := by
  have := blk_cell (j := c) h (intsA_get (by rw [lenL_length]; exact hc))
  rwa [lenL_at hc] at this
theorem codeL_cell {W : World} {b c : Nat} {t : TypeId} (h : W.heap[b]? = some (.cells (intsA codeL) t (0, 0))) (hc : c < 257) : W.cell? ⟨b, c, none⟩ = some (.int .i64 (code c)) := by
  have := blk_cell (j := c) h (intsA_get (by rw [codeL_length]; exact hc))
  rwa [codeL_at hc] at this

set_option maxHeartbeats 1000000 in
set_option maxRecDepth 20000 in
theorem refCodes_any (w : World) :
    Calls Tryd.prog 92 #[] w fun e w' => ∃ g, e = .returned (.slice (some ⟨g, 0, none⟩) 257 257) ∧ w.heap.size ≤ g ∧ w'.heap[g]? = some (.cells (intsA codeL) 3 (0, 0)) ∧ Below w.heap.size w w' := by
  obtain ⟨i0, hi, hz0, hz1, hz2⟩ := info_parts Tryd.infoInt
  have hl0 := heap_alloc_new w (.cells (intsA lenL) 3)
  have hB0 := (Below.refl w.heap.size w).alloc (Nat.le_refl _) (.cells (intsA lenL) 3)
  have hs0 : (w.alloc (.cells (intsA lenL) 3)).heap.size = w.heap.size + 1 := by simp
  obtain ⟨W1, hW1⟩ : ∃ W1, w.alloc (.cells (intsA lenL) 3) = W1 := ⟨_, rfl⟩
  have HW1 := Lib.hid hW1
  rw [hW1] at hl0 hB0 hs0
  have HS := Lib.hid hs0
  have HL0 := Lib.hid hl0
  clear hW1 hs0
  go_enter Tryd.func92, Tryd.ntmps92
  go_wp2_with fail
  refine (lengths_any _).mono ?_
  rintro e w' ⟨rfl, rfl⟩
  rw [HW1.out]
  go_wp2_with (at_make; refine wpList_make_full _ rfl _ _ 131 rfl W1.heap.size 3 i0 (.int .i64 0) 1 Tryd.underlying131 hi hz0 hz1 .i64 .i64 _ _ 257 rfl rfl rfl rfl (by rw [hz2]; decide) (by unfold maxLen; omega) (Nat.le_refl _) ?_; intro w1 hown hgrow; have hown1 := made_zeros hown; rw [← arrAt_low (Nat.le_add_left 1 4)] at hown1; clear hown)
  have hbl := hB0.grown hgrow hB0.size (fun k h => by simp at h)
  have hlen1 : w1.heap[w.heap.size]? = some (.cells (intsA lenL) 3 (0, 0)) := (hgrow.block _ (by have := HS.out; omega) (by simp)).trans hl0
  have hb1 : Below W1.heap.size W1 w1 := (Below.refl _ _).grown hgrow (Nat.le_refl _) (fun k h => by simp at h)
  clear hgrow hl0
  go_loopg [3, 4] 30 (fun g s3 s4 wx => ∃ n : Nat, n + g = 31 ∧ s4 = .int .i64 n ∧ s3 = .int .i64 (nextAt n 0) ∧ 1 ≤ n ∧ wx.ownsRow W1.heap.size 3 1 (.slice (some ⟨W1.heap.size, 0, none⟩) 257 257) 257 ((arrAt n 0).map (Value.int .i64)) ∧ Below W1.heap.size W1 wx)
  case atStart => exact ⟨1, rfl, rfl, by rw [nextAt_low.1]; rfl, Nat.le_refl _, hown1, hb1⟩
  case round =>
    clear hown1 hbl hb1 hlen1
    obtain ⟨n, hng, rfl, rfl, hn1, hO, hB⟩ := hrel
    have hnx : ((nextAt n 0 : Nat) : Int) ≤ 2147483905 := by have := nextAt_le (n := n) (by omega) 0; omega
    have HNG := Lib.hid hng
    have hn31 : n ≤ 31 := by omega
    have HO := Lib.hid hO
    have HB := Lib.hid hB
    clear hng hO hB
    obtain ⟨x0, hx0⟩ : ∃ x0, nextAt n 0 = x0 := ⟨_, rfl⟩
    have HX0 := Lib.hid hx0
    rw [hx0] at hnx ⊢
    clear hx0
    by_cases h30 : n ≤ 30
    · go_wp2_with fail
      clear hnx
      go_loopg [3, 5] 257 (fun g2 s3 s5 wy => ∃ c : Nat, c + g2 = 257 ∧ s5 = .int .i64 c ∧ s3 = .int .i64 (nextAt n c) ∧ wy.ownsRow W1.heap.size 3 1 (.slice (some ⟨W1.heap.size, 0, none⟩) 257 257) 257 ((arrAt n c).map (Value.int .i64)) ∧ Below W1.heap.size W1 wy)
      case atStart => exact ⟨0, rfl, rfl, by rw [HX0.out], HO.out, HB.out⟩
      case round =>
        obtain ⟨c, hcg, rfl, rfl, hO, hB⟩ := hrel
        have HCG := Lib.hid hcg
        have hc257 : c ≤ 257 := by omega
        clear hcg
        have hnx : ((nextAt n c : Nat) : Int) ≤ 2147483905 := by have := nextAt_le (n := n) (by omega) c; omega
        obtain ⟨x, hx⟩ : ∃ x, nextAt n c = x := ⟨_, rfl⟩
        have HX := Lib.hid hx
        rw [hx] at hnx ⊢
        clear hx
        by_cases hlt : c < 257
        · have hcl := lenL_cell ((hB.block w.heap.size (by have := HS.out; omega)).trans HL0.out) hlt
          by_cases hl : len c = n
          · have hcell := owned_cell hO c hlt
            have hfr := hO.frozenAt c
            have hO2 := owned_store hO c x
            rw [← HX.out, show nextAt n c = code c by rw [← hl]; exact nextAt_code hlt, arrAt_set hl] at hO2
            have HO2 := Lib.hid hO2
            have HXC : Hid (x = code c) := by show x = code c; rw [← HX.out, ← hl]; exact nextAt_code hlt
            have HB2 := Lib.hid hB
            have hd : (((len c : Nat) : Int) == (n : Int)) = true := by rw [hl]; simp
            have HL := Lib.hid hl
            clear hl hO hO2 hB
            go_wp2_with fail
            go_roundg (257 - (c + 1))
            case measure => have := HCG.out; omega
            case rel =>
              refine ⟨c + 1, by omega, by go_num, ?_, ?_, HB2.out.setCell (Nat.le_refl _) _⟩
              · rw [nextAt_set hlt HL.out, HX.out]; rfl
              · have := HO2.out
                rw [← HXC.out] at this
                exact this
          · have hd : (((len c : Nat) : Int) == (n : Int)) = false := by rw [beq_eq_false_iff_ne]; omega
            have HL := Lib.hid hl
            have HO2 := Lib.hid hO
            have HB2 := Lib.hid hB
            clear hl hO hB
            go_wp2_with fail
            go_roundg (257 - (c + 1))
            case measure => have := HCG.out; omega
            case rel => exact ⟨c + 1, by omega, by go_num, by rw [nextAt_skip hlt HL.out, HX.out], by rw [arrAt_skip HL.out]; exact HO2.out, HB2.out⟩
        · obtain rfl : c = 257 := by omega
          have HO2 := Lib.hid hO
          have HB2 := Lib.hid hB
          clear hO hB
          go_wp2_with fail
          go_roundg (30 - n)
          case measure => have := HNG.out; omega
          case rel =>
            refine ⟨n + 1, by omega, by go_num, ?_, by omega, by rw [← arrAt_row]; exact HO2.out, HB2.out⟩
            rw [nextAt_row h30, HX.out]; show _ = Value.int .i64 _; congr 1
    · obtain rfl : n = 31 := by omega
      go_wp2_with fail
      go_ret
      have hO := HO.out
      rw [arrAt_end] at hO
      refine ⟨W1.heap.size, rfl, hB0.size, own_block hO, hB0.trans (HB.out.mono hB0.size)⟩
end Go.Proofs.YtenapfpkegoonaaDoor

/-
  The document's own answers of layer 4: a code's bits, how many bytes, which code.
-/
namespace Go.Proofs.YtenapfpkegoonaaDoor
set_option maxRecDepth 20000
open Go.RowKit

/-- bits as bytes -/
def bitI (l : List Nat) : List Int := l.map (fun (x : Nat) => (x : Int))
theorem bitI_length (l : List Nat) : (bitI l).length = l.length := by simp [bitI]
theorem bitI_append (l m : List Nat) : bitI (l ++ m) = bitI l ++ bitI m := by simp [bitI]
theorem bitI_at (l : List Nat) (i : Nat) : at0 (bitI l) i = ((l.getD i 0 : Nat) : Int) := by
  by_cases h : i < l.length
  · simp [at0, bitI, h]
  · simp [at0, bitI, List.getElem?_eq_none (by omega : l.length ≤ i)]
theorem bitI_fit {l : List Nat} (h : Bits l) : Fit .u8 (bitI l) := by
  intro x hx
  obtain ⟨b, hb, rfl⟩ := List.mem_map.1 hx
  have := h b hb
  exact WalkArith.wf_u8 (by omega)
/-- the last ones of a number's bits, zeros ahead of them -/
def rowB (n c k : Nat) : List Int := List.replicate (n - k) 0 ++ bitI ((bitsOf n c).drop (n - k))
theorem rowB_zero (n c : Nat) : rowB n c 0 = List.replicate n 0 := by
  rw [rowB, List.drop_of_length_le (by rw [bitsOf_length]; omega)]; simp [bitI]
theorem rowB_whole (n c : Nat) : rowB n c n = bitI (bitsOf n c) := by simp [rowB]
theorem rowB_set {n c k : Nat} (h : k < n) : (rowB n c k).set (n - 1 - k) ((c / 2 ^ k % 2 : Nat) : Int) = rowB n c (k + 1) := by
  have hl := bitsOf_length n c
  have hg := bitsOf_get (n := n) (k := c) (i := n - 1 - k) (by omega)
  rw [show n - 1 - (n - 1 - k) = k by omega] at hg
  have e1 : (bitsOf n c).drop (n - (k + 1)) = (c / 2 ^ k % 2) :: (bitsOf n c).drop (n - k) := by
    rw [List.drop_eq_getElem_cons (by omega : n - (k + 1) < (bitsOf n c).length), show n - (k + 1) + 1 = n - k by omega]
    congr 1
    rw [← hg]
    simp [show n - 1 - k < (bitsOf n c).length by omega, show n - (k + 1) = n - 1 - k by omega]
  have e2 : List.replicate (n - k) (0 : Int) = List.replicate (n - (k + 1)) 0 ++ [0] := by
    rw [← List.replicate_succ', show n - (k + 1) + 1 = n - k by omega]
  rw [rowB, rowB, e1, e2, List.append_assoc, List.set_append_right _ _ (by simp; omega), List.length_replicate, show n - 1 - k - (n - (k + 1)) = 0 by omega]
  rfl

theorem spell_own (c n : Nat) (w : World) (hn : n ≤ 30) (hc : c < 2147483648) :
    Calls Tryd.prog 93 #[.int .i64 c, .int .i64 n] w fun e w' => ∃ v, e = .returned v ∧ w'.ownsRow w.heap.size 5 1 v n ((bitI (bitsOf n c)).map (Value.int .u8)) ∧ Below w.heap.size w w' := by
  obtain ⟨i0, hi, hz0, hz1, hz2⟩ := info_parts Tryd.info5'
  go_enter Tryd.func93, Tryd.ntmps93
  go_wp2_with (at_make; refine wpList_make_full _ rfl _ _ 30 rfl w.heap.size 5 i0 (.int .u8 0) 1 Tryd.underlying30 hi hz0 hz1 .i64 .i64 _ _ n rfl rfl rfl rfl (by rw [hz2]; omega) (by unfold maxLen; omega) (Nat.le_refl _) ?_; intro w1 hown hgrow)
  have hbel : Below w.heap.size w w1 := (Below.refl _ _).grown hgrow (Nat.le_refl _) (fun k h => by simp at h)
  have hown0 : w1.ownsRow w.heap.size 5 1 (.slice (some ⟨w.heap.size, 0, none⟩) n n) n ((rowB n c 0).map (Value.int .u8)) := by
    rw [rowB_zero]; exact made_zeros hown
  clear hown hgrow
  go_loopw [6, 7] (fun l i wr => ∃ k : Nat, k ≤ n ∧ i = .int .i64 ((n : Int) - 1 - k) ∧ l = .int .i64 ((c / 2 ^ k : Nat) : Int) ∧ wr.ownsRow w.heap.size 5 1 (.slice (some ⟨w.heap.size, 0, none⟩) n n) n ((rowB n c k).map (Value.int .u8)) ∧ Below w.heap.size w wr)
      (fun _ i _ => (intOf i + 1).toNat)
  case atStart => exact ⟨0, Nat.zero_le _, by simp, by simp, hown0, hbel⟩
  case round =>
    clear hown0 hbel
    obtain ⟨k, hk, rfl, rfl, hown, hbel⟩ := hrel
    have hq0 : c / 2 ^ k ≤ c := Nat.div_le_self _ _
    obtain ⟨q, hq⟩ : ∃ q, c / 2 ^ k = q := ⟨_, rfl⟩
    have HQ := Lib.hid hq
    by_cases hlt : k < n
    · have hset := rowB_set (c := c) hlt
      have hnext : c / 2 ^ (k + 1) = q / 2 := by rw [Nat.pow_succ, ← Nat.div_div_eq_div_mul, hq]
      have HNX := Lib.hid hnext
      rw [hq] at hq0 hset ⊢
      have hcell := owned_cell hown (n - 1 - k) (by omega)
      have hfr := hown.frozenAt (n - 1 - k)
      have hown' := owned_store hown (n - 1 - k) ((q % 2 : Nat) : Int)
      rw [hset] at hown'
      have eq2 : ((q % 2 : Nat) : Int) = (q : Int) % 2 := by omega
      rw [eq2] at hown'
      have HO := Lib.hid hown'
      clear hq hset hnext hown' eq2 hown
      go_wp2
      go_roundw
      case rel => exact ⟨k + 1, by omega, by go_num, (by rw [HNX.out]; go_num), HO.out, hbel.setCell (Nat.le_refl _) _⟩
      case measure => simp [intOf]; omega
    · obtain rfl : k = n := by omega
      clear hq
      go_wp2
      go_ret
      rw [rowB_whole] at hown
      exact ⟨_, rfl, hown, hbel⟩

/-- which code these are, from one byte on -/
def findC (n k : Nat) : Int := match look n k with | none => -1 | some c => (c : Int)
theorem find_any (bl bc cl cc n k : Nat) (tl tc : TypeId) (w : World) (hl : w.heap[bl]? = some (.cells (intsA lenL) tl (0, 0))) (hc : w.heap[bc]? = some (.cells (intsA codeL) tc (0, 0))) :
    Calls Tryd.prog 94 #[.slice (some ⟨bl, 0, none⟩) 257 cl, .slice (some ⟨bc, 0, none⟩) 257 cc, .int .i64 k, .int .i64 n] w fun e w' => e = .returned (.int .i64 (findC n k)) ∧ w = w' := by
  have HL := Lib.hid hl
  have HC := Lib.hid hc
  clear hl hc
  go_enter Tryd.func94, Tryd.ntmps94
  go_wp2_with fail
  go_loop [9] (fun i => ∃ c : Nat, c ≤ 257 ∧ i = .int .i64 c ∧ Hid (∀ d, d < c → ¬ (len d = n ∧ code d = k))) (fun i => 257 - (intOf i).toNat)
  case atStart => exact ⟨0, Nat.zero_le _, rfl, fun d hd => absurd hd (Nat.not_lt_zero _)⟩
  case round =>
    obtain ⟨c, hc257, rfl, HN⟩ := hrel
    by_cases hlt : c < 257
    · have h1 := lenL_cell HL.out hlt
      have h2 := codeL_cell HC.out hlt
      by_cases hln : len c = n
      · have hd : (((len c : Nat) : Int) == (n : Int)) = true := by rw [hln]; simp
        by_cases hcn : code c = k
        · have hd2 : (((code c : Nat) : Int) == (k : Int)) = true := by rw [hcn]; simp
          have HF := Lib.hid (show findC n k = (c : Int) by rw [findC, ← hln, ← hcn, look_is hlt])
          clear hln hcn
          go_wp2_with fail
          go_ret
          exact ⟨by rw [HF.out]; rfl, rfl⟩
        · have hd2 : (((code c : Nat) : Int) == (k : Int)) = false := by rw [beq_eq_false_iff_ne]; omega
          have HD := Lib.hid (show ¬ (len c = n ∧ code c = k) from fun h => hcn h.2)
          clear hln hcn
          go_wp2_with fail
          go_round
          case rel => exact ⟨c + 1, by omega, by go_num, fun d hd => if h : d = c then by rw [h]; exact HD.out else HN.out d (by omega)⟩
          case measure => simp [intOf]; omega
      · have hd : (((len c : Nat) : Int) == (n : Int)) = false := by rw [beq_eq_false_iff_ne]; omega
        have HD := Lib.hid (show ¬ (len c = n ∧ code c = k) from fun h => hln h.1)
        clear hln
        go_wp2_with fail
        go_round
        case rel => exact ⟨c + 1, by omega, by go_num, fun d hd => if h : d = c then by rw [h]; exact HD.out else HN.out d (by omega)⟩
        case measure => simp [intOf]; omega
    · obtain rfl : c = 257 := by omega
      have HF := Lib.hid (show findC n k = -1 by
        rw [findC]
        cases e : look n k with
        | none => rfl
        | some d =>
          obtain ⟨h1, h2⟩ := look_of e
          exact absurd h2 (HN.out d h1))
      go_wp2_with fail
      go_ret
      exact ⟨by rw [HF.out]; rfl, rfl⟩
end Go.Proofs.YtenapfpkegoonaaDoor

/-
  huff.Encode.
-/
namespace Go.Proofs.YtenapfpkegoonaaDoor
set_option maxRecDepth 20000
open Go.RowKit

/-- what the loop has: so many bytes of the text; whole bytes of its bits; the bits that wait -/
def EncSt (zs : List Int) (k m : Nat) (done rest : List Nat) : Prop := bitsT (zs.take k) = done ++ rest ∧ done.length = 8 * m ∧ Bits rest ∧ Bits done
theorem EncSt.bound {zs : List Int} {k m : Nat} {done rest : List Nat} (h : EncSt zs k m done rest) (hf : Fit .u8 zs) : 8 * m + rest.length ≤ 30 * zs.length := by
  have h1 := bitsT_take_le hf k
  rw [h.1, List.length_append, h.2.1] at h1
  exact h1
theorem EncSt.byte {zs : List Int} {k m : Nat} {done rest : List Nat} (h : EncSt zs k m done rest) (hl : 8 ≤ rest.length) : EncSt zs k (m + 1) (done ++ rest.take 8) (rest.drop 8) :=
  ⟨by rw [h.1, List.append_assoc, List.take_append_drop], by rw [List.length_append, h.2.1, List.length_take]; omega, h.2.2.1.drop 8, h.2.2.2.append (h.2.2.1.take 8)⟩
theorem EncSt.group {zs : List Int} {k m : Nat} {done rest : List Nat} (h : EncSt zs k m done rest) (hl : 8 ≤ rest.length) : grp (done ++ rest.take 8) = grp done ++ [((val (rest.take 8) : Nat) : Int)] := by
  have h1 : (rest.take 8).length = 8 := by rw [List.length_take]; omega
  rw [grp_append m _ _ h.2.1, grp_one h1]
theorem EncSt.count {zs : List Int} {k m : Nat} {done rest : List Nat} (h : EncSt zs k m done rest) : (grp done).length = m := grp_length _ _ h.2.1
theorem EncSt.more {zs : List Int} {k m : Nat} {done rest : List Nat} (h : EncSt zs k m done rest) (hk : k < zs.length) : EncSt zs (k + 1) m done (rest ++ bitsOf (len (at0 zs k).toNat) (code (at0 zs k).toNat)) :=
  ⟨by rw [bitsT_take hk, h.1, List.append_assoc], h.2.1, h.2.2.1.append (bitsOf_bits _ _), h.2.2.2⟩

theorem or_small' {x L c : Nat} (hx : x < 256) (hL : L ≤ 30) (hc : c < 2 ^ L) : bits .or .i64 ((x : Int) * 2 ^ L) (c : Int) = ((x * 2 ^ L + c : Nat) : Int) := by
  rw [← or_small hx hL hc]; push_cast; rfl
theorem v_small {x L c : Nat} (hx : x < 128) (hL : L ≤ 30) (hc : c < 2 ^ L) : x * 2 ^ L + c < 1099511627776 := by
  have h1 : 2 ^ L ≤ 1073741824 := Nat.pow_le_pow_right (by omega : 2 > 0) hL
  have h2 : x * 2 ^ L ≤ 127 * 1073741824 := Nat.mul_le_mul (by omega) h1
  omega

theorem byte_small {V q bv : Nat} (h : V / 2 ^ q % 256 = bv) : IntKind.u8.wrap ((V : Int) / 2 ^ q) = (bv : Int) := by
  have e : (V : Int) / 2 ^ q = ((V / 2 ^ q : Nat) : Int) := by push_cast; rfl
  rw [e]
  simp [IntKind.wrap, IntKind.bits, IntKind.signed]
  omega
theorem pow7 {n : Nat} (h : n ≤ 7) : (1 : Int) ≤ 2 ^ n ∧ (2 : Int) ^ n ≤ 128 := by
  rcases (show n = 0 ∨ n = 1 ∨ n = 2 ∨ n = 3 ∨ n = 4 ∨ n = 5 ∨ n = 6 ∨ n = 7 by omega) with rfl | rfl | rfl | rfl | rfl | rfl | rfl | rfl <;> decide
theorem mask_small' {V n : Nat} (hV : V < 1099511627776) (hn : n ≤ 30) : bits .and .i64 (V : Int) (2 ^ n - 1) = ((V % 2 ^ n : Nat) : Int) := by
  have hp : 0 < 2 ^ n := Nat.pow_pos (by omega)
  have e : (2 : Int) ^ n - 1 = ((2 ^ n - 1 : Nat) : Int) := by
    have : (2 : Int) ^ n = ((2 ^ n : Nat) : Int) := by push_cast; rfl
    rw [this]; omega
  rw [e, mask_small hV hn]

theorem last_or {x q : Nat} (hx : x < 256) (hq : q ≤ 30) : bits .or .i64 ((x * 2 ^ q : Nat) : Int) ((2 : Int) ^ q - 1) = ((x * 2 ^ q + (2 ^ q - 1) : Nat) : Int) := by
  have hp : 0 < 2 ^ q := Nat.pow_pos (by omega)
  have e : (2 : Int) ^ q - 1 = ((2 ^ q - 1 : Nat) : Int) := by
    have : (2 : Int) ^ q = ((2 ^ q : Nat) : Int) := by push_cast; rfl
    rw [this]; omega
  rw [e, or_small hx hq (by omega)]

theorem last_le {x r q : Nat} (h : x < 2 ^ r) (hr : r + q = 8) : x * 2 ^ q + (2 ^ q - 1) ≤ 255 := by
  have h2 : (x + 1) * 2 ^ q ≤ 2 ^ r * 2 ^ q := Nat.mul_le_mul_right _ h
  rw [← Nat.pow_add, hr, Nat.add_mul, Nat.one_mul] at h2
  have h4 : 0 < 2 ^ q := Nat.pow_pos (by omega)
  generalize x * 2 ^ q = Y at *
  generalize 2 ^ q = P at *
  omega

set_option maxHeartbeats 1000000 in
set_option maxRecDepth 20000 in
theorem enc_own (v : Value) (zs : List Int) (w : World) (hv : Sl .u8 w v zs) (hz : zs.length ≤ 1000000) :
    Calls Tryd.prog 97 #[v] w fun e w' => ∃ v', e = .returned v' ∧ w'.ownsRow w.heap.size 5 1 v' (enc zs).length ((enc zs).map (Value.int .u8)) ∧ Below w.heap.size w w' := by
  obtain ⟨i0, hi, hz0, hz1, hz2⟩ := info_parts Tryd.info5'
  have hza := (zero_of_info Tryd.zeroArr).1
  have hfit := hv.fit
  obtain ⟨a, cap, rfl, _⟩ := id hv
  go_enter Tryd.func97, Tryd.ntmps97
  go_wp2_with fail
  refine (codes_any _).mono ?_
  rintro e w1 ⟨rfl, hb1⟩
  have hn1 := heap_alloc_new w1 (.cells (intsA (arrAt 5 0)) 142)
  go_wp2_with (with_reducible refine wpList_store_row rfl 142 (.tmp 3) (.tmp 10) rfl w1.heap.size (intsA codeL) rfl rfl 142 (intsA (arrAt 5 0)) hn1 sizeCodes (sizeCodes' _ _) (intsA_one _) ?_)
  clear hn1 hza
  rw [World.setRow_alloc_new]
  have hcd := heap_alloc_new w1 (.cells (intsA codeL) 142)
  have hB2 := hb1.alloc hb1.size (.cells (intsA codeL) 142)
  have hs2 : w1.heap.size < (w1.alloc (.cells (intsA codeL) 142)).heap.size := by simp
  have hw1 := hb1.size
  obtain ⟨W2, hW2⟩ : ∃ W2, w1.alloc (.cells (intsA codeL) 142) = W2 := ⟨_, rfl⟩
  rw [hW2] at hcd hB2 hs2 ⊢
  clear hW2 hb1
  obtain ⟨B, hBe⟩ : ∃ B, w1.heap.size = B := ⟨_, rfl⟩
  rw [hBe] at hcd hs2 hw1 ⊢
  clear hBe w1
  have hv2 := hv.below hB2
  go_wp2_with fail
  refine (Size_any _ zs _ hv2 hz).mono ?_
  rintro e w' ⟨rfl, n2, rfl⟩
  have hsz := sizeT_le zs hfit
  obtain ⟨SZ, hSZ⟩ : ∃ SZ, sizeT zs = SZ := ⟨_, rfl⟩
  rw [hSZ] at hsz ⊢
  clear hSZ
  go_wp2_with (at_make; refine wpList_make_own _ rfl _ _ 30 rfl W2.heap.size 5 i0 (.int .u8 0) 1 Tryd.underlying30 hi hz0 hz1 .i64 .i64 _ SZ rfl rfl (by omega) (by rw [hz2]; omega) (by unfold maxLen; omega) (Nat.le_refl _) ?_; intro w3 hown hgrow)
  have hown0 : w3.ownsRow W2.heap.size 5 1 (.slice (some ⟨W2.heap.size, 0, none⟩) 0 SZ) 0 (([] : List Int).map (Value.int .u8)) := hown
  have hb3 : Below W2.heap.size W2 w3 := (below_drewN (Below.refl _ _) n2).grown hgrow (Nat.le_refl _) (fun k h => by simp at h)
  clear hown hgrow hv
  have HV := Lib.hid hv2
  clear hv2
  go_loopg [4, 5, 6, 16] zs.length (fun g s4 s5 s6 s16 wr => ∃ (k m : Nat) (done rest : List Nat), k + g = zs.length ∧ s16 = .int .i64 k ∧ Hid (EncSt zs k m done rest) ∧ rest.length ≤ 7 ∧ s5 = .int .i64 (val rest) ∧ s6 = .int .i64 rest.length ∧ wr.ownsRow W2.heap.size 5 1 s4 (grp done).length ((grp done).map (Value.int .u8)) ∧ Below W2.heap.size W2 wr)
  case atStart => exact ⟨0, 0, [], [], by omega, rfl, ⟨rfl, rfl, fun x hx => by simp at hx, fun x hx => by simp at hx⟩, by simp, rfl, rfl, by rw [grp_short (l := []) (by decide)]; exact hown0, hb3⟩
  case round =>
    clear hown0 hb3
    obtain ⟨k, m, done, rest, hkg, rfl, HE, hr7, rfl, rfl, hO, hB⟩ := hrel
    have HKG := Lib.hid hkg
    have hk : k ≤ zs.length := by omega
    have hxb := val_lt _ HE.out.2.2.1
    have hx128 : val rest < 128 := Nat.lt_of_lt_of_le hxb (Nat.pow_le_pow_right (by omega : 2 > 0) hr7)
    obtain ⟨x, hx⟩ : ∃ x, val rest = x := ⟨_, rfl⟩
    obtain ⟨r, hr⟩ : ∃ r, rest.length = r := ⟨_, rfl⟩
    rw [hx] at hx128 hxb ⊢
    rw [hr] at hr7 hxb ⊢
    have HX := Lib.hid hx
    have HR := Lib.hid hr
    have HXB := Lib.hid hxb
    clear hkg hx hr hxb
    obtain ⟨ao, cp, rfl, _⟩ := owned_shape hO
    have HO := Lib.hid hO
    have HB := Lib.hid hB
    by_cases hlt : k < zs.length
    · obtain ⟨b, off, rfl, hbs, hcx⟩ : ∃ b off, a = some ⟨b, off, none⟩ ∧ b < W2.heap.size ∧ W2.cell? ⟨b, off + k, none⟩ = some (.int .u8 (at0 zs k)) := by
        rcases HV.out.parts with ⟨h0, _⟩ | ⟨_, b, off, c2, he, _, _, h1, h2⟩
        · rw [h0] at hlt; simp at hlt
        · simp only [Value.slice.injEq] at he
          exact ⟨b, off, he.1, h1, h2 k hlt⟩
      replace hcx := (hB.cell (p := ⟨b, off + k, none⟩) hbs).trans hcx
      have hbz := hfit.byte k
      obtain ⟨c, hcc⟩ : ∃ c : Nat, at0 zs k = (c : Int) := ⟨(at0 zs k).toNat, by omega⟩
      have HM := Lib.hid (HE.out.more hlt)
      rw [hcc, Int.toNat_natCast] at HM
      rw [hcc] at hcx hbz
      have hc2 : c < 257 := by omega
      have hcw := codeL_cell ((hB.block B hs2).trans hcd) hc2
      have hl := len_bd hc2
      have HC := Lib.hid (code_lt hc2)
      have HLn := Lib.hid (fun (n : Nat) => length_any c (wr.drewN n) hc2)
      obtain ⟨L, hL⟩ : ∃ L, len c = L := ⟨_, rfl⟩
      obtain ⟨y, hy⟩ : ∃ y, code c = y := ⟨_, rfl⟩
      have HLL := Lib.hid hL
      have HYY := Lib.hid hy
      rw [hL] at hl HLn HC HM
      rw [hy] at hcw HC HM
      have hix := arr_index B c hc2
      have hsh := shl_small (x := x) (L := L) (by omega) (by omega)
      have HOR := Lib.hid (or_small' (x := x) (L := L) (c := y) (by omega) (by omega) HC.out)
      have hV40 := v_small (x := x) (L := L) (c := y) hx128 (by omega) HC.out
      have HVV := Lib.hid (wait_more (x := x) (L := L) (c := y) HX.out.symm HC.out)
      obtain ⟨V, hV⟩ : ∃ V, x * 2 ^ L + y = V := ⟨_, rfl⟩
      rw [hV] at HOR hV40 HVV
      clear hV
      clear hcc hL hy hO hB hcd
      go_wp2_with fail
      go_quiet ((go_at_call 99; exact Calls.quiet_of (HLn.out _)))
      go_wp2_with fail
      rw [HOR.out]
      refine (length_any c _ hc2).mono ?_
      rintro e w' ⟨rfl, n4, rfl⟩
      rw [HLL.out]
      clear hsh hix hcw hcx
      go_wp2_with fail
      go_loopg [4, 6] (r + L) (fun g2 s4 s6 wy => ∃ (m2 : Nat) (done2 rest2 : List Nat), Hid (rest2.length = g2) ∧ g2 ≤ 40 ∧ Hid (EncSt zs (k + 1) m2 done2 rest2) ∧ s6 = .int .i64 g2 ∧ Hid (V % 2 ^ rest2.length = val rest2) ∧ wy.ownsRow W2.heap.size 5 1 s4 (grp done2).length ((grp done2).map (Value.int .u8)) ∧ Below W2.heap.size W2 wy)
      case atStart =>
        refine ⟨m, done, rest ++ bitsOf L y, ?_, by omega, ?_, by go_num, ?_, owned_below HO.out (below_drewN (Below.refl _ _) _), below_drewN HB.out _⟩
        · show _ = _
          rw [List.length_append, bitsOf_length, HR.out]
        · show EncSt _ _ _ _ _
          exact HM.out
        · show _ = _
          rw [← HVV.out, HVV.out, Nat.mod_eq_of_lt]
          exact val_lt _ HM.out.2.2.1
      case round =>
        obtain ⟨m2, done2, rest2, HG, hg40, HE2, rfl, HMV, hO2, hB2'⟩ := hrel
        obtain ⟨ao2, cp2, rfl, _⟩ := owned_shape hO2
        have HO2 := Lib.hid hO2
        have HB2 := Lib.hid hB2'
        obtain ⟨j, hj⟩ : ∃ j, gk = j := ⟨_, rfl⟩
        subst hj
        have HMB := Lib.hid (HE2.out.bound hfit)
        have HCT := Lib.hid HE2.out.count
        have hct : (grp done2).length ≤ 30000000 := by rw [HCT.out]; have := HMB.out; omega
        by_cases h8 : 8 ≤ gk
        · obtain ⟨q, rfl⟩ : ∃ q, gk = q + 8 := ⟨gk - 8, by omega⟩
          obtain ⟨hb1, hb2⟩ := byte_step HE2.out.2.2.1 HG.out (by rw [← HG.out]; exact HMV.out)
          have HB1 := Lib.hid hb1
          have HRS := Lib.hid hb2
          have hl8 : 8 ≤ rest2.length := by rw [HG.out]; omega
          have HGR := Lib.hid (HE2.out.group hl8)
          have HE3 := Lib.hid (HE2.out.byte hl8)
          obtain ⟨bv, hbv⟩ : ∃ bv, val (rest2.take 8) = bv := ⟨_, rfl⟩
          rw [hbv] at HB1 HGR
          have hbv255 : bv ≤ 255 := by have := HB1.out; omega
          have hwrap := byte_small (V := V) (q := q) HB1.out
          clear hb1 hb2 hbv hl8
          go_wp2_with (at_builtin; refine app_ints rfl (.tmp 38) (.tmp 44) 30 rfl W2.heap.size 5 .u8 1 Tryd.underlying30 Tryd.info5' _ (grp done2).length (grp done2) rfl (hO2.alloc _) _ [(bv : Int)] rfl (Sl.lit' [(bv : Int)] rfl rfl rfl (by intro z hz; rw [List.mem_singleton] at hz; subst hz; exact WalkArith.wf_u8 (by omega)) (by simp [maxLen])) (by simp; omega) (by simp [maxLen]; omega) (by have := HB2.out.size; simp; omega) ?_; intro v5 w5 hO5 hc5 hg5)
          go_roundg q
          case measure => omega
          case rel =>
            refine ⟨m2 + 1, done2 ++ rest2.take 8, rest2.drop 8, ?_, by omega, HE3.out, by go_num, ?_, ?_, ?_⟩
            · show _ = _
              rw [List.length_drop, HG.out]; omega
            · show _ = _
              rw [List.length_drop, HG.out, show q + 8 - 8 = q by omega]
              exact HRS.out
            · rw [HGR.out]
              simpa using hO5
            · exact (HB2.out.alloc HB2.out.size _).trans hc5
        · have hg7 : gk ≤ 7 := by omega
          have hp := pow7 hg7
          have hs1 := shl_one gk (by omega)
          have HMK := Lib.hid (mask_small' (V := V) (n := gk) hV40 (by omega))
          go_wp2_with fail
          rw [HMK.out]
          go_roundg (zs.length - (k + 1))
          case measure => have := HKG.out; omega
          case rel =>
            refine ⟨k + 1, m2, done2, rest2, by omega, by go_num, HE2.out, by rw [HG.out]; omega, ?_, by rw [HG.out], HO2.out, HB2.out⟩
            rw [← HMV.out, HG.out]
    · obtain rfl : k = zs.length := by omega
      have HBT : Hid (bitsT zs = done ++ rest) := by
        show _ = _
        have := HE.out.1
        rwa [List.take_length] at this
      have HMB := Lib.hid (HE.out.bound hfit)
      have HCT := Lib.hid HE.out.count
      have hct : (grp done).length ≤ 30000000 := by rw [HCT.out]; have := HMB.out; omega
      have HB2 := Lib.hid hB2
      clear hB2
      by_cases h0 : 0 < r
      · obtain ⟨q, hq⟩ : ∃ q : Nat, 8 - r = q := ⟨_, rfl⟩
        have HL := Lib.hid (enc_last HBT.out HE.out.2.1 (by rw [HR.out]; exact h0) (by rw [HR.out]; exact hr7))
        rw [HR.out, HX.out, hq] at HL
        have he : 8 - (r : Int) = (q : Int) := by omega
        have hq8 : q ≤ 7 := by omega
        clear hq
        go_wp2_with fail
        have hq64 : (q : Int) ≤ 64 := by omega
        have hs1 := shl_small (x := x) (L := q) (by omega) (by omega)
        have hs2 := shl_one q (by omega)
        have hp7 := pow7 (n := q) (by omega)
        have hor := last_or (x := x) (q := q) (by omega) (by omega)
        have hm1 : IntKind.i64.wrap ((2 : Int) ^ q - 1) = 2 ^ q - 1 := wrap_i64_small (by omega) (by omega)
        obtain ⟨LV, hLV⟩ : ∃ LV, x * 2 ^ q + (2 ^ q - 1) = LV := ⟨_, rfl⟩
        rw [hLV] at hor HL
        have hor2 : bits .or .i64 ((x : Int) * 2 ^ q) ((2 : Int) ^ q - 1) = (LV : Int) := by rw [← hor]; push_cast; rfl
        clear hor
        have hl255 : LV ≤ 255 := by
          rw [← hLV]
          exact last_le HXB.out (by omega)
        have hw8 : IntKind.u8.wrap (LV : Int) = LV := by simp [IntKind.wrap, IntKind.bits, IntKind.signed]; omega
        clear hLV
        refine wp_region_table 10 [56, 57, 58, 59, 60, 61, 62, 63, 64, 65] [[], [], [], [(1, 57), (2, 58)], [], [(4, 60)], [(5, 61)], [(3, 59), (6, 62)], [(7, 63)], [(8, 64)]]
          (fun i v w' => match i with
            | 0 => v = .slice ao (grp done).length cp
            | 1 => v = .int .i64 x
            | 2 => v = .int .i64 q
            | 3 => v = .int .i64 ((x * 2 ^ q : Nat) : Int)
            | 4 => v = .int .i64 q
            | 5 => v = .int .i64 (2 ^ q)
            | 6 => v = .int .i64 (2 ^ q - 1)
            | 7 => v = .int .i64 LV
            | 8 => v = .int .u8 LV
            | 9 => Sl .u8 w' v [(LV : Int)]
            | _ => True) (by kernel_rfl) (by kernel_rfl) ?tStab ?tOps ?tRest
        case tStab =>
          intro i v w3 w4 h hb
          match i, h with
          | 0, h | 1, h | 2, h | 3, h | 4, h | 5, h | 6, h | 7, h | 8, h => exact h
          | 9, h => exact Sl.below h hb
          | i + 10, _ => trivial
        case tOps =>
          simp only [List.take_succ_cons, List.take_zero, opsOk]
          refine ⟨?_, ?_, ?_, ?_, ?_, ?_, ?_, ?_, ?_, ?_, trivial⟩
          · intro ρ w3 hc hf ho hB2 hj
            have x0 : ρ (.tmp 4) = .slice ao (grp done).length cp := ho 4 (by decide)
            simp [gives, go_sem, x0, Below.refl]
          · intro ρ w3 hc hf ho hB2 hj
            have x0 : ρ (.tmp 5) = .int .i64 x := ho 5 (by decide)
            simp [gives, go_sem, x0, Below.refl]
          · intro ρ w3 hc hf ho hB2 hj
            have x0 : ρ (.tmp 9) = .int .i64 q := ho 9 (by decide)
            simp [gives, go_sem, x0, Below.refl]
          · intro ρ w3 hc hf ho hB2 hj
            have x0 : ρ (.tmp 57) = .int .i64 x := hj (1, 57) (by simp)
            have x1 : ρ (.tmp 58) = .int .i64 q := hj (2, 58) (by simp)
            simp [gives, go_sem, x0, x1, hs1, Below.refl]
          · intro ρ w3 hc hf ho hB2 hj
            have x0 : ρ (.tmp 9) = .int .i64 q := ho 9 (by decide)
            simp [gives, go_sem, x0, Below.refl]
          · intro ρ w3 hc hf ho hB2 hj
            have x0 : ρ (.tmp 60) = .int .i64 q := hj (4, 60) (by simp)
            simp [gives, go_sem, hc, x0, hs2, Below.refl]
          · intro ρ w3 hc hf ho hB2 hj
            have x0 : ρ (.tmp 61) = .int .i64 (2 ^ q) := hj (5, 61) (by simp)
            simp [gives, go_sem, hc, x0, hm1, Below.refl]
          · intro ρ w3 hc hf ho hB2 hj
            have x0 : ρ (.tmp 59) = .int .i64 ((x * 2 ^ q : Nat) : Int) := hj (3, 59) (by simp)
            have x1 : ρ (.tmp 62) = .int .i64 (2 ^ q - 1) := hj (6, 62) (by simp)
            simp [gives, go_sem, x0, x1, hor2, Below.refl]
          · intro ρ w3 hc hf ho hB2 hj
            have x0 : ρ (.tmp 63) = .int .i64 LV := hj (7, 63) (by simp)
            simp [gives, go_sem, x0, hw8, Below.refl]
          · intro ρ w3 hc hf ho hB2 hj
            have x0 : ρ (.tmp 64) = .int .u8 LV := hj (8, 64) (by simp)
            simp [gives, go_sem, x0]
            exact ⟨Sl.lit' [(LV : Int)] rfl rfl rfl (by intro z hz; rw [List.mem_singleton] at hz; subst hz; exact WalkArith.wf_u8 (by omega)) (by simp [maxLen]), (Below.refl _ _).alloc (Nat.le_refl _) _⟩
        case tRest =>
          intro X w3 hBw hX
          have x0 : X 0 = .slice ao (grp done).length cp := hX 0 (by decide)
          have x9 : Sl .u8 w3 (X 9) [(LV : Int)] := hX 9 (by decide)
          simp only [putAll, List.getD_cons_zero, List.getD_cons_succ, Act.put, List.setIfInBounds_toArray, List.set_cons_zero, List.set_cons_succ, List.drop_succ_cons, List.drop_zero]
          have hO3 := owned_below HO.out hBw
          have HB3 := Lib.hid (HB.out.trans (hBw.mono HB.out.size))
          obtain ⟨av, cv, hXe, _⟩ := id x9
          rw [x0, hXe]
          rw [hXe] at x9
          clear hX hBw hO
          go_wp2_with (at_builtin; refine app_ints rfl (.tmp 56) (.tmp 65) 30 rfl W2.heap.size 5 .u8 1 Tryd.underlying30 Tryd.info5' _ (grp done).length (grp done) rfl hO3 _ [(LV : Int)] rfl x9 (by simp; omega) (by simp [maxLen]; omega) HB3.out.size ?_; intro v5 w5 hO5 hc5 hg5)
          go_ret
          rw [HL.out]
          exact ⟨_, rfl, owned_mono (by simpa using hO5) HB2.out.size, HB2.out.trans ((HB3.out.trans hc5).mono HB2.out.size)⟩
      · obtain rfl : r = 0 := by omega
        have HL := Lib.hid (enc_done HBT.out HE.out.2.1 HR.out)
        go_wp2_with fail
        go_ret
        rw [HL.out]
        exact ⟨_, rfl, owned_mono HO.out HB2.out.size, HB2.out.trans (HB.out.mono HB2.out.size)⟩
end Go.Proofs.YtenapfpkegoonaaDoor

/-
  The document's own answer of layer 4: a text's bytes.
-/
namespace Go.Proofs.YtenapfpkegoonaaDoor
set_option maxRecDepth 20000
open Go.RowKit

/-- the first ones of a text's codes, as bits -/
def bitR (zs : List Int) (k : Nat) : List Int := bitI (bitsT (zs.take k))
theorem bitR_step {zs : List Int} {k c : Nat} (h : k < zs.length) (hc : at0 zs k = (c : Int)) : bitR zs (k + 1) = bitR zs k ++ bitI (bitsOf (len c) (code c)) := by
  rw [bitR, bitsT_take h, bitI_append, hc, Int.toNat_natCast]; rfl
theorem bitR_len {zs : List Int} (hf : Fit .u8 zs) (k : Nat) : (bitR zs k).length ≤ 30 * zs.length := by
  rw [bitR, bitI_length]; exact bitsT_take_le hf k
/-- padded with so many 1s -/
def padR (zs : List Int) (j : Nat) : List Int := bitI (bitsT zs ++ List.replicate j 1)
theorem padR_step (zs : List Int) (j : Nat) : padR zs (j + 1) = padR zs j ++ [1] := by
  rw [padR, List.replicate_succ', ← List.append_assoc, bitI_append]; rfl
theorem padR_len (zs : List Int) (j : Nat) : (padR zs j).length = (bitsT zs).length + j := by simp [padR, bitI_length]

theorem Tryd.sliceInt : Tryd.prog.underlying 131 = some (.slice (Tryd.prog.elem 131)) := by kernel_rfl
theorem Tryd.sizeElemInt (w : World) : (sizeOf (Tryd.prog.elem 131)).run Tryd.prog w = .ok 1 w := by kernel_rfl
theorem sl_index {P : Program} {t : TypeId} (ht : P.underlying t = some (.slice (P.elem t))) (he : ∀ w, (sizeOf (P.elem t)).run P w = .ok 1 w) (b off n cap k : Nat) (hk : k < n) (q : IntKind) (W : World) :
    (Instr.indexAt t (.slice (some ⟨b, off, none⟩) n cap) (.int q k)).run P W = .ok (.pointer (some ⟨b, off + k, none⟩)) W := by
  rw [run_indexAt_slice W t ⟨b, off, none⟩ n cap q k ht, if_pos ⟨by omega, by omega⟩, he]
  simp [Result.andThen, Go.WideShapes.add_plain]

set_option maxHeartbeats 1000000 in
set_option maxRecDepth 20000 in
theorem refEnc_any (v : Value) (zs : List Int) (w : World) (hv : Sl .u8 w v zs) (hz : zs.length ≤ 1000000) :
    Calls Tryd.prog 100 #[v] w fun e w' => ∃ v', e = .returned v' ∧ Sl .u8 w' v' (enc zs) ∧ Below w.heap.size w w' := by
  have hfit := hv.fit
  obtain ⟨a, cap, rfl, _⟩ := id hv
  have hl0 := heap_alloc_new w (.cells (intsA lenL) 3)
  have hB0 := (Below.refl w.heap.size w).alloc (Nat.le_refl _) (.cells (intsA lenL) 3)
  have hs0 : w.heap.size < (w.alloc (.cells (intsA lenL) 3)).heap.size := by simp
  obtain ⟨W1, hW1⟩ : ∃ W1, w.alloc (.cells (intsA lenL) 3) = W1 := ⟨_, rfl⟩
  have HW1 := Lib.hid hW1
  rw [hW1] at hl0 hB0 hs0
  clear hW1
  go_enter Tryd.func100, Tryd.ntmps100
  go_wp2_with fail
  refine (lengths_any _).mono ?_
  rintro e w' ⟨rfl, rfl⟩
  rw [HW1.out]
  go_wp2_with fail
  refine (refCodes_any _).mono ?_
  rintro e W2 ⟨gc, rfl, hgc, hcd, hb2⟩
  have hl2 := (hb2.block _ hs0).trans hl0
  have hB2 := hB0.trans (hb2.mono hB0.size)
  have hv2 := hv.below hB2
  have hgc2 := (Array.getElem?_eq_some_iff.1 hcd).1
  have hgl2 := (Array.getElem?_eq_some_iff.1 hl2).1
  obtain ⟨gl, hgl⟩ : ∃ gl, w.heap.size = gl := ⟨_, rfl⟩
  rw [hgl] at hl2 hgl2 ⊢
  have HGL := Lib.hid hgl
  have HL2 := Lib.hid hl2
  have HC2 := Lib.hid hcd
  have HV := Lib.hid hv2
  have HB0 := Lib.hid hB2
  clear hb2 hB0 hl0 hs0 hgc hv hgl hl2 hcd hv2 hB2
  go_wp2_with fail
  go_loopg [5, 6] zs.length (fun g s5 s6 wr => ∃ k : Nat, k + g = zs.length ∧ s6 = .int .i64 k ∧ wr.ownsRow W2.heap.size 5 1 s5 (bitR zs k).length ((bitR zs k).map (Value.int .u8)) ∧ Below W2.heap.size W2 wr)
  case atStart => exact ⟨0, by omega, rfl, World.ownsRow_nil _ _ _ _, Below.refl _ _⟩
  case round =>
    obtain ⟨k, hkg, rfl, hO, hB⟩ := hrel
    have HKG := Lib.hid hkg
    have hk : k ≤ zs.length := by omega
    have hbl := bitR_len hfit k
    clear hkg
    obtain ⟨ao, cp, rfl, _⟩ := owned_shape hO
    have HO := Lib.hid hO
    have HB := Lib.hid hB
    by_cases hlt : k < zs.length
    · obtain ⟨b, off, rfl, hbs, hcx⟩ : ∃ b off, a = some ⟨b, off, none⟩ ∧ b < W2.heap.size ∧ W2.cell? ⟨b, off + k, none⟩ = some (.int .u8 (at0 zs k)) := by
        rcases HV.out.parts with ⟨h0, _⟩ | ⟨_, b, off, c2, he, _, _, h1, h2⟩
        · rw [h0] at hlt; simp at hlt
        · simp only [Value.slice.injEq] at he
          exact ⟨b, off, he.1, h1, h2 k hlt⟩
      have hbz := hfit.byte k
      obtain ⟨c, hcc⟩ : ∃ c : Nat, at0 zs k = (c : Int) := ⟨(at0 zs k).toNat, by omega⟩
      have HN := Lib.hid (bitR_step hlt hcc)
      rw [hcc] at hcx hbz
      have hc2 : c < 257 := by omega
      have hl := len_bd hc2
      have hcl := code_lt hc2
      have hc30 : code c < 2147483648 := Nat.lt_of_lt_of_le hcl (Nat.le_trans (Nat.pow_le_pow_right (by omega : 2 > 0) hl.2) (by decide))
      have hcx2 := (hB.cell (p := ⟨b, off + k, none⟩) hbs).trans hcx
      have hll := lenL_cell ((hB.block _ hgl2).trans HL2.out) hc2
      have hcc2 := codeL_cell ((hB.block _ hgc2).trans HC2.out) hc2
      have hbs2 : b < wr.heap.size := Nat.lt_of_lt_of_le hbs hB.size
      have hgl3 : gl < wr.heap.size := Nat.lt_of_lt_of_le hgl2 hB.size
      have hgc3 : gc < wr.heap.size := Nat.lt_of_lt_of_le hgc2 hB.size
      clear hcl hcc hcx hO hB
      go_wp2_with fail
      have HCX := Lib.hid hcx2
      clear hcx2 hll hcc2
      refine wp_region_table 16 [19, 20, 21, 22, 23, 24, 25, 26, 27, 28, 29, 30, 31, 32, 33, 34]
        [[], [], [], [], [(2, 21), (3, 22)], [(4, 23)], [(1, 20), (5, 24)], [(6, 25)], [], [], [], [(9, 28), (10, 29)], [(11, 30)], [(8, 27), (12, 31)], [(13, 32)], [(7, 26), (14, 33)]]
        (fun i v w' => match i with
          | 0 => v = .slice ao (bitR zs k).length cp
          | 1 => v = .slice (some ⟨gc, 0, none⟩) 257 257
          | 2 => v = .slice (some ⟨b, off, none⟩) zs.length cap
          | 3 => v = .int .i64 k
          | 4 => v = .pointer (some ⟨b, off + k, none⟩)
          | 5 => v = .int .u8 c
          | 6 => v = .pointer (some ⟨gc, c, none⟩)
          | 7 => v = .int .i64 (code c)
          | 8 => v = .slice (some ⟨gl, 0, none⟩) 257 257
          | 9 => v = .slice (some ⟨b, off, none⟩) zs.length cap
          | 10 => v = .int .i64 k
          | 11 => v = .pointer (some ⟨b, off + k, none⟩)
          | 12 => v = .int .u8 c
          | 13 => v = .pointer (some ⟨gl, c, none⟩)
          | 14 => v = .int .i64 (len c)
          | 15 => Sl .u8 w' v (bitI (bitsOf (len c) (code c)))
          | _ => True) (by kernel_rfl) (by kernel_rfl) ?tStab ?tOps ?tRest
      case tStab =>
        intro i v w3 w4 h hb
        match i, h with
        | 0, h | 1, h | 2, h | 3, h | 4, h | 5, h | 6, h | 7, h | 8, h | 9, h | 10, h | 11, h | 12, h | 13, h | 14, h => exact h
        | 15, h => exact Sl.below h hb
        | i + 16, _ => trivial
      case tOps =>
        have ix1 : ∀ (q : IntKind) (W : World), (Instr.indexAt 30 (.slice (some ⟨b, off, none⟩) zs.length cap) (.int q k)).run Tryd.prog W = .ok (.pointer (some ⟨b, off + k, none⟩)) W := fun q W => sl_index Tryd.slice22 Tryd.size22 b off _ _ k hlt q W
        have ix2 : ∀ (q : IntKind) (W : World), (Instr.indexAt 131 (.slice (some ⟨gc, 0, none⟩) 257 257) (.int q c)).run Tryd.prog W = .ok (.pointer (some ⟨gc, c, none⟩)) W := fun q W => by
          have := sl_index Tryd.sliceInt Tryd.sizeElemInt gc 0 257 257 c hc2 q W
          rwa [Nat.zero_add] at this
        have ix3 : ∀ (q : IntKind) (W : World), (Instr.indexAt 131 (.slice (some ⟨gl, 0, none⟩) 257 257) (.int q c)).run Tryd.prog W = .ok (.pointer (some ⟨gl, c, none⟩)) W := fun q W => by
          have := sl_index Tryd.sliceInt Tryd.sizeElemInt gl 0 257 257 c hc2 q W
          rwa [Nat.zero_add] at this
        have low : ∀ {W3 : World} {p : Nat}, Below wr.heap.size wr W3 → p < W2.heap.size → W3.heap[p]? = W2.heap[p]? := fun h hp => (h.block _ (Nat.lt_of_lt_of_le hp HB.out.size)).trans (HB.out.block _ hp)
        have hcx3 : ∀ {W3 : World}, Below wr.heap.size wr W3 → W3.cell? ⟨b, off + k, none⟩ = some (.int .u8 c) := fun h => (h.cell (p := ⟨b, off + k, none⟩) hbs2).trans HCX.out
        simp only [List.take_succ_cons, List.take_zero, opsOk]
        refine ⟨?_, ?_, ?_, ?_, ?_, ?_, ?_, ?_, ?_, ?_, ?_, ?_, ?_, ?_, ?_, ?_, trivial⟩
        · intro ρ w3 hc hf ho hB2 hj
          have x0 : ρ (.tmp 5) = .slice ao (bitR zs k).length cp := ho 5 (by decide)
          simp [gives, go_sem, x0, Below.refl]
        · intro ρ w3 hc hf ho hB2 hj
          have x0 : ρ (.tmp 4) = .slice (some ⟨gc, 0, none⟩) 257 257 := ho 4 (by decide)
          simp [gives, go_sem, x0, Below.refl]
        · intro ρ w3 hc hf ho hB2 hj
          have x0 : ρ (.tmp 0) = .slice (some ⟨b, off, none⟩) zs.length cap := ho 0 (by decide)
          simp [gives, go_sem, x0, Below.refl]
        · intro ρ w3 hc hf ho hB2 hj
          have x0 : ρ (.tmp 6) = .int .i64 k := ho 6 (by decide)
          simp [gives, go_sem, x0, Below.refl]
        · intro ρ w3 hc hf ho hB2 hj
          have x0 : ρ (.tmp 21) = .slice (some ⟨b, off, none⟩) zs.length cap := hj (2, 21) (by simp)
          have x1 : ρ (.tmp 22) = .int .i64 k := hj (3, 22) (by simp)
          simp [gives, go_sem, x0, x1, ix1, Below.refl]
        · intro ρ w3 hc hf ho hB2 hj
          have x0 : ρ (.tmp 23) = .pointer (some ⟨b, off + k, none⟩) := hj (4, 23) (by simp)
          have cc := hcx3 hB2
          simp [gives, go_sem, x0, cc, Below.refl]
        · intro ρ w3 hc hf ho hB2 hj
          have x0 : ρ (.tmp 20) = .slice (some ⟨gc, 0, none⟩) 257 257 := hj (1, 20) (by simp)
          have x1 : ρ (.tmp 24) = .int .u8 c := hj (5, 24) (by simp)
          simp [gives, go_sem, x0, x1, ix2, Below.refl]
        · intro ρ w3 hc hf ho hB2 hj
          have x0 : ρ (.tmp 25) = .pointer (some ⟨gc, c, none⟩) := hj (6, 25) (by simp)
          have cc := codeL_cell ((low hB2 hgc2).trans HC2.out) hc2
          simp [gives, go_sem, x0, cc, Below.refl]
        · intro ρ w3 hc hf ho hB2 hj
          have x0 : ρ (.tmp 3) = .slice (some ⟨gl, 0, none⟩) 257 257 := ho 3 (by decide)
          simp [gives, go_sem, x0, Below.refl]
        · intro ρ w3 hc hf ho hB2 hj
          have x0 : ρ (.tmp 0) = .slice (some ⟨b, off, none⟩) zs.length cap := ho 0 (by decide)
          simp [gives, go_sem, x0, Below.refl]
        · intro ρ w3 hc hf ho hB2 hj
          have x0 : ρ (.tmp 6) = .int .i64 k := ho 6 (by decide)
          simp [gives, go_sem, x0, Below.refl]
        · intro ρ w3 hc hf ho hB2 hj
          have x0 : ρ (.tmp 28) = .slice (some ⟨b, off, none⟩) zs.length cap := hj (9, 28) (by simp)
          have x1 : ρ (.tmp 29) = .int .i64 k := hj (10, 29) (by simp)
          simp [gives, go_sem, x0, x1, ix1, Below.refl]
        · intro ρ w3 hc hf ho hB2 hj
          have x0 : ρ (.tmp 30) = .pointer (some ⟨b, off + k, none⟩) := hj (11, 30) (by simp)
          have cc := hcx3 hB2
          simp [gives, go_sem, x0, cc, Below.refl]
        · intro ρ w3 hc hf ho hB2 hj
          have x0 : ρ (.tmp 27) = .slice (some ⟨gl, 0, none⟩) 257 257 := hj (8, 27) (by simp)
          have x1 : ρ (.tmp 31) = .int .u8 c := hj (12, 31) (by simp)
          simp [gives, go_sem, x0, x1, ix3, Below.refl]
        · intro ρ w3 hc hf ho hB2 hj
          have x0 : ρ (.tmp 32) = .pointer (some ⟨gl, c, none⟩) := hj (13, 32) (by simp)
          have cc := lenL_cell ((low hB2 hgl2).trans HL2.out) hc2
          simp [gives, go_sem, x0, cc, Below.refl]
        · intro ρ w3 hc hf ho hB2 hj
          have x0 : ρ (.tmp 26) = .int .i64 (code c) := hj (7, 26) (by simp)
          have x1 : ρ (.tmp 33) = .int .i64 (len c) := hj (14, 33) (by simp)
          simp [gives, go_sem, x0, x1, hf]
          refine (spell_own (code c) (len c) _ (by omega) hc30).mono ?_
          rintro e w4 ⟨v, rfl, hO4, hb4⟩
          exact ⟨_, rfl, Sl.of_own hO4 (bitI_fit (bitsOf_bits _ _)) (by rw [bitI_length, bitsOf_length]; unfold maxLen; omega), hb4⟩
      case tRest =>
        intro X w3 hBw hX
        have x0 : X 0 = .slice ao (bitR zs k).length cp := hX 0 (by decide)
        have x9 : Sl .u8 w3 (X 15) (bitI (bitsOf (len c) (code c))) := hX 15 (by decide)
        simp only [putAll, List.getD_cons_zero, List.getD_cons_succ, Act.put, List.setIfInBounds_toArray, List.set_cons_zero, List.set_cons_succ, List.drop_succ_cons, List.drop_zero]
        have hO3 := owned_below HO.out hBw
        have HB3 := Lib.hid (HB.out.trans (hBw.mono HB.out.size))
        have hbl2 : (bitI (bitsOf (len c) (code c))).length ≤ 30 := by rw [bitI_length, bitsOf_length]; omega
        obtain ⟨av, cv, hXe, _⟩ := id x9
        rw [x0, hXe]
        rw [hXe] at x9
        clear hX hBw
        go_wp2_with (at_builtin; refine app_ints rfl (.tmp 19) (.tmp 34) 30 rfl W2.heap.size 5 .u8 1 Tryd.underlying30 Tryd.info5' _ (bitR zs k).length (bitR zs k) rfl hO3 _ (bitI (bitsOf (len c) (code c))) rfl x9 (by omega) (by unfold maxLen; omega) HB3.out.size ?_; intro v5 w5 hO5 hc5 hg5)
        go_roundg (zs.length - (k + 1))
        case measure => have := HKG.out; omega
        case rel =>
          refine ⟨k + 1, by omega, by go_num, ?_, HB3.out.trans hc5⟩
          rw [HN.out, List.length_append]
          exact hO5
    · obtain rfl : k = zs.length := by omega
      have HP0 : Hid (bitR zs zs.length = padR zs 0) := by show _ = _; rw [bitR, List.take_length, padR]; simp
      go_wp2_with fail
      go_loopg [5] (miss (bitsT zs).length) (fun g s5 wr => ∃ j : Nat, Hid (j + g = miss (bitsT zs).length) ∧ wr.ownsRow W2.heap.size 5 1 s5 (padR zs j).length ((padR zs j).map (Value.int .u8)) ∧ Below W2.heap.size W2 wr)
      case atStart =>
        have hO0 := HO.out
        rw [HP0.out] at hO0
        exact ⟨0, Nat.zero_add _, by rw [HP0.out]; exact hO0, HB.out⟩
      case round =>
        clear hO hB
        obtain ⟨j, HJ, hO, hB⟩ := hrel
        obtain ⟨ao2, cp2, rfl, _⟩ := owned_shape hO
        have hln := padR_len zs j
        have hm7 := miss_lt (bitsT zs).length
        have hml : (bitsT zs).length ≤ 30 * zs.length := bitsT_length zs hfit
        have hj7 : j ≤ 7 := by have := HJ.out; omega
        obtain ⟨N, hN⟩ : ∃ N, (padR zs j).length = N := ⟨_, rfl⟩
        have HNN := Lib.hid hN
        rw [hN] at hln hO ⊢
        have hN30 : N ≤ 30000007 := by omega
        have HLN := Lib.hid hln
        have HO2 := Lib.hid hO
        have HB2 := Lib.hid hB
        by_cases hjm : j < miss (bitsT zs).length
        · have hd : ((N : Int) % 8 != 0) = true := by rw [bne_iff_ne]; unfold miss at hjm; omega
          clear hml hm7 hjm hln hN hB
          go_wp2_with (at_builtin; refine app_ints rfl (.tmp 40) (.tmp 41) 30 rfl W2.heap.size 5 .u8 1 Tryd.underlying30 Tryd.info5' _ N (padR zs j) rfl (hO.alloc _) _ [1] rfl (Sl.lit [1] rfl rfl rfl (by decide) (by decide)) (by rw [HNN.out]; simp; omega) (by rw [HNN.out]; unfold maxLen; simp; omega) (by have := HB2.out.size; simp; omega) ?_; intro v5 w5 hO5 hc5 hg5)
          go_roundg (miss (bitsT zs).length - (j + 1))
          case measure => have := HJ.out; have := HLN.out; have h3 := hd; rw [bne_iff_ne] at h3; unfold miss at *; omega
          case rel =>
            refine ⟨j + 1, ?_, ?_, (HB2.out.alloc HB2.out.size _).trans hc5⟩
            · show _ = _
              have := HJ.out; have := HLN.out; have h3 := hd; rw [bne_iff_ne] at h3; unfold miss at *; omega
            · rw [padR_step, List.length_append]
              exact hO5
        · have hjm2 : j = miss (bitsT zs).length := by have := HJ.out; omega
          have hd : ((N : Int) % 8 != 0) = false := by rw [bne_eq_false_iff_eq]; unfold miss at hjm2; omega
          have HP : Hid (padR zs j = bitI (pad (bitsT zs))) := by show _ = _; rw [hjm2]; rfl
          obtain ⟨P, hP⟩ : ∃ P, pad (bitsT zs) = P := ⟨_, rfl⟩
          obtain ⟨G, hG⟩ : ∃ G, ((bitsT zs).length + 7) / 8 = G := ⟨_, rfl⟩
          have hPl := pad_length (bitsT zs)
          have hPb := pad_bits (bitsT_bits zs)
          rw [hP] at hPl hPb HP
          rw [hG] at hPl
          have HEN : Hid (enc zs = grp P) := by show _ = _; rw [enc, hP]
          have hNG : N = 8 * G := by rw [← hN, HP.out, bitI_length, hPl]
          have HNG := Lib.hid hNG
          have HPL := Lib.hid hPl
          have HPB := Lib.hid hPb
          have hS : Sl .u8 wr (.slice ao2 N cp2) (bitI P) := by
            have h := HO2.out
            rw [HP.out] at h
            exact Sl.of_own h (bitI_fit hPb) (by rw [bitI_length, hPl]; unfold maxLen; omega)
          have HS := Lib.hid hS
          clear hml hm7 hjm hjm2 hln hN hB hP hG hPl hPb hNG hS hO
          go_wp2_with fail
          obtain ⟨W3, hW3⟩ : ∃ W3, W3 = wr := ⟨_, rfl⟩
          subst hW3
          go_loopg [7, 8] G (fun g s7 s8 wx => ∃ m : Nat, m + g = G ∧ s8 = .int .i64 ((8 * m : Nat) : Int) ∧ wx.ownsRow W3.heap.size 5 1 s7 (grp (P.take (8 * m))).length ((grp (P.take (8 * m))).map (Value.int .u8)) ∧ Below W3.heap.size W3 wx)
          case atStart => exact ⟨0, by omega, rfl, by rw [grp_short (by simp)]; exact World.ownsRow_nil _ _ _ _, Below.refl _ _⟩
          case round =>
            obtain ⟨m, hmg, rfl, hO, hB⟩ := hrel
            have HMG := Lib.hid hmg
            have hm : m ≤ G := by omega
            clear hmg
            obtain ⟨ao3, cp3, rfl, _⟩ := owned_shape hO
            have HO3 := Lib.hid hO
            have HB3 := Lib.hid hB
            have hct : (grp (P.take (8 * m))).length = m := grp_length m _ (by rw [List.length_take, HPL.out]; omega)
            have HCT := Lib.hid hct
            have hG4 : G ≤ 3750001 := by have := HNG.out; omega
            clear hct
            obtain ⟨i, hi⟩ : ∃ i, 8 * m = i := ⟨_, rfl⟩
            have HI := Lib.hid hi
            have hiN : i ≤ N := by have := HNG.out; omega
            rw [hi] at hO ⊢
            clear hi
            by_cases hlt : m < G
            · have hd : i < N := by have := HNG.out; have := HI.out; omega
              obtain ⟨bb, off, rfl, hbs, hcx⟩ : ∃ b off, ao2 = some ⟨b, off, none⟩ ∧ b < W3.heap.size ∧ ∀ j, j < N → W3.cell? ⟨b, off + j, none⟩ = some (.int .u8 (at0 (bitI P) j)) := by
                rcases HS.out.parts with ⟨h0, _⟩ | ⟨_, b, off, c2, he, _, _, h1, h2⟩
                · have := congrArg List.length h0
                  rw [bitI_length, HPL.out] at this
                  simp at this
                  omega
                · simp only [Value.slice.injEq] at he
                  refine ⟨b, off, he.1, h1, fun j hj => h2 j ?_⟩
                  rw [bitI_length, HPL.out, ← HNG.out]; exact hj
              have hcx3 : ∀ j, j < N → wr.cell? ⟨bb, off + j, none⟩ = some (.int .u8 (at0 (bitI P) j)) := fun j hj => (hB.cell (p := ⟨bb, off + j, none⟩) hbs).trans (hcx j hj)
              have HCX := Lib.hid hcx3
              obtain ⟨T, hT⟩ : ∃ T, (P.drop i).take 8 = T := ⟨_, rfl⟩
              have hTl : T.length = 8 := by rw [← hT, List.length_take, List.length_drop, HPL.out]; have := HI.out; omega
              have hTb : Bits T := by rw [← hT]; exact (HPB.out.drop i).take 8
              have HTG : Hid (∀ k, k < 8 → P.getD (i + k) 0 = T.getD k 0) := fun k hk => by rw [← hT]; exact (getD_drop_take P i k 8 hk).symm
              have HGT : Hid (grp (P.take (8 * (m + 1))) = grp (P.take i) ++ [((val T : Nat) : Int)]) := by
                show _ = _
                rw [grp_take HPL.out hlt, HI.out, hT]
              have HTL := Lib.hid hTl
              have HTB := Lib.hid hTb
              clear hcx hcx3 hT hTl hTb hO hB
              go_wp2_with fail
              go_loop [9, 10] (fun s9 s10 => ∃ k : Nat, k ≤ 8 ∧ s10 = .int .i64 k ∧ s9 = .int .u8 ((val (T.take k) : Nat) : Int)) (fun _ s10 => 8 - (intOf s10).toNat)
              case atStart => exact ⟨0, by omega, rfl, rfl⟩
              case round =>
                obtain ⟨k, hk8, rfl, rfl⟩ := hrel
                by_cases hk : k < 8
                · have hv1 := val_lt _ (HTB.out.take k)
                  have hv2 : val (T.take k) ≤ 127 := by
                    have h1 : (T.take k).length ≤ 7 := by rw [List.length_take, HTL.out]; omega
                    have := Nat.pow_le_pow_right (by omega : 2 > 0) h1
                    omega
                  obtain ⟨x, hx⟩ : ∃ x, val (T.take k) = x := ⟨_, rfl⟩
                  have HX := Lib.hid hx
                  rw [hx] at hv2 ⊢
                  have hiN2 : i + k < N := by have := HNG.out; have := HI.out; omega
                  have hcell := HCX.out (i + k) hiN2
                  rw [bitI_at, HTG.out k hk] at hcell
                  have hbit : T.getD k 0 < 2 := HTB.out _ (by
                    have hkl : k < T.length := by rw [HTL.out]; exact hk
                    simp [hkl])
                  have HVS := Lib.hid (val_take_succ (l := T) (k := k) (by rw [HTL.out]; exact hk))
                  obtain ⟨bt, hbt⟩ : ∃ bt, T.getD k 0 = bt := ⟨_, rfl⟩
                  rw [hbt] at hcell hbit HVS
                  have hix := fun (W : World) => sl_index Tryd.slice22 Tryd.size22 bb off N cp2 (i + k) hiN2 .i64 W
                  have hca : (((i + k : Nat) : Int)) = (i : Int) + (k : Int) := by omega
                  rw [hca] at hix
                  clear hx hv1 hbt hca
                  go_wp2_with fail
                  go_round
                  case rel => exact ⟨k + 1, by omega, by go_num, by rw [HVS.out, HX.out]; go_num⟩
                  case measure => simp [intOf]; omega
                · obtain rfl : k = 8 := by omega
                  have hv1 := val_lt _ HTB.out
                  rw [HTL.out] at hv1
                  have hTT : T.take 8 = T := List.take_of_length_le (by rw [HTL.out]; omega)
                  rw [hTT]
                  obtain ⟨x, hx⟩ : ∃ x, val T = x := ⟨_, rfl⟩
                  rw [hx] at hv1 HGT ⊢
                  have hx255 : x ≤ 255 := by omega
                  have hO4 := HO3.out
                  rw [HI.out] at hO4
                  have hl4 : (grp (P.take i)).length ≤ 3750001 := by rw [← HI.out, HCT.out]; omega
                  clear hx hTT hv1
                  go_wp2_with (at_builtin; refine app_ints rfl (.tmp 62) (.tmp 64) 30 rfl W3.heap.size 5 .u8 1 Tryd.underlying30 Tryd.info5' _ (grp (P.take i)).length (grp (P.take i)) rfl (hO4.alloc _) _ [(x : Int)] rfl (Sl.lit' [(x : Int)] rfl rfl rfl (by intro z hz; rw [List.mem_singleton] at hz; subst hz; exact WalkArith.wf_u8 (by omega)) (by simp [maxLen])) (by simp; omega) (by simp [maxLen]; omega) (by have := HB3.out.size; simp; omega) ?_; intro v5 w5 hO5 hc5 hg5)
                  go_roundg (G - (m + 1))
                  case measure => have := HMG.out; omega
                  case rel =>
                    refine ⟨m + 1, by omega, by rw [← HI.out]; go_num, ?_, (HB3.out.alloc HB3.out.size _).trans hc5⟩
                    rw [HGT.out, List.length_append]
                    exact hO5
            · obtain rfl : m = G := by omega
              have hd : ¬ i < N := by have := HNG.out; have := HI.out; omega
              have HE2 : Hid (grp (P.take i) = enc zs) := by
                show _ = _
                rw [HEN.out, ← HI.out, List.take_of_length_le (by rw [HPL.out]; omega)]
              have HFI := Lib.hid (Sl.of_own hO (by rw [HE2.out]; exact enc_fit _) (by rw [← HI.out, HCT.out]; unfold maxLen; omega))
              clear hO hB
              go_wp2_with fail
              go_ret
              have h := HFI.out
              rw [HE2.out] at h
              refine ⟨_, rfl, ?_, HB0.out.trans ((HB2.out.trans (HB3.out.mono HB2.out.size)).mono HB0.out.size)⟩
              rw [HE2.out]
              exact h
end Go.Proofs.YtenapfpkegoonaaDoor

/-
  The document's own answer of layer 4: the text of bytes.
-/
namespace Go.Proofs.YtenapfpkegoonaaDoor
set_option maxRecDepth 20000
open Go.RowKit

theorem spell8 (z : Nat) (w : World) (hz : z < 2147483648) : Calls Tryd.prog 93 #[.int .i64 z, .int .i64 8] w fun e w' => ∃ v, e = .returned v ∧ Sl .u8 w' v (bitI (bitsOf 8 z)) ∧ Below w.heap.size w w' :=
  (spell_own z 8 w (by omega) hz).mono fun _ _ ⟨v, he, hO, hb⟩ => ⟨v, he, Sl.of_own hO (bitI_fit (bitsOf_bits _ _)) (by rw [bitI_length, bitsOf_length]; unfold maxLen; omega), hb⟩
theorem find_step (bl bc cl cc n k b : Nat) (tl tc : TypeId) (w : World) (hl : w.heap[bl]? = some (.cells (intsA lenL) tl (0, 0))) (hc : w.heap[bc]? = some (.cells (intsA codeL) tc (0, 0))) :
    Calls Tryd.prog 94 #[.slice (some ⟨bl, 0, none⟩) 257 cl, .slice (some ⟨bc, 0, none⟩) 257 cc, .int .i64 (2 * (k : Int) + b), .int .i64 ((n : Int) + 1)] w fun e w' => e = .returned (.int .i64 (findC (n + 1) (2 * k + b))) ∧ w = w' := by
  have h := find_any bl bc cl cc (n + 1) (2 * k + b) tl tc w hl hc
  have e1 : ((2 * k + b : Nat) : Int) = 2 * (k : Int) + b := by omega
  have e2 : ((n + 1 : Nat) : Int) = (n : Int) + 1 := by omega
  rw [e1, e2] at h
  exact h
theorem drop_bit {l : List Nat} {i : Nat} (h : i < l.length) : l.drop i = l.getD i 0 :: l.drop (i + 1) := by
  rw [List.drop_eq_getElem_cons h]
  simp [h]
theorem dec_end {most : Int} {out : List Int} {n k : Nat} : dec most [] out n k = if n ≤ 7 ∧ k + 1 = 2 ^ n then (out, 0) else ([], 3) := by rw [dec]
theorem pend_bd {n k : Nat} (h : Pend n k) : n < 30 ∧ k < 1073741824 := by
  have hn := pend_lt h
  exact ⟨hn, Nat.lt_of_lt_of_le h.1 (Nat.pow_le_pow_right (by omega : 2 > 0) (by omega : n ≤ 30))⟩
/-- what a call of Decode leaves -/
def DecOut (w : World) (d : List Int × Int) (e : Ending) (w' : World) : Prop := ∃ v', e = .returned (.tuple #[v', .int .i64 d.2]) ∧ Sl .u8 w' v' d.1 ∧ Below w.heap.size w w'
theorem DecOut.err {w w' : World} {d : List Int × Int} {z : Int} (h : d = ([], z)) (hb : Below w.heap.size w w') : DecOut w d (.returned (.tuple #[.slice none 0 0, .int .i64 z])) w' := by
  subst h
  exact ⟨_, rfl, Sl.nil _ _, hb⟩
/-- how the loop stands -/
def DecSt (most : Int) (zs out : List Int) (i n k : Nat) : Prop := Pend n k ∧ dec most ((bitsB zs).drop i) out n k = decB most zs ∧ out.length ≤ i ∧ Fit .u8 out

set_option maxHeartbeats 1000000 in
set_option maxRecDepth 20000 in
theorem refDec_any (v : Value) (zs : List Int) (most : Int) (w : World) (hv : Sl .u8 w v zs) (hz : zs.length ≤ 1000000) :
    Calls Tryd.prog 74 #[v, .int .i64 most] w (DecOut w (decB most zs)) := by
  have hfit := hv.fit
  obtain ⟨a, cap, rfl, _⟩ := id hv
  have hl0 := heap_alloc_new w (.cells (intsA lenL) 3)
  have hB0 := (Below.refl w.heap.size w).alloc (Nat.le_refl _) (.cells (intsA lenL) 3)
  have hs0 : w.heap.size < (w.alloc (.cells (intsA lenL) 3)).heap.size := by simp
  obtain ⟨W1, hW1⟩ : ∃ W1, w.alloc (.cells (intsA lenL) 3) = W1 := ⟨_, rfl⟩
  have HW1 := Lib.hid hW1
  rw [hW1] at hl0 hB0 hs0
  clear hW1
  go_enter Tryd.func74, Tryd.ntmps74
  go_wp2_with fail
  refine (lengths_any _).mono ?_
  rintro e w' ⟨rfl, rfl⟩
  rw [HW1.out]
  go_wp2_with fail
  refine (refCodes_any _).mono ?_
  rintro e W2 ⟨gc, rfl, hgc, hcd, hb2⟩
  have hl2 := (hb2.block _ hs0).trans hl0
  have hB2 := hB0.trans (hb2.mono hB0.size)
  have hv2 := hv.below hB2
  have hgc2 := (Array.getElem?_eq_some_iff.1 hcd).1
  have hgl2 := (Array.getElem?_eq_some_iff.1 hl2).1
  obtain ⟨gl, hgl⟩ : ∃ gl, w.heap.size = gl := ⟨_, rfl⟩
  rw [hgl] at hl2 hgl2 ⊢
  have HGL := Lib.hid hgl
  have HL2 := Lib.hid hl2
  have HC2 := Lib.hid hcd
  have HV := Lib.hid hv2
  have HB0 := Lib.hid hB2
  clear hb2 hB0 hl0 hs0 hgc hv hgl hl2 hcd hv2 hB2
  go_wp2_with fail
  go_loopg [8, 9, 10, 11, 12] (8 * zs.length) (fun g s8 s9 s10 s11 s12 wr => ∃ (i n k : Nat) (out : List Int), Hid (i + g = 8 * zs.length) ∧ i ≤ 8 * zs.length ∧ s12 = .int .i64 i ∧ s9 = .int .i64 k ∧ s10 = .int .i64 n ∧ s11 = .bool (decide (k + 1 = 2 ^ n)) ∧ Hid (DecSt most zs out i n k) ∧ wr.ownsRow W2.heap.size 5 1 s8 out.length (out.map (Value.int .u8)) ∧ Below W2.heap.size W2 wr)
  case atStart => exact ⟨0, 0, 0, [], Nat.zero_add _, by omega, rfl, rfl, rfl, rfl, ⟨pend0, rfl, by simp, fun x hx => by simp at hx⟩, World.ownsRow_nil _ _ _ _, Below.refl _ _⟩
  case round =>
    obtain ⟨i, n, k, out, HI, hi8, rfl, rfl, rfl, rfl, HS, hO, hB⟩ := hrel
    obtain ⟨ao, cp, rfl, _⟩ := owned_shape hO
    obtain ⟨hn30, hk30⟩ := pend_bd HS.out.1
    have hol := HS.out.2.2.1
    have HO := Lib.hid hO
    have HB := Lib.hid hB
    by_cases hlt : i < 8 * zs.length
    · obtain ⟨b, off, rfl, hbs, hcx⟩ : ∃ b off, a = some ⟨b, off, none⟩ ∧ b < W2.heap.size ∧ W2.cell? ⟨b, off + i / 8, none⟩ = some (.int .u8 (at0 zs (i / 8))) := by
        rcases HV.out.parts with ⟨h0, _⟩ | ⟨_, b, off, c2, he, _, _, h1, h2⟩
        · rw [h0] at hlt; simp at hlt
        · simp only [Value.slice.injEq] at he
          exact ⟨b, off, he.1, h1, h2 (i / 8) (by omega)⟩
      replace hcx := (hB.cell (p := ⟨b, off + i / 8, none⟩) hbs).trans hcx
      have hbz := hfit.byte (i / 8)
      obtain ⟨c, hcc⟩ : ∃ c : Nat, at0 zs (i / 8) = (c : Int) := ⟨(at0 zs (i / 8)).toNat, by omega⟩
      have HBT := Lib.hid (bitsB_at (zs := zs) (q := i / 8) (r := i % 8) (by omega) (by omega))
      rw [hcc, Int.toNat_natCast, show 8 * (i / 8) + i % 8 = i by omega] at HBT
      rw [hcc] at hcx hbz
      have hix := fun (W : World) => sl_index Tryd.slice22 Tryd.size22 b off zs.length cap (i / 8) (by omega) .i64 W
      have e8 : ((i / 8 : Nat) : Int) = (i : Int) / 8 := by omega
      rw [e8] at hix
      clear hcc e8 hO hB
      go_wp2_with fail
      refine (spell8 c _ (by omega)).mono ?_
      rintro e w4 ⟨v4, rfl, hS4, hb4⟩
      clear hcx hix
      rcases hS4.parts with ⟨h0, _⟩ | ⟨_, b4, off4, c4, rfl, _, _, _, h2⟩
      · exact absurd (congrArg List.length h0) (by rw [bitI_length, bitsOf_length]; simp)
      have hl8 : (bitI (bitsOf 8 c)).length = 8 := by rw [bitI_length, bitsOf_length]
      rw [hl8] at h2 ⊢
      have hcell := h2 (i % 8) (by omega)
      rw [bitI_at, ← HBT.out] at hcell
      have hix := fun (W : World) => sl_index Tryd.slice22 Tryd.size22 b4 off4 8 c4 (i % 8) (by omega) .i64 W
      have e8 : ((i % 8 : Nat) : Int) = (i : Int) % 8 := by omega
      rw [e8] at hix
      have hbl : i < (bitsB zs).length := by rw [bitsB_length]; exact hlt
      have hbit : (bitsB zs).getD i 0 < 2 := bitsB_bits zs _ (by simp [hbl])
      have HDB := Lib.hid (drop_bit hbl)
      obtain ⟨bt, hbt⟩ : ∃ bt, (bitsB zs).getD i 0 = bt := ⟨_, rfl⟩
      rw [hbt] at hcell hbit HDB
      have hO4 := owned_below HO.out hb4
      have hB4 := HB.out.trans (hb4.mono HB.out.size)
      have hl4 := (hB4.block _ hgl2).trans HL2.out
      have hc4 := (hB4.block _ hgc2).trans HC2.out
      have HO4 := Lib.hid hO4
      have HB4 := Lib.hid hB4
      have HFS := Lib.hid (find_step gl gc 257 257 n k bt _ _ w4 hl4 hc4)
      clear h2 hl8 e8 hbt hO4 hB4 hl4 hc4 hS4 hb4
      cases e : look (n + 1) (2 * k + bt) with
      | none =>
        have HFC : Hid (findC (n + 1) (2 * k + bt) = -1) := by show _ = _; rw [findC, e]
        have HST : Hid (DecSt most zs out (i + 1) (n + 1) (2 * k + bt)) := by
          obtain ⟨h1, h2, h3, h4⟩ := HS.out
          rw [HDB.out, dec_none e] at h2
          exact ⟨pend_step h1 hbit e, h2, by omega, h4⟩
        clear e
        by_cases hk1 : k + 1 = 2 ^ n
        · have d1 := decide_eq_true hk1
          have HD : Hid (decide (2 * k + bt + 1 = 2 ^ (n + 1)) = ((bt : Int) == 1)) := by
            show _ = _
            rw [Nat.pow_succ, ← hk1, Bool.eq_iff_iff]
            simp
            omega
          rw [d1]
          clear hk1 d1
          go_wp2_with fail
          refine HFS.out.mono ?_
          rintro e w' ⟨rfl, rfl⟩
          rw [HFC.out]
          go_wp2_with fail
          go_roundg (8 * zs.length - (i + 1))
          case measure => have := HI.out; omega
          case rel => exact ⟨i + 1, n + 1, 2 * k + bt, out, by show _ = _; omega, by omega, by go_num, by go_num, by go_num, by rw [HD.out], HST.out, HO4.out, HB4.out⟩
        · have d1 := decide_eq_false hk1
          have HD : Hid (decide (2 * k + bt + 1 = 2 ^ (n + 1)) = false) := by
            show _ = _
            rw [decide_eq_false_iff_not, Nat.pow_succ]
            have := HS.out.1.1
            omega
          rw [d1]
          clear hk1 d1
          go_wp2_with fail
          refine HFS.out.mono ?_
          rintro e w' ⟨rfl, rfl⟩
          rw [HFC.out]
          go_wp2_with fail
          go_roundg (8 * zs.length - (i + 1))
          case measure => have := HI.out; omega
          case rel => exact ⟨i + 1, n + 1, 2 * k + bt, out, by show _ = _; omega, by omega, by go_num, by go_num, by go_num, by rw [HD.out], HST.out, HO4.out, HB4.out⟩
      | some c2 =>
        obtain ⟨hc257, _, _⟩ := look_of e
        have HDS : Hid (decB most zs = if c2 = 256 then ([], 3) else if most ≤ out.length then ([], 4) else dec most ((bitsB zs).drop (i + 1)) (out ++ [(c2 : Int)]) 0 0) := by
          show _ = _
          rw [← HS.out.2.1, HDB.out, dec_some e]
        by_cases h256 : c2 = 256
        · have HFC : Hid (findC (n + 1) (2 * k + bt) = 256) := by show _ = _; rw [findC, e, h256]; rfl
          have HDE : Hid (decB most zs = ([], 3)) := by show _ = _; rw [HDS.out, if_pos h256]
          clear e h256
          go_wp2_with (go_at_call 94; refine HFS.out.mono ?_; rintro e w' ⟨rfl, rfl⟩; rw [HFC.out])
          all_goals
            go_ret2
            exact DecOut.err HDE.out (HB0.out.trans (HB4.out.mono HB0.out.size))
        · have HFC : Hid (findC (n + 1) (2 * k + bt) = (c2 : Int)) := by show _ = _; rw [findC, e]
          have d256 : ((c2 : Int) == 256) = false := by rw [beq_eq_false_iff_ne]; omega
          have hc256 : c2 < 256 := by omega
          by_cases hmo : most ≤ out.length
          · have HDE : Hid (decB most zs = ([], 4)) := by show _ = _; rw [HDS.out, if_neg h256, if_pos hmo]
            clear e h256
            go_wp2_with (go_at_call 94; refine HFS.out.mono ?_; rintro e w' ⟨rfl, rfl⟩; rw [HFC.out])
            all_goals
              go_ret2
              exact DecOut.err HDE.out (HB0.out.trans (HB4.out.mono HB0.out.size))
          · have hmo2 : ¬ most ≤ (out.length : Int) := hmo
            have HST : Hid (DecSt most zs (out ++ [(c2 : Int)]) (i + 1) 0 0) := by
              obtain ⟨h1, h2, h3, h4⟩ := HS.out
              refine ⟨pend0, by rw [HDS.out, if_neg h256, if_neg hmo], by simp; omega, ?_⟩
              exact h4.append (by intro z hz; rw [List.mem_singleton] at hz; subst hz; exact WalkArith.wf_u8 (by omega))
            have hO4 := HO4.out
            clear e h256 hmo2
            go_wp2_with (first
              | (go_at_call 94; refine HFS.out.mono ?_; rintro e w' ⟨rfl, rfl⟩; rw [HFC.out])
              | (at_builtin; refine app_ints rfl (.tmp 60) (.tmp 63) 30 rfl W2.heap.size 5 .u8 1 Tryd.underlying30 Tryd.info5' _ out.length out rfl (hO4.alloc _) _ [(c2 : Int)] rfl (Sl.lit' [(c2 : Int)] rfl rfl rfl (by intro z hz; rw [List.mem_singleton] at hz; subst hz; exact WalkArith.wf_u8 (by omega)) (by simp [maxLen])) (by simp; omega) (by simp [maxLen]; omega) (by have := HB4.out.size; simp; omega) ?_; intro v5 w5 hO5 hc5 hg5))
            all_goals
              go_roundg (8 * zs.length - (i + 1))
              case measure => have := HI.out; omega
              case rel =>
                refine ⟨i + 1, 0, 0, out ++ [(c2 : Int)], by show _ = _; have := HI.out; omega, by omega, by go_num, rfl, rfl, rfl, HST.out, ?_, (HB4.out.alloc HB4.out.size _).trans hc5⟩
                rw [List.length_append]
                exact hO5
    · obtain rfl : i = 8 * zs.length := by omega
      have HDD : Hid (decB most zs = if n ≤ 7 ∧ k + 1 = 2 ^ n then (out, 0) else ([], 3)) := by
        show _ = _
        rw [← HS.out.2.1, List.drop_of_length_le (by rw [bitsB_length]; omega), dec_end]
      by_cases h7 : n ≤ 7
      · have dn : decide (7 < (n : Int)) = false := decide_eq_false (by omega)
        by_cases hk1 : k + 1 = 2 ^ n
        · have d1 := decide_eq_true hk1
          have HDE : Hid (decB most zs = (out, 0)) := by show _ = _; rw [HDD.out, if_pos ⟨h7, hk1⟩]
          have HSO := Lib.hid (Sl.of_own hO HS.out.2.2.2 (by unfold maxLen; omega))
          rw [d1]
          clear hk1 d1 hO hB
          go_wp2_with fail
          go_ret2
          rw [HDE.out]
          exact ⟨_, rfl, HSO.out, HB0.out.trans (HB.out.mono HB0.out.size)⟩
        · have d1 := decide_eq_false hk1
          have HDE : Hid (decB most zs = ([], 3)) := by show _ = _; rw [HDD.out, if_neg (fun h => hk1 h.2)]
          rw [d1]
          clear hk1 d1 hO hB
          go_wp2_with fail
          go_ret2
          exact DecOut.err HDE.out (HB0.out.trans (HB.out.mono HB0.out.size))
      · have dn : decide (7 < (n : Int)) = true := decide_eq_true (by omega)
        have HDE : Hid (decB most zs = ([], 3)) := by show _ = _; rw [HDD.out, if_neg (fun h => h7 h.1)]
        clear hO hB
        go_wp2_with fail
        all_goals
          go_ret2
          exact DecOut.err HDE.out (HB0.out.trans (HB.out.mono HB0.out.size))
end Go.Proofs.YtenapfpkegoonaaDoor

/-
  huff.Decode.
-/
namespace Go.Proofs.YtenapfpkegoonaaDoor
set_option maxRecDepth 20000
open Go.RowKit Go.Shelf
attribute [local go_sem] Oper.semAt_some

theorem cells_ne {A : World} {g l : Nat} {cs : Array Value} {t : TypeId} {fr : Nat × Nat} {o : Obj} (h : A.heap[g]? = some (.cells cs t fr)) (hl : A.heap[l]? = some o) (ho : o.isCells = false) : g ≠ l := by
  rintro rfl
  rw [h] at hl
  cases hl
  cases ho
theorem owned_cells {w : World} {base n size : Nat} {e : TypeId} {v : Value} {xs : List Value} (h : w.ownsRow base e size v n xs) : ∀ g, v.ownBlock = some g → ∃ cs fr, w.heap[g]? = some (.cells cs e fr) := fun g hg => by
  obtain ⟨_, ⟨rfl, _⟩ | ⟨g', cap, cur, rfl, _, hh, _⟩⟩ := h
  · cases hg
  · cases hg; exact ⟨_, _, hh⟩

/-- two results, each in a block of its own -/
theorem results_cells2 {P : Program} {fn : Func} {p q : Tmp} {tp tq : TypeId} (h : fn.results = #[.cell p tp, .cell q tq]) (tmps : Array Value) (w : World) (gp gq : Nat) (u v : Value) (eu ev : TypeId)
    (hp : tmps.getD p undef = .pointer (some ⟨gp, 0, none⟩)) (hq : tmps.getD q undef = .pointer (some ⟨gq, 0, none⟩)) (h1 : w.heap[gp]? = some (.cells #[u] eu (0, 0))) (h2 : w.heap[gq]? = some (.cells #[v] ev (0, 0)))
    (ap : ∀ w, (isAgg tp).run P w = .ok false w) (aq : ∀ w, (isAgg tq).run P w = .ok false w) : (results fn tmps).run P w = .ok (.tuple #[u, v]) w := by
  have hp' : tmps[p]?.getD undef = .pointer (some ⟨gp, 0, none⟩) := by simpa using hp
  have hq' : tmps[q]?.getD undef = .pointer (some ⟨gq, 0, none⟩) := by simpa using hq
  have c1 := blk_cell (j := 0) h1 rfl
  have c2 := blk_cell (j := 0) h2 rfl
  simp [results, h, hp', hq', asAddr, loadVar, ap, aq, c1, c2, Result.andThen]

/-- how the bits that have come stand: what has come out, what waits -/
def RunSt (most : Int) (xs : List Nat) (out : List Int) (n k : Nat) : Prop := Pend n k ∧ (∀ bs, dec most (xs ++ bs) [] 0 0 = dec most bs out n k) ∧ out.length ≤ xs.length ∧ Fit .u8 out
theorem RunSt.start (most : Int) : RunSt most [] [] 0 0 := ⟨pend0, fun _ => rfl, Nat.le_refl _, fun x hx => by simp at hx⟩
theorem RunSt.wait {most : Int} {xs : List Nat} {out : List Int} {n k x : Nat} (h : RunSt most xs out n k) (hx : x < 2) (e : look (n + 1) (2 * k + x) = none) : RunSt most (xs ++ [x]) out (n + 1) (2 * k + x) := by
  obtain ⟨h1, h2, h3, h4⟩ := h
  refine ⟨pend_step h1 hx e, fun bs => ?_, by simp; omega, h4⟩
  rw [List.append_assoc, h2, List.singleton_append, dec_none e]
theorem RunSt.some {most : Int} {xs : List Nat} {out : List Int} {n k x c : Nat} (h : RunSt most xs out n k) (e : look (n + 1) (2 * k + x) = Option.some c) (bs : List Nat) :
    dec most (xs ++ [x] ++ bs) [] 0 0 = if c = 256 then ([], 3) else if most ≤ out.length then ([], 4) else dec most bs (out ++ [(c : Int)]) 0 0 := by
  rw [List.append_assoc, h.2.1, List.singleton_append, dec_some e]
theorem RunSt.more {most : Int} {xs : List Nat} {out : List Int} {n k x c : Nat} (h : RunSt most xs out n k) (e : look (n + 1) (2 * k + x) = Option.some c) (h256 : c < 256) (hm : ¬ most ≤ out.length) : RunSt most (xs ++ [x]) (out ++ [(c : Int)]) 0 0 := by
  refine ⟨pend0, fun bs => by rw [h.some e, if_neg (by omega), if_neg hm], by have := h.2.2.1; simp; omega, ?_⟩
  exact h.2.2.2.append (by intro z hz; rw [List.mem_singleton] at hz; subst hz; exact WalkArith.wf_u8 (by omega))

/-- the blocks of the call's own, when these have come -/
def DAt (w : World) (C bm base : Nat) (most : Int) (xs : List Nat) (W : World) : Prop :=
  ∃ (n k : Nat) (out : List Int) (tv : Value), Hid (RunSt most xs out n k) ∧
    W.heap[w.heap.size]? = some (.cells #[.int .i64 most] 3 (0, 0)) ∧ W.heap[w.heap.size + 1]? = some (.cells #[.slice none 0 0] 30 (0, 0)) ∧ W.heap[w.heap.size + 1 + 1]? = some (.cells #[.int .i64 0] 25 (0, 0)) ∧
    W.heap[C]? = some (.cells #[.map (some bm)] 144 (0, 0)) ∧ W.heap[C + 1]? = some (.cells #[tv] 30 (0, 0)) ∧ W.heap[C + 1 + 1]? = some (.cells #[.int .i64 ((2 ^ n + k : Nat) : Int)] 3 (0, 0)) ∧
    Paths W bm ∧ W.ownsRow base 5 1 tv out.length (out.map (Value.int .u8)) ∧ Below w.heap.size w W ∧ base ≤ W.heap.size
/-- a way out -/
def DOut (w : World) (most : Int) (xs : List Nat) (W : World) : Prop :=
  ∃ z : Int, (∀ bs, dec most (xs ++ bs) [] 0 0 = ([], z)) ∧ W.heap[w.heap.size + 1]? = some (.cells #[.slice none 0 0] 30 (0, 0)) ∧ W.heap[w.heap.size + 1 + 1]? = some (.cells #[.int .i64 z] 25 (0, 0)) ∧ Below w.heap.size w W

theorem DAt.grows (w : World) (C bm base : Nat) (most : Int) : Grows (DAt w C bm base most) := by
  rintro s A W ⟨n, k, out, tv, hr, h1, h2, h3, h4, h5, h6, hp, ho, hb, hsz⟩ hg
  have at_ : ∀ {k : Nat} {o : Obj}, A.heap[k]? = some o → W.heap[k]? = some o := fun h => (hg.block _ (Array.getElem?_eq_some_iff.1 h).1).trans h
  exact ⟨n, k, out, tv, hr, at_ h1, at_ h2, at_ h3, at_ h4, at_ h5, at_ h6, owns_below hp hg, owned_below ho hg, hb.trans (hg.mono hb.size), Nat.le_trans hsz hg.size⟩
theorem DAt.turns (w : World) (C bm base : Nat) (most : Int) (hw : w.heap.size + 3 ≤ C) (hbm : bm < C) (hC : C + 4 ≤ base) : Turns base (DAt w C bm base most) := by
  rintro s A l o o' ⟨n, k, out, tv, hr, h1, h2, h3, h4, h5, h6, hp, ho, hb, hsz⟩ hl hlo hoc
  have at_ : ∀ {k : Nat}, k < base → (A.putObj l o').heap[k]? = A.heap[k]? := fun h => World.putObj_heap_other (by omega)
  refine ⟨n, k, out, tv, hr, (at_ (by omega)).trans h1, (at_ (by omega)).trans h2, (at_ (by omega)).trans h3, (at_ (by omega)).trans h4, (at_ (by omega)).trans h5, (at_ (by omega)).trans h6, hp.of_heap (at_ (by omega)), ?_, hb.trans (below_put A o o' (by omega) hlo), by rw [World.putObj_size]; exact hsz⟩
  exact owned_kept ho (grownBy_putObj' A l o') (fun g hg e => by
    obtain ⟨cs, fr, h⟩ := owned_cells ho g hg
    exact cells_ne h hlo hoc (Option.some.inj e).symm)
theorem DOut.grows (w : World) (most : Int) : Grows (DOut w most) := by
  rintro s A W ⟨z, hd, h1, h2, hb⟩ hg
  exact ⟨z, hd, (hg.block _ (Array.getElem?_eq_some_iff.1 h1).1).trans h1, (hg.block _ (Array.getElem?_eq_some_iff.1 h2).1).trans h2, hb.trans (hg.mono hb.size)⟩
theorem DOut.turns (w : World) (most : Int) (base : Nat) (hw : w.heap.size + 3 ≤ base) : Turns base (DOut w most) := by
  rintro s A l o o' ⟨z, hd, h1, h2, hb⟩ hl hlo hoc
  exact ⟨z, hd, (World.putObj_heap_other (by omega)).trans h1, (World.putObj_heap_other (by omega)).trans h2, hb.trans (below_put A o o' (by omega) hlo)⟩
theorem keeps_refl (b : Nat) (W : World) : KeepsFrom b W W := ⟨Nat.le_refl _, fun _ _ _ h _ => h⟩

/-- what the blocks hold, whatever the bits -/
def Blk (w : World) (C bm base : Nat) (most : Int) (tv : Value) (p : Nat) (out : List Int) (W : World) : Prop :=
    W.heap[w.heap.size]? = some (.cells #[.int .i64 most] 3 (0, 0)) ∧ W.heap[w.heap.size + 1]? = some (.cells #[.slice none 0 0] 30 (0, 0)) ∧ W.heap[w.heap.size + 1 + 1]? = some (.cells #[.int .i64 0] 25 (0, 0)) ∧
    W.heap[C]? = some (.cells #[.map (some bm)] 144 (0, 0)) ∧ W.heap[C + 1]? = some (.cells #[tv] 30 (0, 0)) ∧ W.heap[C + 1 + 1]? = some (.cells #[.int .i64 (p : Int)] 3 (0, 0)) ∧
    Paths W bm ∧ W.ownsRow base 5 1 tv out.length (out.map (Value.int .u8)) ∧ Below w.heap.size w W ∧ base ≤ W.heap.size
theorem DAt.of {w : World} {C bm base n k : Nat} {most : Int} {xs : List Nat} {out : List Int} {tv : Value} {W : World} (hr : RunSt most xs out n k) (h : Blk w C bm base most tv (2 ^ n + k) out W) : DAt w C bm base most xs W := ⟨n, k, out, tv, hr, h⟩
/-- where the path is written -/
theorem Blk.step {w : World} {C bm base p : Nat} {most : Int} {tv : Value} {out : List Int} {W : World} (h : Blk w C bm base most tv p out W) (hw : w.heap.size + 3 ≤ C) (hbm : bm < C) (hC : C + 4 ≤ base) (q : Nat) :
    Blk w C bm base most tv q out (W.setCell ⟨C + 1 + 1, 0, none⟩ (.int .i64 (q : Int))) := by
  obtain ⟨h1, h2, h3, h4, h5, h6, hp, ho, hb, hsz⟩ := h
  have ot : ∀ {j : Nat}, j ≠ C + 1 + 1 → (W.setCell ⟨C + 1 + 1, 0, none⟩ (.int .i64 (q : Int))).heap[j]? = W.heap[j]? := fun hj => Below.heap_setCell _ _ _ _ hj
  exact ⟨(ot (by omega)).trans h1, (ot (by omega)).trans h2, (ot (by omega)).trans h3, (ot (by omega)).trans h4, (ot (by omega)).trans h5, heap_setCell_same W (C + 1 + 1) 0 _ _ _ h6, hp.of_heap (ot (by omega)),
    ownsRow_setCell_below ho (by show C + 1 + 1 < base; omega) _, hb.setCell (p := ⟨C + 1 + 1, 0, none⟩) (by show w.heap.size ≤ C + 1 + 1; omega) _, by simpa using hsz⟩
theorem set_keeps (b : Nat) (W : World) (a : Addr) (v : Value) : KeepsFrom b W (W.setCell a v) := (KeepsOthers.setCell _ _ _).from _
/-- the results are written -/
theorem Blk.out {w : World} {C bm base p : Nat} {most : Int} {tv : Value} {out : List Int} {W : World} (h : Blk w C bm base most tv p out W) {xs : List Nat} (z : Int) (hd : ∀ bs, dec most (xs ++ bs) [] 0 0 = ([], z)) :
    DOut w most xs ((W.setCell ⟨w.heap.size + 1, 0, none⟩ (.slice none 0 0)).setCell ⟨w.heap.size + 1 + 1, 0, none⟩ (.int .i64 z)) := by
  obtain ⟨_, h2, h3, _, _, _, _, _, hb, _⟩ := h
  have e1 := heap_setCell_same W (w.heap.size + 1) 0 _ _ (.slice none 0 0) h2
  have e2 : (W.setCell ⟨w.heap.size + 1, 0, none⟩ (.slice none 0 0)).heap[w.heap.size + 1 + 1]? = _ := (Below.heap_setCell W ⟨w.heap.size + 1, 0, none⟩ (.slice none 0 0) (w.heap.size + 1 + 1) (by simp)).trans h3
  refine ⟨z, hd, (Below.heap_setCell _ _ _ _ (by simp)).trans e1, heap_setCell_same _ (w.heap.size + 1 + 1) 0 _ _ (.int .i64 z) e2, (hb.setCell (p := ⟨w.heap.size + 1, 0, none⟩) (by show w.heap.size ≤ w.heap.size + 1; omega) _).setCell (p := ⟨w.heap.size + 1 + 1, 0, none⟩) (by show w.heap.size ≤ w.heap.size + 1 + 1; omega) _⟩
theorem keeps_grown {A W : World} {row : Option Nat} (b : Nat) (hg : A.grownBy W row) (hrow : ∀ g, row = some g → ∃ cs t fr, A.heap[g]? = some (.cells cs t fr)) : KeepsFrom b A W :=
  ⟨hg.size, fun k o _ hk ho => (hg.block k (Array.getElem?_eq_some_iff.1 hk).1 (fun e => by
    obtain ⟨cs, t, fr, h⟩ := hrow k e.symm
    exact cells_ne h hk ho rfl)).trans hk⟩
/-- one byte more: the row has grown, its box and the path's have been written -/
theorem Blk.more {w : World} {C bm base p : Nat} {most : Int} {tv v1 : Value} {out : List Int} {W w1 : World} {c : Int} {o : Obj} (h : Blk w C bm base most tv p out W) (hw : w.heap.size + 3 ≤ C) (hbm : bm < C) (hC : C + 4 ≤ base)
    (hg1 : (W.alloc o).grownBy w1 tv.ownBlock) (hown1 : w1.ownsRow base 5 1 v1 (out.length + 1) (out.map (Value.int .u8) ++ [.int .u8 c])) :
    Blk w C bm base most v1 1 (out ++ [c]) ((w1.setCell ⟨C + 1, 0, none⟩ v1).setCell ⟨C + 1 + 1, 0, none⟩ (.int .i64 1)) ∧
    KeepsFrom base W ((w1.setCell ⟨C + 1, 0, none⟩ v1).setCell ⟨C + 1 + 1, 0, none⟩ (.int .i64 1)) ∧
    Below w.heap.size W ((w1.setCell ⟨C + 1, 0, none⟩ v1).setCell ⟨C + 1 + 1, 0, none⟩ (.int .i64 1)) ∧
    (∀ j, j < base → j ≠ C + 1 → j ≠ C + 1 + 1 → ((w1.setCell ⟨C + 1, 0, none⟩ v1).setCell ⟨C + 1 + 1, 0, none⟩ (.int .i64 1)).heap[j]? = W.heap[j]?) := by
  obtain ⟨h1, h2, h3, h4, h5, h6, hp, ho, hb, hsz⟩ := h
  have hrow : ∀ g, tv.ownBlock = some g → base ≤ g := fun g hg => (ho.lt g hg).1
  have low : ∀ k, k < base → w1.heap[k]? = W.heap[k]? := fun k hk =>
    (hg1.block k (by simp; omega) (fun e => by have := hrow k e.symm; omega)).trans (Below.heap_alloc _ _ _ (by omega))
  have e5 := (low (C + 1) (by omega)).trans h5
  have e6 := (low (C + 1 + 1) (by omega)).trans h6
  have s5 := heap_setCell_same w1 (C + 1) 0 #[tv] _ v1 e5
  have e6' : (w1.setCell ⟨C + 1, 0, none⟩ v1).heap[C + 1 + 1]? = _ := (Below.heap_setCell w1 ⟨C + 1, 0, none⟩ v1 (C + 1 + 1) (by simp)).trans e6
  have s6 := heap_setCell_same (w1.setCell ⟨C + 1, 0, none⟩ v1) (C + 1 + 1) 0 _ _ (.int .i64 1) e6'
  have hbel : Below w.heap.size W ((w1.setCell ⟨C + 1, 0, none⟩ v1).setCell ⟨C + 1 + 1, 0, none⟩ (.int .i64 1)) :=
    ((((Below.refl w.heap.size W).alloc hb.size o).grown hg1 (by simp; omega) (fun k hk => by have := hrow k hk; omega)).setCell (p := ⟨C + 1, 0, none⟩) (by show w.heap.size ≤ C + 1; omega) _).setCell (p := ⟨C + 1 + 1, 0, none⟩) (by show w.heap.size ≤ C + 1 + 1; omega) _
  have ot : ∀ j, j < base → j ≠ C + 1 → j ≠ C + 1 + 1 → ((w1.setCell ⟨C + 1, 0, none⟩ v1).setCell ⟨C + 1 + 1, 0, none⟩ (.int .i64 1)).heap[j]? = W.heap[j]? := fun j hj n1 n2 => by
    rw [Below.heap_setCell _ _ _ _ n2, Below.heap_setCell _ _ _ _ n1, low j hj]
  refine ⟨⟨(ot _ (by omega) (by omega) (by omega)).trans h1, (ot _ (by omega) (by omega) (by omega)).trans h2, (ot _ (by omega) (by omega) (by omega)).trans h3, (ot _ (by omega) (by omega) (by omega)).trans h4, (Below.heap_setCell _ _ _ _ (by show C + 1 ≠ C + 1 + 1; omega)).trans s5, s6, hp.of_heap (ot _ (by omega) (by omega) (by omega)), ?_, hb.trans hbel, by have := hbel.size; omega⟩, ?_, hbel, ot⟩
  · rw [List.length_append, List.map_append]
    exact ownsRow_setCell_below (ownsRow_setCell_below hown1 (by show C + 1 < base; omega) _) (by show C + 1 + 1 < base; omega) _
  · refine ((KeepsOthers.alloc _ _).from _).trans ((keeps_grown _ hg1 ?_).trans ((set_keeps _ _ _ _).trans (set_keeps _ _ _ _)))
    intro g hg
    obtain ⟨cs, fr, h⟩ := owned_cells (ho.alloc o) g hg
    exact ⟨cs, _, fr, h⟩

set_option maxHeartbeats 1000000 in
theorem dec_any (v : Value) (zs : List Int) (most : Int) (w : World) (hv : Sl .u8 w v zs) (hz : zs.length ≤ 1000000) :
    Calls Tryd.prog 105 #[v, .int .i64 most] w (DecOut w (decB most zs)) := by
  obtain ⟨a, cap, rfl, _⟩ := id hv
  obtain ⟨i0, hi, hz0, hz1, hz2⟩ := info_parts Tryd.info5'
  refine (callsIn_wide (n := 4)).1 ?_
  refine callsIn_of_wp_marks Tryd.func105 rfl trivial ?_ rfl
  simp only [Tryd.ntmps105, List.size_toArray, List.length_cons, List.length_nil, Nat.reduceAdd, Nat.reduceSub, Array.replicate_succ, Array.replicate_zero, List.push_toArray, List.append_toArray, List.nil_append, List.cons_append]
  refine wpIn_wide.2 ?_
  go_wp2_with fail
  refine (paths_any _).mono ?_
  rintro e w1 ⟨bm, rfl, hbm, hP, hb⟩
  have k0 : (((w.alloc (.cells #[.int .i64 most] 3)).alloc (.cells #[.slice none 0 0] 30)).alloc (.cells #[.int .i64 0] 25)).heap[w.heap.size]? = some (.cells #[.int .i64 most] 3 (0, 0)) :=
    (Below.heap_alloc _ _ _ (by simp <;> omega)).trans ((Below.heap_alloc _ _ _ (by simp)).trans (heap_alloc_new _ _))
  have k1 : (((w.alloc (.cells #[.int .i64 most] 3)).alloc (.cells #[.slice none 0 0] 30)).alloc (.cells #[.int .i64 0] 25)).heap[w.heap.size + 1]? = some (.cells #[.slice none 0 0] 30 (0, 0)) :=
    (Below.heap_alloc _ _ _ (by simp)).trans (heap_alloc2_new _ _ _)
  have k2 : (((w.alloc (.cells #[.int .i64 most] 3)).alloc (.cells #[.slice none 0 0] 30)).alloc (.cells #[.int .i64 0] 25)).heap[w.heap.size + 1 + 1]? = some (.cells #[.int .i64 0] 25 (0, 0)) := by
    have := heap_alloc_new ((w.alloc (.cells #[.int .i64 most] 3)).alloc (.cells #[.slice none 0 0] 30)) (.cells #[.int .i64 0] 25)
    simpa using this
  have hs3 : (((w.alloc (.cells #[.int .i64 most] 3)).alloc (.cells #[.slice none 0 0] 30)).alloc (.cells #[.int .i64 0] 25)).heap.size = w.heap.size + 3 := by simp
  have hB3 : Below w.heap.size w (((w.alloc (.cells #[.int .i64 most] 3)).alloc (.cells #[.slice none 0 0] 30)).alloc (.cells #[.int .i64 0] 25)) := (((Below.refl _ w).alloc (Nat.le_refl _) _).alloc (by simp) _).alloc (by simp <;> omega) _
  rw [hs3] at hbm
  have l0 := (hb.block _ (by simp <;> omega)).trans k0
  have l1 := (hb.block _ (by simp <;> omega)).trans k1
  have l2 := (hb.block _ (by simp <;> omega)).trans k2
  have hB1 := hB3.trans (hb.mono hB3.size)
  have hsz1 : w.heap.size + 3 ≤ w1.heap.size := by have := hb.size; rw [hs3] at this; exact this
  clear k0 k1 k2 hs3 hB3 hb
  have hbm1 := hP.lt
  obtain ⟨C, hC⟩ : ∃ C, w1.heap.size = C := ⟨_, rfl⟩
  have HC := Lib.hid hC
  rw [hC] at hsz1 hbm1
  clear hC
  go_wp2_with fail
  rw [HC.out]
  refine (eachBit_any _ _ a zs.length cap rfl).mono ?_
  rintro e w' ⟨rfl, rfl⟩
  go_wp2_with fail
  refine (wpIn_wide (n := 4)).1 ?_
  gi_wp2
  rw [HC.out]
  have n0 : ((((w1.alloc (.cells #[.map (some bm)] 144)).alloc (.cells #[.slice none 0 0] 30)).alloc (.cells #[.int .i64 1] 3)).alloc (.cells #[.slice a zs.length cap] 30)).heap[C]? = some (.cells #[.map (some bm)] 144 (0, 0)) := by
    rw [← HC.out]
    exact (Below.heap_alloc _ _ _ (by simp <;> omega)).trans ((Below.heap_alloc _ _ _ (by simp <;> omega)).trans ((Below.heap_alloc _ _ _ (by simp)).trans (heap_alloc_new _ _)))
  have n1 : ((((w1.alloc (.cells #[.map (some bm)] 144)).alloc (.cells #[.slice none 0 0] 30)).alloc (.cells #[.int .i64 1] 3)).alloc (.cells #[.slice a zs.length cap] 30)).heap[C + 1]? = some (.cells #[.slice none 0 0] 30 (0, 0)) := by
    rw [← HC.out]
    exact (Below.heap_alloc _ _ _ (by simp <;> omega)).trans ((Below.heap_alloc _ _ _ (by simp)).trans (heap_alloc2_new _ _ _))
  have n2 : ((((w1.alloc (.cells #[.map (some bm)] 144)).alloc (.cells #[.slice none 0 0] 30)).alloc (.cells #[.int .i64 1] 3)).alloc (.cells #[.slice a zs.length cap] 30)).heap[C + 1 + 1]? = some (.cells #[.int .i64 1] 3 (0, 0)) := by
    rw [← HC.out]
    exact (Below.heap_alloc _ _ _ (by simp)).trans (by have := heap_alloc_new ((w1.alloc (.cells #[.map (some bm)] 144)).alloc (.cells #[.slice none 0 0] 30)) (.cells #[.int .i64 1] 3); simpa using this)
  have n3 : ((((w1.alloc (.cells #[.map (some bm)] 144)).alloc (.cells #[.slice none 0 0] 30)).alloc (.cells #[.int .i64 1] 3)).alloc (.cells #[.slice a zs.length cap] 30)).heap[C + 1 + 1 + 1]? = some (.cells #[.slice a zs.length cap] 30 (0, 0)) := by
    rw [← HC.out]
    have := heap_alloc_new (((w1.alloc (.cells #[.map (some bm)] 144)).alloc (.cells #[.slice none 0 0] 30)).alloc (.cells #[.int .i64 1] 3)) (.cells #[.slice a zs.length cap] 30)
    simpa using this
  have hG : Below w1.heap.size w1 ((((w1.alloc (.cells #[.map (some bm)] 144)).alloc (.cells #[.slice none 0 0] 30)).alloc (.cells #[.int .i64 1] 3)).alloc (.cells #[.slice a zs.length cap] 30)) := ((((Below.refl _ w1).alloc (Nat.le_refl _) _).alloc (by simp) _).alloc (by simp <;> omega) _).alloc (by simp <;> omega) _
  have hs4 : ((((w1.alloc (.cells #[.map (some bm)] 144)).alloc (.cells #[.slice none 0 0] 30)).alloc (.cells #[.int .i64 1] 3)).alloc (.cells #[.slice a zs.length cap] 30)).heap.size = w1.heap.size + 4 := by simp
  rw [HC.out] at hs4
  have hB5 := hB1.trans (hG.mono hB1.size)
  have hP5 := owns_below hP hG
  have b0 := (hG.block _ (by rw [HC.out]; omega)).trans l0
  have b1 := (hG.block _ (by rw [HC.out]; omega)).trans l1
  have b2 := (hG.block _ (by rw [HC.out]; omega)).trans l2
  obtain ⟨W5, hW5⟩ : ∃ W5, ((((w1.alloc (.cells #[.map (some bm)] 144)).alloc (.cells #[.slice none 0 0] 30)).alloc (.cells #[.int .i64 1] 3)).alloc (.cells #[.slice a zs.length cap] 30)) = W5 := ⟨_, rfl⟩
  rw [hW5] at n0 n1 n2 n3 hs4 hB5 hP5 b0 b1 b2 ⊢
  have HS := Lib.hid hs4
  clear hW5 hs4 hG l0 l1 l2 hB1 hP HC
  refine range_seq (gf := 111) (lb := #[.pointer (some ⟨C + 1 + 1 + 1, 0, none⟩)]) rfl (enters_of Tryd.func111 (by kernel_rfl) rfl)
    (bits_seq _ _ (.slice a zs.length cap) zs w W5 hv hz hB5 n3) (fun _ => rfl)
    (fun h k => ⟨h.1.trans k.1, k.2.trans h.2⟩)
    (fun W l o o' hl hlo _ => ⟨below_put W o o' (by have := HS.out; omega) hlo, World.putObj_heap_other (by have := HS.out; omega)⟩)
    (DAt w C bm W5.heap.size most)
    (fun c pre W => c = .ret ∧ DOut w most pre W)
    (fun x a' _ => x < 2 ∧ a' = { tmps := #[.slice a zs.length cap, .int .i64 most, undef, .pointer (some ⟨w.heap.size, 0, none⟩), .pointer (some ⟨w.heap.size + 1, 0, none⟩), .pointer (some ⟨w.heap.size + 1 + 1, 0, none⟩), .pointer (some ⟨C, 0, none⟩), .pointer (some ⟨C + 1, 0, none⟩), .pointer (some ⟨C + 1 + 1, 0, none⟩), .int .i64 (x : Int), undef, undef, .map (some bm), .slice a zs.length cap, .func (.func 111) #[] #[.pointer (some ⟨C + 1 + 1 + 1, 0, none⟩)], .int .i64 (x : Int), undef, undef, undef, undef, undef, undef, undef, undef, undef, undef, undef, undef, undef, undef, undef, undef, undef, undef, undef, undef, undef, undef, undef, undef, undef, undef, undef, undef, undef], defers := [] })
    (DAt.grows _ _ _ _ _) (DAt.turns _ _ _ _ _ (by omega) (by omega) (by have := HS.out; omega))
    (by rintro c s A W ⟨hc, h⟩ hg; exact ⟨hc, DOut.grows _ _ _ _ _ h hg⟩)
    (by rintro c s A l o o' ⟨hc, h⟩ hl hlo ho; exact ⟨hc, DOut.turns _ _ _ (by have := HS.out; omega) _ _ _ _ _ h hl hlo ho⟩)
    ?tTurn ⟨0, 0, [], _, RunSt.start most, b0, b1, b2, n0, n1, n2, hP5, World.ownsRow_nil _ _ _ _, hB5, Nat.le_refl _⟩ ?tAssign ?tBody ?tDone ?tStop
  case tTurn => exact fun x a' _ A l o o' h _ _ _ => h
  case tAssign =>
    rintro l pre x W K hI hY hK
    gi_wp2
    exact hK _ _ (keeps_refl _ _) ⟨Below.refl _ _, rfl⟩ hI ⟨hY, rfl⟩
  case tBody =>
    rintro l pre x a' W ⟨n, k, out, tv, HR, hblk0⟩ ⟨hx2, rfl⟩ hlen
    have hblk : Blk w C bm W5.heap.size most tv (2 ^ n + k) out W := hblk0
    clear hblk0
    have hbs : C + 4 ≤ W5.heap.size := by have := HS.out; omega
    obtain ⟨hn30, hk30⟩ := pend_bd HR.out.1
    have hol := HR.out.2.2.1
    have hp30 : 2 ^ n + k < 2147483648 := by
      have := HR.out.1.1
      have h2 := Nat.pow_le_pow_right (by omega : 2 > 0) (by omega : n ≤ 30)
      omega
    have hkk : 2 * k + x < 2 ^ (n + 1) := by have := HR.out.1.1; rw [Nat.pow_succ]; omega
    obtain ⟨P2, hP2⟩ : ∃ P2, 2 ^ (n + 1) + (2 * k + x) = P2 := ⟨_, rfl⟩
    have HPP := Lib.hid hP2
    have hP2' : 2 * (2 ^ n + k) + x = P2 := by rw [← hP2, Nat.pow_succ]; omega
    have HST : Hid (∀ W' : World, Calls Tryd.prog 109 #[.int .i64 ((2 ^ n + k : Nat) : Int), .int .i64 (x : Int)] W' fun e w' => e = .returned (.int .i64 (P2 : Int)) ∧ W' = w') := fun W' => by
      have := step_any (2 ^ n + k) x W' (by omega) hx2
      rwa [hP2'] at this
    have hs1 := hblk.step (by omega) (by omega) hbs P2
    obtain ⟨q1, q2, q3, q4, q5, q6, hpt, hown, hbw, hsz⟩ := id hs1
    have hlk := hpt.look hkk (by omega)
    rw [hP2] at hlk
    have HB1 := Lib.hid hs1
    have HB0 := Lib.hid hblk
    obtain ⟨_, _, _, _, _, r6, _⟩ := hblk
    obtain ⟨P, hP⟩ : ∃ P, 2 ^ n + k = P := ⟨_, rfl⟩
    rw [hP] at HST r6 HB0
    have c6 := blk_cell (j := 0) r6 rfl
    have f6 := blk_free (j := 0) r6
    have d4 := blk_cell (j := 0) q4 rfl
    have d6 := blk_cell (j := 0) q6 rfl
    have hN : 1 ≤ 4 - 1 - 1 := by decide
    clear hP2 hP2' hP r6 q6 q4 hpt hbw hs1 hkk hp30
    cases e : look (n + 1) (2 * k + x) with
    | none =>
      have HRW := Lib.hid (HR.out.wait hx2 e)
      rw [e] at hlk
      clear e q1 q2 q3 q5 hown hsz
      gi_wp2
      refine ⟨trivial, ?_⟩
      refine (CallsIn.inRound l ((callsIn_wide).2 (HST.out _))).mono ?_
      rintro e w' ⟨rfl, rfl⟩
      gi_wp2
      exact ⟨set_keeps _ _ _ _, ⟨(Below.refl _ _).setCell (p := ⟨C + 1 + 1, 0, none⟩) (by show w.heap.size ≤ C + 1 + 1; omega) _, Below.heap_setCell _ _ _ _ (by show C + 1 + 1 + 1 ≠ C + 1 + 1; omega)⟩, DAt.of HRW.out (by rw [HPP.out]; exact HB1.out)⟩
    | some c =>
      obtain ⟨hc257, _, _⟩ := look_of e
      have hlc : lookC (n + 1) (2 * k + x) = c := by rw [lookC, e]; rfl
      rw [e, hlc] at hlk
      have HDS := Lib.hid (fun bs => HR.out.some e bs)
      by_cases h256 : c = 256
      · have HDE : Hid (∀ bs, dec most (pre ++ [x] ++ bs) [] 0 0 = ([], 3)) := fun bs => by rw [HDS.out bs, if_pos h256]
        subst h256
        have y2 := blk_cell (j := 0) q2 rfl
        have yf2 := blk_free (j := 0) q2
        have q3' := (Below.heap_setCell (W.setCell ⟨C + 1 + 1, 0, none⟩ (.int .i64 (P2 : Int))) ⟨w.heap.size + 1, 0, none⟩ (.slice none 0 0) (w.heap.size + 1 + 1) (by simp)).trans q3
        have y3 := blk_cell (j := 0) q3' rfl
        have yf3 := blk_free (j := 0) q3'
        clear e q1 q2 q3 q3' q5 hown hsz hlc
        gi_wp2
        refine ⟨trivial, ?_⟩
        refine (CallsIn.inRound l ((callsIn_wide).2 (HST.out _))).mono ?_
        rintro e w' ⟨rfl, rfl⟩
        gi_wp2
        exact ⟨((set_keeps _ _ _ _).trans (set_keeps _ _ _ _)).trans (set_keeps _ _ _ _), rfl, HB1.out.out 3 HDE.out⟩
      · have d256 : ((c : Int) == 256) = false := by rw [beq_eq_false_iff_ne]; omega
        have hc256 : c < 256 := by omega
        have d0 := blk_cell (j := 0) q1 rfl
        have d5 := blk_cell (j := 0) q5 rfl
        obtain ⟨ao, cp, rfl, _⟩ := owned_shape hown
        by_cases hmo : most ≤ out.length
        · have HDE : Hid (∀ bs, dec most (pre ++ [x] ++ bs) [] 0 0 = ([], 4)) := fun bs => by rw [HDS.out bs, if_neg h256, if_pos hmo]
          have y2 := blk_cell (j := 0) q2 rfl
          have yf2 := blk_free (j := 0) q2
          have q3' := (Below.heap_setCell (W.setCell ⟨C + 1 + 1, 0, none⟩ (.int .i64 (P2 : Int))) ⟨w.heap.size + 1, 0, none⟩ (.slice none 0 0) (w.heap.size + 1 + 1) (by simp)).trans q3
          have y3 := blk_cell (j := 0) q3' rfl
          have yf3 := blk_free (j := 0) q3'
          clear e q1 q2 q3 q3' q5 hown hsz hlc h256
          gi_wp2
          refine ⟨trivial, ?_⟩
          refine (CallsIn.inRound l ((callsIn_wide).2 (HST.out _))).mono ?_
          rintro e w' ⟨rfl, rfl⟩
          gi_wp2
          exact ⟨((set_keeps _ _ _ _).trans (set_keeps _ _ _ _)).trans (set_keeps _ _ _ _), rfl, HB1.out.out 4 HDE.out⟩
        · have HRM := Lib.hid (HR.out.more e hc256 hmo)
          have hmo2 : ¬ most ≤ (out.length : Int) := hmo
          have dmo : decide (most ≤ (out.length : Int)) = false := decide_eq_false hmo
          have hrow : ∀ g, (Value.slice ao out.length cp).ownBlock = some g → W5.heap.size ≤ g := fun g hg => (hown.lt g hg).1
          have Q5 := Lib.hid q5
          have Q6 := Lib.hid HB1.out.2.2.2.2.2.1
          have hnew := _root_.Go.cell_one_new (W.setCell ⟨C + 1 + 1, 0, none⟩ (.int .i64 (P2 : Int))) (.int .u8 (c : Int)) 5
          rw [World.size_setCell] at hnew
          have HNW := Lib.hid hnew
          have hsz0 : W5.heap.size ≤ W.heap.size := by rw [World.size_setCell] at hsz; exact hsz
          have hol2 : out.length ≤ 8000000 := by omega
          have HRW2 := Lib.hid hrow
          clear e q1 q2 q3 q5 hlc h256 hmo hnew hsz hrow
          gi_wp2
          refine ⟨trivial, ?_⟩
          refine (CallsIn.inRound l ((callsIn_wide).2 (HST.out _))).mono ?_
          rintro e w' ⟨rfl, rfl⟩
          gi_wp2_with (gi_at_builtin; refine wpListIn_append_own _ rfl (.tmp 36) (.tmp 39) 30 rfl W5.heap.size 5 i0 (.int .u8 0) 1 1 Tryd.underlying30 hi hz0 hz1 hz2 rfl (by decide) (.slice ao out.length cp) out.length (out.map (Value.int .u8)) rfl (hown.alloc _) ⟨W.heap.size, 0, none⟩ 1 1 [.int .u8 (c : Int)] rfl rfl HNW.out (fun x hx => by simp at hx; subst hx; rfl) (by unfold maxLen; omega) (by omega) (by simp; omega) ?_; intro v1 w1 hown1 hg1 _; obtain ⟨ao1, cap1, rfl, _⟩ := owned_shape hown1; have at1 : ∀ (k : Nat) (o : Obj), (W.setCell ⟨C + 1 + 1, 0, none⟩ (.int .i64 (P2 : Int))).heap[k]? = some o → (Value.slice ao out.length cp).ownBlock ≠ some k → w1.heap[k]? = some o := (fun k o hk hn => (hg1.block k (by have := (Array.getElem?_eq_some_iff.1 hk).1; simp at this; simp <;> omega) (fun e => hn e.symm)).trans ((Below.heap_alloc _ _ _ (Array.getElem?_eq_some_iff.1 hk).1).trans hk)); have z5 := at1 _ _ Q5.out (fun e => by have := HRW2.out _ e; omega); have z6 := at1 _ _ Q6.out (fun e => by have := HRW2.out _ e; omega); have g5 := blk_cell (j := 0) z5 rfl; have gf5 := blk_free (j := 0) z5; have z6' := (Below.heap_setCell w1 ⟨C + 1, 0, none⟩ (.slice ao1 (out.length + 1) cap1) _ (by simp)).trans z6; have g6 := blk_cell (j := 0) z6' rfl; have gf6 := blk_free (j := 0) z6'; clear z5 z6 z6' at1)
          obtain ⟨r1, r2, r3, r4⟩ := HB1.out.more (by omega) (by omega) hbs hg1 hown1
          exact ⟨(set_keeps _ _ _ _).trans r2, ⟨((Below.refl _ _).setCell (p := ⟨C + 1 + 1, 0, none⟩) (by show w.heap.size ≤ C + 1 + 1; omega) _).trans r3, (r4 _ (by omega) (by omega) (by omega)).trans (Below.heap_setCell _ _ _ _ (by show C + 1 + 1 + 1 ≠ C + 1 + 1; omega))⟩, DAt.of HRM.out r1⟩
  case tDone =>
    rintro D xs W hD hcame hat hDk
    obtain ⟨n, k, out, tv, HR, h1, h2, h3, h4, h5, h6, hp, ho, hBw, hsz⟩ := hat
    have hbs : C + 4 ≤ W5.heap.size := by have := HS.out; omega
    obtain ⟨hn30, hk30⟩ := pend_bd HR.out.1
    have HDE : Hid (decB most zs = if n ≤ 7 ∧ k + 1 = 2 ^ n then (out, 0) else ([], 3)) := by
      show _ = _
      have h := HR.out.2.1 []
      rw [List.append_nil, show xs = bitsB zs from hcame, dec_end] at h
      exact h
    have hol : out.length ≤ 8000000 := by
      have h := HR.out.2.2.1
      rw [show xs = bitsB zs from hcame, bitsB_length] at h
      omega
    have HF := Lib.hid (fun (W' : World) => isFilling_any n k W' HR.out.1.1 hn30)
    obtain ⟨P, hP⟩ : ∃ P, 2 ^ n + k = P := ⟨_, rfl⟩
    rw [hP] at h6 HF
    have c6 := blk_cell (j := 0) h6 rfl
    have c2 := blk_cell (j := 0) h2 rfl
    have f2 := blk_free (j := 0) h2
    obtain ⟨ao, cp, rfl, _⟩ := owned_shape ho
    have c5 := blk_cell (j := 0) h5 rfl
    have HO := Lib.hid ho
    have HBW := Lib.hid hBw
    have H2 := Lib.hid h2
    have H3 := Lib.hid h3
    have HDK := Lib.hid hDk
    have HFT := Lib.hid HR.out.2.2.2
    by_cases hf : n ≤ 7 ∧ k + 1 = 2 ^ n
    · have HD2 : Hid (decB most zs = (out, 0)) := by show _ = _; rw [HDE.out, if_pos hf]
      rw [decide_eq_true hf] at HF
      have e3 := (Below.heap_setCell W ⟨w.heap.size + 1, 0, none⟩ (.slice ao out.length cp) (w.heap.size + 1 + 1) (by simp)).trans h3
      have c3 := blk_cell (j := 0) e3 rfl
      have f3 := blk_free (j := 0) e3
      have hown2 := ownsRow_setCell_below (ownsRow_setCell_below ho (a := ⟨w.heap.size + 1, 0, none⟩) (by show w.heap.size + 1 < W5.heap.size; omega) (.slice ao out.length cp)) (a := ⟨w.heap.size + 1 + 1, 0, none⟩) (by show w.heap.size + 1 + 1 < W5.heap.size; omega) (.int .i64 0)
      have HO2 := Lib.hid hown2
      clear hf hP h1 h2 h3 h4 h5 h6 hp ho hBw hsz hDk e3 hown2
      gi_wp2
      go_wp2_with fail
      refine (HF.out _).mono ?_
      rintro e w' ⟨rfl, rfl⟩
      go_wp2_with fail
      try rw [Exit.noGoto_ret]
      have hDk2 : ((W.setCell ⟨w.heap.size + 1, 0, none⟩ (.slice ao out.length cp)).setCell ⟨w.heap.size + 1 + 1, 0, none⟩ (.int .i64 0)).heap[D]? = some (.deferred (some [])) :=
        ((Below.heap_setCell _ _ _ _ (by show D ≠ w.heap.size + 1 + 1; omega)).trans (Below.heap_setCell _ _ _ _ (by show D ≠ w.heap.size + 1; omega))).trans HDK.out
      have r2 := heap_setCell_same W (w.heap.size + 1) 0 _ _ (.slice ao out.length cp) H2.out
      have r3 := heap_setCell_same (W.setCell ⟨w.heap.size + 1, 0, none⟩ (.slice ao out.length cp)) (w.heap.size + 1 + 1) 0 _ _ (.int .i64 0) ((Below.heap_setCell W ⟨w.heap.size + 1, 0, none⟩ (.slice ao out.length cp) (w.heap.size + 1 + 1) (by simp)).trans H3.out)
      refine ⟨by simp, .inl ⟨_, _, rfl, run_takeDeferred hDk2, ?_⟩⟩
      refine ⟨_, results_cells2 rfl _ _ (w.heap.size + 1) (w.heap.size + 1 + 1) _ _ _ _ rfl rfl ((World.putObj_heap_other (by omega)).trans ((Below.heap_setCell _ _ _ _ (by show w.heap.size + 1 ≠ w.heap.size + 1 + 1; omega)).trans r2)) ((World.putObj_heap_other (by omega)).trans r3) (fun _ => by kernel_rfl) (fun _ => by kernel_rfl), ?_⟩
      rw [HD2.out]
      refine ⟨_, rfl, ?_, ?_⟩
      · exact Sl.of_own (owned_kept HO2.out (grownBy_putObj' _ D _) (fun g hg e => by
          obtain ⟨cs, fr, h⟩ := owned_cells HO2.out g hg
          exact cells_ne h hDk2 rfl (Option.some.inj e).symm)) HFT.out (by show out.length ≤ maxLen; unfold maxLen; omega)
      · exact ((HBW.out.setCell (p := ⟨w.heap.size + 1, 0, none⟩) (by show w.heap.size ≤ w.heap.size + 1; omega) _).setCell (p := ⟨w.heap.size + 1 + 1, 0, none⟩) (by show w.heap.size ≤ w.heap.size + 1 + 1; omega) _).trans (below_put _ _ _ (by omega) hDk2)
    · have HD2 : Hid (decB most zs = ([], 3)) := by show _ = _; rw [HDE.out, if_neg hf]
      rw [decide_eq_false hf] at HF
      have e3 := (Below.heap_setCell W ⟨w.heap.size + 1, 0, none⟩ (.slice none 0 0) (w.heap.size + 1 + 1) (by simp)).trans h3
      have c3 := blk_cell (j := 0) e3 rfl
      have f3 := blk_free (j := 0) e3
      clear hf hP h1 h2 h3 h4 h5 h6 hp ho hBw hsz hDk e3
      gi_wp2
      go_wp2_with fail
      refine (HF.out _).mono ?_
      rintro e w' ⟨rfl, rfl⟩
      go_wp2_with fail
      try rw [Exit.noGoto_ret]
      have hDk2 : ((W.setCell ⟨w.heap.size + 1, 0, none⟩ (.slice none 0 0)).setCell ⟨w.heap.size + 1 + 1, 0, none⟩ (.int .i64 3)).heap[D]? = some (.deferred (some [])) :=
        ((Below.heap_setCell _ _ _ _ (by show D ≠ w.heap.size + 1 + 1; omega)).trans (Below.heap_setCell _ _ _ _ (by show D ≠ w.heap.size + 1; omega))).trans HDK.out
      have r2 := heap_setCell_same W (w.heap.size + 1) 0 _ _ (.slice none 0 0) H2.out
      have r3 := heap_setCell_same (W.setCell ⟨w.heap.size + 1, 0, none⟩ (.slice none 0 0)) (w.heap.size + 1 + 1) 0 _ _ (.int .i64 3) ((Below.heap_setCell W ⟨w.heap.size + 1, 0, none⟩ (.slice none 0 0) (w.heap.size + 1 + 1) (by simp)).trans H3.out)
      refine ⟨by simp, .inl ⟨_, _, rfl, run_takeDeferred hDk2, ?_⟩⟩
      refine ⟨_, results_cells2 rfl _ _ (w.heap.size + 1) (w.heap.size + 1 + 1) _ _ _ _ rfl rfl ((World.putObj_heap_other (by omega)).trans ((Below.heap_setCell _ _ _ _ (by show w.heap.size + 1 ≠ w.heap.size + 1 + 1; omega)).trans r2)) ((World.putObj_heap_other (by omega)).trans r3) (fun _ => by kernel_rfl) (fun _ => by kernel_rfl), ?_⟩
      exact DecOut.err HD2.out (((HBW.out.setCell (p := ⟨w.heap.size + 1, 0, none⟩) (by show w.heap.size ≤ w.heap.size + 1; omega) _).setCell (p := ⟨w.heap.size + 1 + 1, 0, none⟩) (by show w.heap.size ≤ w.heap.size + 1 + 1; omega) _).trans (below_put _ _ _ (by omega) hDk2))
  case tStop =>
    rintro D c pre W hD hcame ⟨rfl, hout⟩ hDk
    obtain ⟨z, hd, h2, h3, hB⟩ := hout
    have hbs : C + 4 ≤ W5.heap.size := by have := HS.out; omega
    have HDE : decB most zs = ([], z) := by
      obtain ⟨m, hm, rfl⟩ := hcame
      have := hd ((bitsB zs).drop (m + 1))
      rwa [List.take_append_drop] at this
    gi_wp2
    refine ⟨by simp, .inl ⟨_, _, rfl, run_takeDeferred hDk, ?_⟩⟩
    refine ⟨_, results_cells2 rfl _ _ (w.heap.size + 1) (w.heap.size + 1 + 1) _ _ _ _ rfl rfl ((World.putObj_heap_other (by omega)).trans h2) ((World.putObj_heap_other (by omega)).trans h3) (fun _ => by kernel_rfl) (fun _ => by kernel_rfl), ?_⟩
    exact DecOut.err HDE (hB.trans (below_put _ _ _ (by omega) hDk))
end Go.Proofs.YtenapfpkegoonaaDoor

/-
  Strings as lists of numbers: '[]byte(s)', 'string(b)', whether two are one. No function of the program is named here.
-/
namespace Go.Proofs.YtenapfpkegoonaaDoor
open Go.RowKit

/-- a string's bytes, as numbers -/
def nums (s : ByteArray) : List Int := s.data.toList.map fun b => (b.toNat : Int)
theorem nums_length (s : ByteArray) : (nums s).length = s.size := by simp [nums]
theorem nums_fit (s : ByteArray) : Fit .u8 (nums s) := fun n hn => by
  simp only [nums, List.mem_map] at hn
  obtain ⟨b, _, rfl⟩ := hn
  exact WalkArith.wf_u8 (by have := b.toNat_lt; omega)
theorem str_nums (s : ByteArray) : strOfNums (nums s) = s := by
  apply ByteArray.ext
  apply Array.toList_inj.1
  rw [strOfNums_data, nums, List.map_map]
  conv => rhs; rw [← List.map_id s.data.toList]
  apply List.map_congr_left
  intro x _
  simp
theorem nums_str {zs : List Int} (h : Fit .u8 zs) : nums (strOfNums zs) = zs := by
  rw [nums, strOfNums_data, List.map_map]
  conv => rhs; rw [← List.map_id zs]
  apply List.map_congr_left
  intro x hx
  have := bounds_u8 (h x hx)
  simp only [Function.comp, id]
  show ((UInt8.ofNat x.toNat).toNat : Int) = x
  rw [UInt8.toNat_ofNat']
  omega
theorem str_inj {xs ys : List Int} (hx : Fit .u8 xs) (hy : Fit .u8 ys) : strOfNums xs = strOfNums ys ↔ xs = ys :=
  ⟨fun h => by rw [← nums_str hx, ← nums_str hy, h], fun h => by rw [h]⟩

/-- '[]byte(s)' -/
theorem str_bytes {P : Program} (w : World) (src dst e : TypeId) (s : ByteArray) (hs : P.underlying src = some .string) (hd : P.underlying dst = some (.slice e)) (he : P.underlying e = some (.int .u8)) (hm : s.size ≤ maxLen) :
    ∃ v W', (convert src dst (.string s)).run P w = .ok v W' ∧ Sl .u8 W' v (nums s) ∧ Below w.heap.size w W' := by
  refine ⟨_, _, run_bytes_of_string w src dst e s hs hd he, ?_, ((Below.refl _ _).drew).alloc (by simp) _⟩
  have hc := grownCap_le_maxLen w s.size 0 e hm
  have hg : s.size ≤ grownCap w s.size 0 e := grownCap_ge w s.size 0 e
  refine ⟨some ⟨w.heap.size, 0, none⟩, grownCap w s.size 0 e, by rw [nums_length], by rw [nums_length]; exact hg, hc, nums_fit s, .inr ⟨w.heap.size, 0, rfl, by simp, fun i hi => ?_⟩⟩
  rw [nums_length] at hi
  rw [Nat.zero_add, Go.Joins.cell_alloc_mark_at _ _ _ _ _ _ (by simp)]
  simp [bytesRow, nums, at0, Array.getElem?_append, hi]

/-- 'string(b)' -/
theorem Sl.run_str {P : Program} {w : World} {v : Value} {zs : List Int} (h : Sl .u8 w v zs) (src dst e : TypeId) (hs : P.underlying src = some (.slice e)) (he : P.underlying e = some (.int .u8)) (hd : P.underlying dst = some .string) :
    (convert src dst v).run P w = .ok (.string (strOfNums zs)) w := by
  rcases h.parts with ⟨rfl, a, cap, rfl⟩ | ⟨_, b, off, cap, rfl, _, _, _, hc⟩
  · rw [run_convert_bytes_string w src dst e _ 0 cap hs he hd]
    cases a <;> simp [Conv.bytesToString, loadCells]
    all_goals rfl
  · exact run_convert_bytes_arg w src e hs he b off zs.length cap zs rfl (fun i hi => hc i hi) dst hd
end Go.Proofs.YtenapfpkegoonaaDoor

/-
  Texts as bytes: plain mathematics, no function of the program is named here.
-/
namespace Go.Proofs.YtenapfpkegoonaaDoor
open Go.RowKit

theorem full7 : fullP 7 = 127 := by decide
/-- what stands behind the count -/
def body (sq : Bool) (zs : List Int) : List Int := if sq then enc zs else zs
/-- what stands above the count's prefix -/
def above (sq : Bool) : Int := if sq then 128 else 0
/-- the count's bytes -/
def head (sq : Bool) (zs : List Int) : List Int := encP (fullP 7) (above sq) (body sq zs).length
/-- a text's bytes -/
def lit (sq : Bool) (zs : List Int) : List Int := head sq zs ++ body sq zs
/-- the shorter ones -/
def litS (zs : List Int) : List Int := lit (decide (sizeT zs < zs.length)) zs
/-- the text that bytes begin with, how many they are, the error -/
def decL (most : Int) (zs : List Int) : List Int × Int × Int :=
  if (decP (fullP 7) zs).2.2 ≠ 0 then ([], 0, (decP (fullP 7) zs).2.2)
  else if (zs.length : Int) - (decP (fullP 7) zs).2.1 < (decP (fullP 7) zs).1 then ([], 0, 2)
  else if 128 ≤ at0 zs 0 then
    if (decB most ((zs.take ((decP (fullP 7) zs).2.1 + (decP (fullP 7) zs).1).toNat).drop (decP (fullP 7) zs).2.1.toNat)).2 ≠ 0 then ([], 0, (decB most ((zs.take ((decP (fullP 7) zs).2.1 + (decP (fullP 7) zs).1).toNat).drop (decP (fullP 7) zs).2.1.toNat)).2)
    else ((decB most ((zs.take ((decP (fullP 7) zs).2.1 + (decP (fullP 7) zs).1).toNat).drop (decP (fullP 7) zs).2.1.toNat)).1, (decP (fullP 7) zs).2.1 + (decP (fullP 7) zs).1, 0)
  else if max most 0 < (decP (fullP 7) zs).1 then ([], 0, 4)
  else ((zs.take ((decP (fullP 7) zs).2.1 + (decP (fullP 7) zs).1).toNat).drop (decP (fullP 7) zs).2.1.toNat, (decP (fullP 7) zs).2.1 + (decP (fullP 7) zs).1, 0)

theorem body_length (sq : Bool) {zs : List Int} (hf : Fit .u8 zs) : (body sq zs).length ≤ 4 * zs.length := by
  cases sq
  · simp [body]; omega
  · simp only [body, if_true]; rw [enc_length]; exact sizeT_le zs hf
theorem body_fit (sq : Bool) {zs : List Int} (hf : Fit .u8 zs) : Fit .u8 (body sq zs) := by
  cases sq
  · exact hf
  · exact enc_fit zs
theorem above_mod (sq : Bool) : above sq % (fullP 7 + 1) = 0 := by cases sq <;> decide
theorem above_le (sq : Bool) : 0 ≤ above sq ∧ above sq + fullP 7 ≤ 255 := by cases sq <;> decide
theorem head_length (sq : Bool) {zs : List Int} (hf : Fit .u8 zs) (hz : zs.length ≤ 1000000) : 1 ≤ (head sq zs).length ∧ (head sq zs).length ≤ 5 := by
  have := body_length sq hf
  exact ⟨(encP_length _ _ _).1, encP_five _ _ _ (by rw [full7]; decide) (by omega) (by omega)⟩
theorem lit_fit (sq : Bool) {zs : List Int} (hf : Fit .u8 zs) (hz : zs.length ≤ 1000000) : Fit .u8 (lit sq zs) := by
  intro n hn
  rcases List.mem_append.1 hn with h | h
  · have := body_length sq hf
    exact encP_fit _ _ _ (by rw [full7]; decide) (above_le sq).1 (above_le sq).2 (by omega) (by omega) n h
  · exact body_fit sq hf n h
theorem lit_length (sq : Bool) {zs : List Int} (hf : Fit .u8 zs) (hz : zs.length ≤ 1000000) : 1 ≤ (lit sq zs).length ∧ (lit sq zs).length ≤ 4 * zs.length + 5 := by
  have h1 := body_length sq hf
  have h2 := head_length sq hf hz
  simp only [lit, List.length_append]
  omega
/-- the count comes back -/
theorem lit_dec (sq : Bool) {zs : List Int} (hf : Fit .u8 zs) (hz : zs.length ≤ 1000000) (behind : List Int) : decP (fullP 7) (head sq zs ++ behind) = (((body sq zs).length : Int), ((head sq zs).length : Int), 0) := by
  have := body_length sq hf
  exact decP_encP _ _ _ _ (by rw [full7]; decide) (above_mod sq) (by omega) (by omega)
/-- the mark comes back -/
theorem lit_mark (sq : Bool) (zs behind : List Int) : 128 ≤ at0 (lit sq zs ++ behind) 0 ↔ sq = true := by
  have : at0 (lit sq zs ++ behind) 0 = above sq + min ((body sq zs).length : Int) 127 := by
    rw [lit, head, encP, full7]
    split
    · simp only [List.cons_append, List.nil_append, at0_zero]
      rw [Int.min_eq_left (by omega)]
    · simp only [List.cons_append, at0_zero]
      rw [Int.min_eq_right (by omega)]
  rw [this]
  cases sq <;> simp [above] <;> omega
theorem cut_body (sq : Bool) (zs behind : List Int) : ((lit sq zs ++ behind).take (((head sq zs).length : Int) + ((body sq zs).length : Int)).toNat).drop ((head sq zs).length : Int).toNat = body sq zs := by
  rw [show (((head sq zs).length : Int) + ((body sq zs).length : Int)).toNat = (lit sq zs).length by simp [lit]; omega, List.take_left, Int.toNat_natCast, lit, List.drop_left]
theorem dec_full {zs : List Int} (hf : Fit .u8 zs) (h0 : 0 < zs.length) : decB (zs.length - 1) (enc zs) = ([], 4) := by
  obtain ⟨l, x, rfl⟩ : ∃ l x, zs = l ++ [x] := ⟨zs.dropLast, zs.getLast (List.ne_nil_of_length_pos h0), (List.dropLast_concat_getLast _).symm⟩
  have hx := bounds_u8 (hf x (by simp))
  rw [decB, bitsB_enc, pad, bitsT_snoc, List.append_assoc, dec_text (fun z hz => hf z (by simp [hz])) (by simp), dec_code (by omega), if_pos (by simp)]
/-- there and back -/
theorem decL_lit (sq : Bool) {zs : List Int} (hf : Fit .u8 zs) (hz : zs.length ≤ 1000000) (behind : List Int) {most : Int} (hm : (zs.length : Int) ≤ most) : decL most (lit sq zs ++ behind) = (zs, ((lit sq zs).length : Int), 0) := by
  have hd := lit_dec sq hf hz (body sq zs ++ behind)
  rw [← List.append_assoc, ← lit] at hd
  have hk := lit_mark sq zs behind
  have hc := cut_body sq zs behind
  have hl : ((lit sq zs).length : Int) = (head sq zs).length + (body sq zs).length := by simp [lit]
  rw [decL, hd]
  simp only [ne_eq, not_true_eq_false, if_false]
  rw [if_neg (by simp; omega), hc]
  cases sq
  · rw [if_neg (by rw [hk]; decide), if_neg (by simp [body]; omega), hl]
    rfl
  · rw [if_pos (by rw [hk])]
    simp only [body, if_true] at hl ⊢
    rw [dec_enc hf hm, if_neg (by simp), hl]
/-- a bound that is less -/
theorem decL_full (sq : Bool) {zs : List Int} (hf : Fit .u8 zs) (hz : zs.length ≤ 1000000) (h0 : 0 < zs.length) : decL (zs.length - 1) (lit sq zs) = ([], 0, 4) := by
  have hd := lit_dec sq hf hz (body sq zs)
  rw [← lit] at hd
  have hk := lit_mark sq zs []
  have hc := cut_body sq zs []
  rw [List.append_nil] at hk hc
  have hl : ((lit sq zs).length : Int) = (head sq zs).length + (body sq zs).length := by simp [lit]
  rw [decL, hd]
  simp only [ne_eq, not_true_eq_false, if_false]
  rw [if_neg (by omega), hc]
  cases sq
  · rw [if_neg (by rw [hk]; decide), if_pos (by simp [body]; omega)]
  · rw [if_pos (by rw [hk])]
    simp only [body, if_true]
    rw [dec_full hf h0]
    rfl
/-- cut short -/
theorem decL_cut (sq : Bool) {zs : List Int} (hf : Fit .u8 zs) (hz : zs.length ≤ 1000000) {most : Int} {j : Nat} (hj : j < (lit sq zs).length) : decL most ((lit sq zs).take j) = ([], 0, 2) := by
  have hb := body_length sq hf
  by_cases h : j < (head sq zs).length
  · have e : (lit sq zs).take j = (head sq zs).take j := by rw [lit, List.take_append_of_le_length (by omega)]
    have hd := decP_cut (fullP 7) (above sq) (body sq zs).length j (by rw [full7]; decide) (above_mod sq) (by omega) (by omega) h
    rw [e, decL]
    rw [head] at *
    rw [hd]
    rfl
  · have e : (lit sq zs).take j = head sq zs ++ (body sq zs).take (j - (head sq zs).length) := by rw [lit, List.take_append, List.take_of_length_le (by omega)]
    have hd := lit_dec sq hf hz ((body sq zs).take (j - (head sq zs).length))
    have hl : (lit sq zs).length = (head sq zs).length + (body sq zs).length := by simp [lit]
    rw [e, decL, hd]
    simp only [ne_eq, not_true_eq_false, if_false]
    rw [if_pos (by simp; omega)]
theorem grpL_mono : ∀ (f : Nat) (r s : Int), 0 ≤ r → r ≤ s → (grpL f r).length ≤ (grpL f s).length
  | 0, r, s, _, _ => by simp [grpL]
  | f + 1, r, s, h0, h => by
    by_cases hr : r < 128
    · rw [grpL_small hr]; exact (grpL_length _ _).1
    · rw [grpL_great (by omega), grpL_great (by omega)]
      have := grpL_mono f (r / 128) (s / 128) (by omega) (by omega)
      simp; omega
theorem encP_mono (m a a' n n' : Int) (h : n ≤ n') : (encP m a n).length ≤ (encP m a' n').length := by
  unfold encP
  by_cases h1 : n < m
  · rw [if_pos h1]; split <;> simp
  · rw [if_neg h1, if_neg (by omega)]
    have := grpL_mono 4 (n - m) (n' - m) (by omega) (by omega)
    simp; omega
/-- the shorter ones are no longer than either -/
theorem litS_le (sq : Bool) (zs : List Int) : (litS zs).length ≤ (lit sq zs).length := by
  have e : ∀ b, (body b zs).length = if b then sizeT zs else zs.length := fun b => by cases b <;> simp [body, enc_length]
  unfold litS lit
  simp only [List.length_append, head]
  by_cases h : sizeT zs < zs.length
  · have := encP_mono (fullP 7) (above true) (above sq) (body true zs).length (body sq zs).length (by rw [e, e]; cases sq <;> simp <;> omega)
    rw [decide_eq_true h]
    have h2 := e true
    have h3 := e sq
    cases sq <;> simp_all <;> omega
  · have := encP_mono (fullP 7) (above false) (above sq) (body false zs).length (body sq zs).length (by rw [e, e]; cases sq <;> simp <;> omega)
    rw [decide_eq_false h]
    have h2 := e false
    have h3 := e sq
    cases sq <;> simp_all <;> omega
/-- which ones they are -/
theorem litS_is (zs : List Int) : litS zs = if (lit false zs).length ≤ (lit true zs).length then lit false zs else lit true zs := by
  have e : ∀ b, (body b zs).length = if b then sizeT zs else zs.length := fun b => by cases b <;> simp [body, enc_length]
  by_cases h : sizeT zs < zs.length
  · have := encP_mono (fullP 7) (above true) (above false) (body true zs).length (body false zs).length (by rw [e, e]; simp; omega)
    rw [if_neg (by simp only [lit, List.length_append, head] at *; rw [e, e] at *; simp at *; omega), litS, decide_eq_true h]
  · have := encP_mono (fullP 7) (above false) (above true) (body false zs).length (body true zs).length (by rw [e, e]; simp; omega)
    rw [if_pos (by simp only [lit, List.length_append, head] at *; rw [e, e] at *; simp at *; omega), litS, decide_eq_false h]
theorem litS_sq (zs : List Int) : ∃ sq, litS zs = lit sq zs := ⟨_, rfl⟩

/-- what a count that is there says -/
theorem decF_ok : ∀ {zs : List Int} {f i : Nat} {t n : Int}, (∀ k, 0 ≤ at0 zs k) → 0 ≤ t → 0 ≤ n → (decF zs f i t n).2.2 = 0 → 0 ≤ (decF zs f i t n).1 ∧ (decF zs f i t n).1 ≤ 16777215 ∧ 1 ≤ (decF zs f i t n).2.1 ∧ (decF zs f i t n).2.1 ≤ zs.length
  | zs, 0, i, t, n, _, _, _, h => by simp [decF] at h
  | zs, f + 1, i, t, n, hz, ht, hn, h => by
    have h0 : 0 ≤ t * (at0 zs i % 128) := Int.mul_nonneg ht (by have := hz i; omega)
    rw [decF] at h ⊢
    split at h
    · simp at h
    · rename_i h1
      rw [if_neg h1]
      split at h
      · simp at h
      · rename_i h2
        rw [if_neg h2]
        split at h
        · rename_i h3
          rw [if_pos h3]
          simp only
          omega
        · rename_i h3
          rw [if_neg h3]
          exact decF_ok hz (by omega) (by omega) h
theorem decP_ok {zs : List Int} (hf : Fit .u8 zs) (h : (decP (fullP 7) zs).2.2 = 0) : 0 ≤ (decP (fullP 7) zs).1 ∧ (decP (fullP 7) zs).1 ≤ 16777215 ∧ 1 ≤ (decP (fullP 7) zs).2.1 ∧ (decP (fullP 7) zs).2.1 ≤ zs.length := by
  have hz : ∀ k, 0 ≤ at0 zs k := fun k => (hf.byte k).1
  rw [full7] at *
  unfold decP at h ⊢
  split at h
  · simp at h
  · rename_i h1
    rw [if_neg h1]
    split at h
    · rename_i h2
      have := hz 0
      rw [if_pos h2]
      simp only
      omega
    · rename_i h2
      rw [if_neg h2]
      exact decF_ok hz (by omega) (by omega) h
theorem decL_fit {most : Int} {zs : List Int} (hf : Fit .u8 zs) : Fit .u8 (decL most zs).1 := by
  have nil : Fit .u8 ([] : List Int) := fun x hx => by simp at hx
  rw [decL]
  split
  · exact nil
  split
  · exact nil
  split
  · split
    · exact nil
    · exact decB_fit ((hf.take _).drop _)
  split
  · exact nil
  · exact (hf.take _).drop _
end Go.Proofs.YtenapfpkegoonaaDoor

/-
  Package literal: the text that bytes begin with.
-/
namespace Go.Proofs.YtenapfpkegoonaaDoor
set_option maxRecDepth 20000
open Go.RowKit

/-- the text of what stands behind a count -/
def readL (sq : Bool) (most : Int) (own : List Int) : List Int × Int := if sq then decB most own else if max most 0 < own.length then ([], 4) else (own, 0)
def readV (d : List Int × Int) : Value := .tuple #[.string (strOfNums d.1), .int .i64 d.2]
def tupL (d : List Int × Int × Int) : Value := .tuple #[.string (strOfNums d.1), .int .i64 d.2.1, .int .i64 d.2.2]
def cutL (zs : List Int) : List Int := (zs.take ((decP (fullP 7) zs).2.1 + (decP (fullP 7) zs).1).toNat).drop (decP (fullP 7) zs).2.1.toNat
theorem cutL_length {zs : List Int} {n p : Int} (hd : decP (fullP 7) zs = (n, p, 0)) (h0 : 0 ≤ n) (h1 : 0 ≤ p) (h : p + n ≤ zs.length) : ((cutL zs).length : Int) = n := by
  rw [cutL, hd]
  simp; omega
theorem decL_err {most : Int} {zs : List Int} {n p e : Int} (hd : decP (fullP 7) zs = (n, p, e)) (h : e ≠ 0) : decL most zs = ([], 0, e) := by
  rw [decL, hd, if_pos h]
theorem decL_more {most : Int} {zs : List Int} {n p : Int} (hd : decP (fullP 7) zs = (n, p, 0)) (h : zs.length - p < n) : decL most zs = ([], 0, 2) := by
  rw [decL, hd, if_neg (by simp), if_pos h]
theorem decL_read {most : Int} {zs : List Int} {n p : Int} (hd : decP (fullP 7) zs = (n, p, 0)) (h0 : 0 ≤ n) (h1 : 0 ≤ p) (h : ¬ zs.length - p < n) :
    decL most zs = if (readL (decide (128 ≤ at0 zs 0)) most (cutL zs)).2 ≠ 0 then ([], 0, (readL (decide (128 ≤ at0 zs 0)) most (cutL zs)).2) else ((readL (decide (128 ≤ at0 zs 0)) most (cutL zs)).1, p + n, 0) := by
  have hl := cutL_length hd h0 h1 (by omega)
  have hc : cutL zs = (zs.take (p + n).toNat).drop p.toNat := by rw [cutL, hd]
  rw [decL, hd, if_neg (by simp), if_neg h]
  simp only []
  rw [← hc]
  by_cases hm : 128 ≤ at0 zs 0
  · rw [if_pos hm, decide_eq_true hm]
    simp only [readL, if_true]
  · rw [if_neg hm, decide_eq_false hm]
    simp only [readL, Bool.false_eq_true, if_false]
    rw [hl]
    split <;> simp

theorem read1_any (most : Int) (p : Nat) (v : Value) (own : List Int) (w : World) (hv : Sl .u8 w v own) (hz : own.length ≤ 1000000) (hc : w.cell? ⟨p, 0, none⟩ = some (.int .i64 most)) :
    Calls Tryd.prog 104 #[v, .pointer (some ⟨p, 0, none⟩)] w fun e w' => e = .returned (readV (readL true most own)) ∧ Below w.heap.size w w' := by
  have HE : Hid (readL true most own = decB most own) := rfl
  go_enter Tryd.func104, Tryd.ntmps104
  go_wp2_with fail
  refine (dec_any v own most _ hv hz).mono ?_
  rintro e w1 ⟨x, rfl, hx, hb⟩
  have hc1 := hx.run_str (P := Tryd.prog) 30 9 5 Tryd.underlying30 Tryd.underlying5 Tryd.underlying9
  have HB := Lib.hid hb
  clear hx hb
  go_wp2_with fail
  go_ret2
  rw [HE.out]
  exact ⟨rfl, HB.out⟩
theorem read2_any (most : Int) (p : Nat) (v : Value) (own : List Int) (w : World) (hv : Sl .u8 w v own) (hc : w.cell? ⟨p, 0, none⟩ = some (.int .i64 most)) :
    Calls Tryd.prog 106 #[v, .pointer (some ⟨p, 0, none⟩)] w fun e w' => e = .returned (readV (readL false most own)) ∧ Below w.heap.size w w' := by
  have hc1 := hv.run_str (P := Tryd.prog) 30 9 5 Tryd.underlying30 Tryd.underlying5 Tryd.underlying9
  obtain ⟨a, cap, rfl, _⟩ := id hv
  obtain ⟨N, hN⟩ : ∃ N, own.length = N := ⟨_, rfl⟩
  have HN := Lib.hid hN
  rw [hN] at hc1 ⊢
  clear hN hv
  by_cases h : max most 0 < (N : Int)
  · have HE := Lib.hid (show readL false most own = ([], 4) by simp only [readL, Bool.false_eq_true, if_false]; rw [HN.out, if_pos h])
    have HH := Lib.hid h
    clear h
    go_enter Tryd.func106, Tryd.ntmps106
    go_wp2_with fail
    all_goals first
      | (exfalso; have h9 := HH.out; rename _ ≤ ite _ _ _ => h7; split at h7 <;> omega)
      | (go_ret2; rw [HE.out]; exact ⟨rfl, Below.refl _ _⟩)
  · have HE := Lib.hid (show readL false most own = (own, 0) by simp only [readL, Bool.false_eq_true, if_false]; rw [HN.out, if_neg h])
    have HH := Lib.hid h
    clear h
    go_enter Tryd.func106, Tryd.ntmps106
    go_wp2_with fail
    all_goals first
      | (exfalso; have h9 := HH.out; rename ite _ _ _ < _ => h7; split at h7 <;> omega)
      | (go_ret2; rw [HE.out]; exact ⟨rfl, Below.refl _ _⟩)

/-- what reads a text back, as a value -/
def readFn (sq : Bool) : Nat := if sq then 104 else 106
def Read (sq : Bool) (most : Int) (w : World) (v : Value) : Prop := ∃ p, v = .func (.func (readFn sq)) #[] #[.pointer (some ⟨p, 0, none⟩)] ∧ p < w.heap.size ∧ w.cell? ⟨p, 0, none⟩ = some (.int .i64 most)
theorem Read.below {sq : Bool} {most : Int} {w w' : World} {v : Value} (h : Read sq most w v) (hb : Below w.heap.size w w') : Read sq most w' v := by
  obtain ⟨p, h1, h2, h3⟩ := h
  exact ⟨p, h1, Nat.lt_of_lt_of_le h2 hb.size, (hb.cell (p := ⟨p, 0, none⟩) h2).trans h3⟩
theorem readBack_any (sq : Bool) (most : Int) (w : World) :
    Calls Tryd.prog 101 #[.bool sq, .int .i64 most] w fun e w' => ∃ v, e = .returned v ∧ Read sq most w' v ∧ Below w.heap.size w w' := by
  have hmf : ∀ (fn : Fn) (first cap : Array Value) (w : World), (Instr.makeFunc fn first cap).run Tryd.prog w = .ok (.func fn first cap) w := fun _ _ _ _ => rfl
  cases sq
  all_goals
    go_enter Tryd.func101, Tryd.ntmps101
    go_wp2_with fail
    go_ret
    refine ⟨_, rfl, ⟨w.heap.size, rfl, by simp, ?_⟩, (Below.refl _ _).alloc (Nat.le_refl _) _⟩
    rw [World.cell?_alloc_at _ _ _ _ rfl]; rfl
/-- the call of what reads a text back -/
theorem read_gives (sq : Bool) (most : Int) (f v : Value) (own : List Int) (w : World) (hf : Read sq most w f) (hv : Sl .u8 w v own) (hz : own.length ≤ 1000000) :
    ∃ p, f = .func (.func (readFn sq)) #[] #[.pointer (some ⟨p, 0, none⟩)] ∧ Calls Tryd.prog (readFn sq) #[v, .pointer (some ⟨p, 0, none⟩)] w fun e w' => e = .returned (readV (readL sq most own)) ∧ Below w.heap.size w w' := by
  obtain ⟨p, h1, _, h3⟩ := hf
  refine ⟨p, h1, ?_⟩
  cases sq
  · exact read2_any most p v own w hv h3
  · exact read1_any most p v own w hv hz h3

set_option maxHeartbeats 2000000 in
set_option maxRecDepth 20000 in
theorem litDec_any (v : Value) (zs : List Int) (most : Int) (w : World) (hv : Sl .u8 w v zs) (hz : zs.length ≤ 1000000) :
    Calls Tryd.prog 87 #[v, .int .i64 most] w fun e w' => e = .returned (tupL (decL most zs)) ∧ Below w.heap.size w w' := by
  have hfit := hv.fit
  obtain ⟨a, cap, rfl, _⟩ := id hv
  have HV := Lib.hid hv
  clear hv
  obtain ⟨n, p, e, hd⟩ : ∃ n p e, decP (fullP 7) zs = (n, p, e) := ⟨_, _, _, rfl⟩
  by_cases h0 : e = 0
  · subst h0
    have hok := decP_ok hfit (by rw [hd])
    rw [hd] at hok
    simp only [] at hok
    obtain ⟨n0, n1, p1, p2⟩ := hok
    by_cases hm : zs.length - p < n
    · have HE := Lib.hid (decL_more (most := most) hd hm)
      have HD := Lib.hid hd
      have d1 : decide ((zs.length : Int) - p < n) = true := decide_eq_true hm
      clear hm hd
      go_enter Tryd.func87, Tryd.ntmps87
      go_wp2_with fail
      refine (prefDec_yes _ zs 7 _ HV.out (by decide)).mono ?_
      rintro e w' ⟨rfl, k, rfl⟩
      rw [HD.out, tup3]
      go_wp2_with fail
      go_ret3
      rw [HE.out]
      exact ⟨rfl, below_drewN (Below.refl _ _) k⟩
    · have hl := cutL_length hd n0 (by omega) (by omega)
      have HR := Lib.hid (decL_read (most := most) hd n0 (by omega) hm)
      have HC := Lib.hid (show cutL zs = (zs.take (p + n).toNat).drop p.toNat by rw [cutL, hd])
      have HD := Lib.hid hd
      have d1 : decide ((zs.length : Int) - p < n) = false := decide_eq_false hm
      clear hd
      obtain ⟨ov, hov, hos⟩ := Sl.range Tryd.slice22 Tryd.size22 HV.out p (p + n) (by omega) (by omega) (by omega)
      rw [← HC.out] at hos
      have HO := Lib.hid hos
      have hcl : (cutL zs).length ≤ 1000000 := by omega
      obtain ⟨b, off, rfl, hbs, hcx⟩ : ∃ b off, a = some ⟨b, off, none⟩ ∧ b < w.heap.size ∧ w.cell? ⟨b, off, none⟩ = some (.int .u8 (at0 zs 0)) := by
        rcases HV.out.parts with ⟨h0, _⟩ | ⟨hp, b, off, c2, he, _, _, h1, h2⟩
        · rw [h0] at p2; simp at p2; omega
        · simp only [Value.slice.injEq] at he
          exact ⟨b, off, he.1, h1, by simpa using h2 0 hp⟩
      have hb0 := hfit.byte 0
      obtain ⟨z, hz0⟩ : ∃ z, at0 zs 0 = z := ⟨_, rfl⟩
      rw [hz0] at hcx hb0 HR
      obtain ⟨sq, hsq⟩ : ∃ sq, decide (128 ≤ z) = sq := ⟨_, rfl⟩
      rw [hsq] at HR
      have HSQ := Lib.hid hsq
      obtain ⟨d, hdd⟩ : ∃ d, readL sq most (cutL zs) = d := ⟨_, rfl⟩
      rw [hdd] at HR
      have HDD := Lib.hid hdd
      have HCX := Lib.hid hcx
      clear hsq hdd hos hcx hm
      go_enter Tryd.func87, Tryd.ntmps87
      go_wp2_with fail
      refine (prefDec_yes _ zs 7 _ HV.out (by decide)).mono ?_
      rintro e w' ⟨rfl, k, rfl⟩
      rw [HD.out, tup3]
      go_wp2_with fail
      have HB0 := Lib.hid (below_drewN (Below.refl w.heap.size w) k)
      have HV1 := Lib.hid (HO.out.drewN k)
      have HC1 : Hid ((w.drewN k).cell? ⟨b, off, none⟩ = some (.int .u8 z)) := HCX.out
      have hbs1 : b < (w.drewN k).heap.size := hbs
      refine wp_region_late 14 [31, 32, 33, 34, 35, 36, 37, 38, 39, 40, 41, 30, 42, 43]
        [[], [(0, 31)], [(1, 32)], [(2, 33)], [], [(3, 34), (4, 35)], [], [], [], [(6, 37), (7, 38), (8, 39)], [(5, 36), (9, 40)], [(10, 41)], [(11, 30)], [(11, 30)]] [13]
        (fun i v w' => match i with
          | 0 => v = .slice (some ⟨b, off, none⟩) zs.length cap
          | 1 => v = .pointer (some ⟨b, off, none⟩)
          | 2 => v = .int .u8 z
          | 3 => v = .bool sq
          | 4 => v = .int .i64 most
          | 5 => Read sq most w' v
          | 6 => v = .slice (some ⟨b, off, none⟩) zs.length cap
          | 7 => v = .int .i64 p
          | 8 => v = .int .i64 (p + n)
          | 9 => v = ov
          | 10 => v = readV d
          | 11 => v = readV d
          | 12 => v = .string (strOfNums d.1)
          | 13 => v = .int .i64 d.2
          | _ => True) (by kernel_rfl) (by kernel_rfl) ?tStab ?tOps ?tLate ?tRest
      case tStab =>
        intro i v w3 w4 h hb
        match i, h with
        | 0, h | 1, h | 2, h | 3, h | 4, h | 6, h | 7, h | 8, h | 9, h | 10, h | 11, h | 12, h | 13, h => exact h
        | 5, h => exact Read.below h hb
        | i + 14, _ => trivial
      case tOps =>
        have ix : ∀ (q : IntKind) (W : World), (Instr.indexAt 30 (.slice (some ⟨b, off, none⟩) zs.length cap) (.int q 0)).run Tryd.prog W = .ok (.pointer (some ⟨b, off, none⟩)) W := fun q W => sl_index Tryd.slice22 Tryd.size22 b off _ _ 0 (by omega) q W
        have hcx3 : ∀ {W3 : World}, Below (w.drewN k).heap.size (w.drewN k) W3 → W3.cell? ⟨b, off, none⟩ = some (.int .u8 z) := fun h => (h.cell (p := ⟨b, off, none⟩) hbs1).trans HC1.out
        simp only [List.take_succ_cons, List.take_zero, opsOk]
        refine ⟨?_, ?_, ?_, ?_, ?_, ?_, ?_, ?_, ?_, ?_, ?_, ?_, ?_, ?_, trivial⟩
        · intro ρ w3 hc hf ho hB2 hj
          have x0 : ρ (.tmp 0) = .slice (some ⟨b, off, none⟩) zs.length cap := ho 0 (by decide)
          simp [gives, go_sem, x0, Below.refl]
        · intro ρ w3 hc hf ho hB2 hj
          have x0 : ρ (.tmp 31) = .slice (some ⟨b, off, none⟩) zs.length cap := hj (0, 31) (by simp)
          simp [gives, go_sem, x0, hc, ix, Below.refl]
        · intro ρ w3 hc hf ho hB2 hj
          have x0 : ρ (.tmp 32) = .pointer (some ⟨b, off, none⟩) := hj (1, 32) (by simp)
          have cc := hcx3 hB2
          simp [gives, go_sem, x0, cc, Below.refl]
        · intro ρ w3 hc hf ho hB2 hj
          have x0 : ρ (.tmp 33) = .int .u8 z := hj (2, 33) (by simp)
          simp [gives, go_sem, x0, hc, Below.refl, HSQ.out]
        · intro ρ w3 hc hf ho hB2 hj
          have x0 : ρ (.tmp 1) = .int .i64 most := ho 1 (by decide)
          simp [gives, go_sem, x0, Below.refl]
        · intro ρ w3 hc hf ho hB2 hj
          have x0 : ρ (.tmp 34) = .bool sq := hj (3, 34) (by simp)
          have x1 : ρ (.tmp 35) = .int .i64 most := hj (4, 35) (by simp)
          simp [gives, go_sem, x0, x1, hf]
          exact readBack_any sq most _
        · intro ρ w3 hc hf ho hB2 hj
          have x0 : ρ (.tmp 0) = .slice (some ⟨b, off, none⟩) zs.length cap := ho 0 (by decide)
          simp [gives, go_sem, x0, Below.refl]
        · intro ρ w3 hc hf ho hB2 hj
          have x0 : ρ (.tmp 8) = .int .i64 p := ho 8 (by decide)
          simp [gives, go_sem, x0, Below.refl]
        · intro ρ w3 hc hf ho hB2 hj
          have x0 : ρ (.tmp 10) = .int .i64 (p + n) := ho 10 (by decide)
          simp [gives, go_sem, x0, Below.refl]
        · intro ρ w3 hc hf ho hB2 hj
          have x0 : ρ (.tmp 37) = .slice (some ⟨b, off, none⟩) zs.length cap := hj (6, 37) (by simp)
          have x1 : ρ (.tmp 38) = .int .i64 p := hj (7, 38) (by simp)
          have x2 : ρ (.tmp 39) = .int .i64 (p + n) := hj (8, 39) (by simp)
          simp [gives, go_sem, x0, x1, x2, hov, Below.refl]
        · intro ρ w3 hc hf ho hB2 hj
          have x0 : Read sq most w3 (ρ (.tmp 36)) := hj (5, 36) (by simp)
          have x1 : ρ (.tmp 40) = ov := hj (9, 40) (by simp)
          obtain ⟨q, hq, hcall⟩ := read_gives sq most _ ov (cutL zs) w3 x0 (HV1.out.below hB2) hcl
          rw [HDD.out] at hcall
          cases sq
          · simp only [readFn, Bool.false_eq_true, if_false] at hq hcall
            simp [gives, go_sem, hq, x1]
            refine hcall.mono ?_
            rintro e w4 ⟨rfl, hb4⟩
            exact ⟨_, rfl, rfl, hb4⟩
          · simp only [readFn, if_true] at hq hcall
            simp [gives, go_sem, hq, x1]
            refine hcall.mono ?_
            rintro e w4 ⟨rfl, hb4⟩
            exact ⟨_, rfl, rfl, hb4⟩
        · intro ρ w3 hc hf ho hB2 hj
          have x0 : ρ (.tmp 41) = readV d := hj (10, 41) (by simp)
          simp [gives, go_sem, x0, Below.refl]
        · intro ρ w3 hc hf ho hB2 hj
          have x0 : ρ (.tmp 30) = readV d := hj (11, 30) (by simp)
          rw [readV] at x0
          simp [gives, go_sem, x0, Below.refl]
        · intro ρ w3 hc hf ho hB2 hj
          have x0 : ρ (.tmp 30) = readV d := hj (11, 30) (by simp)
          rw [readV] at x0
          simp [gives, go_sem, x0, Below.refl]
      case tLate =>
        intro i hi _ o ho
        simp only [List.mem_cons, List.not_mem_nil, or_false] at hi
        subst hi
        obtain rfl := Option.some.inj ho
        intro ρ w3 hc _ _ hj
        have x0 : ρ (.tmp 30) = readV d := hj (11, 30) (by simp)
        rw [readV] at x0
        exact ⟨_, fun w' => by simp [go_sem, x0], rfl⟩
      case tRest =>
        intro X w3 hBw hX
        have x10 : X 10 = readV d := hX 10 (by decide)
        have x11 : X 11 = readV d := hX 11 (by decide)
        have x12 : X 12 = .string (strOfNums d.1) := hX 12 (by decide)
        have x13 : X 13 = .int .i64 d.2 := hX 13 (by decide)
        simp only [putAll, List.getD_cons_zero, List.getD_cons_succ, Act.put, List.setIfInBounds_toArray, List.set_cons_zero, List.set_cons_succ, List.drop_succ_cons, List.drop_zero]
        rw [x10, x11, x12, x13, readV]
        have HB3 := Lib.hid (HB0.out.trans hBw)
        obtain ⟨dt, de⟩ := d
        clear hX hBw
        by_cases hde : de = 0
        · have HE : Hid (decL most zs = (dt, p + n, 0)) := by show _ = _; rw [HR.out, hde, if_neg (by simp)]
          subst hde
          go_wp2_with fail
          refine Calm.intro ?_
          go_wp2_with fail
          go_ret3
          rw [HE.out]
          exact ⟨rfl, HB3.out⟩
        · have HE : Hid (decL most zs = ([], 0, de)) := by show _ = _; rw [HR.out, if_pos hde]
          have d2 : (de != 0) = true := by simp [hde]
          go_wp2_with fail
          refine Calm.intro ?_
          go_wp2_with fail
          go_ret3
          rw [HE.out]
          exact ⟨rfl, HB3.out⟩
  · have HE := Lib.hid (decL_err (most := most) hd h0)
    have HD := Lib.hid hd
    have d1 : decide (e = 0) = false := decide_eq_false h0
    clear hd
    go_enter Tryd.func87, Tryd.ntmps87
    go_wp2_with fail
    refine (prefDec_yes _ zs 7 _ HV.out (by decide)).mono ?_
    rintro e w' ⟨rfl, k, rfl⟩
    rw [HD.out, tup3]
    go_wp2_with fail
    go_ret3
    rw [HE.out]
    exact ⟨rfl, below_drewN (Below.refl _ _) k⟩
end Go.Proofs.YtenapfpkegoonaaDoor

/-
  What an item's bytes are, and which item bytes begin with.
-/
namespace Go.Proofs.YtenapfpkegoonaaDoor
open Go.RowKit

/-- the texts' bytes -/
def nameI (k n : Int) (a : ByteArray) : List Int := if textsI k then (if n = 0 then litS (nums a) else []) else []
def valI (k : Int) (b : ByteArray) : List Int := if textsI k then litS (nums b) else []
/-- an item's bytes -/
def encI (k n : Int) (a b : ByteArray) : List Int := encP (fullP (bitsI k)) (aboveI k) n ++ nameI k n a ++ valI k b

/-- what Decode answers -/
structure DecO where
  k : Int
  n : Int
  a : List Int
  b : List Int
  at_ : Int
  e : Int
def DecO.err (e : Int) : DecO := ⟨0, 0, [], [], 0, e⟩
/-- a value behind so many bytes -/
def decV (most : Int) (zs : List Int) (k n : Int) (a : List Int) (p : Int) : DecO :=
  if (decL (min most 65536) (zs.drop p.toNat)).2.2 ≠ 0 then .err (decL (min most 65536) (zs.drop p.toNat)).2.2
  else ⟨k, n, a, (decL (min most 65536) (zs.drop p.toNat)).1, p + (decL (min most 65536) (zs.drop p.toNat)).2.1, 0⟩
/-- a name and a value -/
def decNV (most : Int) (zs : List Int) (k n : Int) (p : Int) : DecO :=
  if (decL (min most 65536) (zs.drop p.toNat)).2.2 ≠ 0 then .err (decL (min most 65536) (zs.drop p.toNat)).2.2
  else decV most zs k n (decL (min most 65536) (zs.drop p.toNat)).1 (p + (decL (min most 65536) (zs.drop p.toNat)).2.1)
def decI (most : Int) (zs : List Int) : DecO :=
  if zs.length = 0 then .err 2
  else if (decP (fullP (bitsI (kindI (at0 zs 0)))) zs).2.2 ≠ 0 then .err (decP (fullP (bitsI (kindI (at0 zs 0)))) zs).2.2
  else if (decP (fullP (bitsI (kindI (at0 zs 0)))) zs).1 < leastI (kindI (at0 zs 0)) then .err 3
  else if textsI (kindI (at0 zs 0)) then
    if (decP (fullP (bitsI (kindI (at0 zs 0)))) zs).1 = 0 then decNV most zs (kindI (at0 zs 0)) 0 (decP (fullP (bitsI (kindI (at0 zs 0)))) zs).2.1
    else decV most zs (kindI (at0 zs 0)) (decP (fullP (bitsI (kindI (at0 zs 0)))) zs).1 [] (decP (fullP (bitsI (kindI (at0 zs 0)))) zs).2.1
  else ⟨kindI (at0 zs 0), (decP (fullP (bitsI (kindI (at0 zs 0)))) zs).1, [], [], (decP (fullP (bitsI (kindI (at0 zs 0)))) zs).2.1, 0⟩
/-- as a value -/
def DecO.val (d : DecO) : Value := .tuple #[itV d.k d.n (strOfNums d.a) (strOfNums d.b), .int .i64 d.at_, .int .i64 d.e]

theorem bitsI_bound (k : Int) : 4 ≤ bitsI k ∧ bitsI k ≤ 7 := by unfold bitsI; split <;> (try split) <;> (try split) <;> omega
theorem aboveI_ok {k : Int} (h0 : 0 ≤ k) (h4 : k < 5) : 0 ≤ aboveI k ∧ aboveI k ≤ 255 ∧ aboveI k % (fullP (bitsI k) + 1) = 0 := by
  rcases kind_cases h0 h4 with rfl | rfl | rfl | rfl | rfl <;> decide
theorem leastI_nn (k : Int) : 0 ≤ leastI k ∧ leastI k ≤ 1 := by unfold leastI; split <;> omega
theorem rightI.num {k n : Int} {a b : ByteArray} (h : rightI k n a b) : 0 ≤ n ∧ n ≤ 16777215 := by
  have := leastI_nn k
  have h2 := h.2.1
  exact ⟨by omega, h.2.2.1⟩
theorem rightI.enc {k n : Int} {a b : ByteArray} (h : rightI k n a b) : encOk n (bitsI k) (aboveI k) := by
  have h1 := bitsI_bound k
  exact ⟨h.num, ⟨by omega, by omega⟩, aboveI_ok h.1.1 h.1.2⟩
theorem litS_fit {zs : List Int} (hf : Fit .u8 zs) (hz : zs.length ≤ 1000000) : Fit .u8 (litS zs) := lit_fit _ hf hz
theorem litS_length {zs : List Int} (hf : Fit .u8 zs) (hz : zs.length ≤ 1000000) : 1 ≤ (litS zs).length ∧ (litS zs).length ≤ 4 * zs.length + 5 := lit_length _ hf hz
end Go.Proofs.YtenapfpkegoonaaDoor

/-
  The document's own answers for layer 8: which items may be, the kinds.
-/
namespace Go.Proofs.YtenapfpkegoonaaDoor
set_option maxRecDepth 20000
open Go.RowKit

theorem decide_size {s : ByteArray} : decide (s.size = 0) = s.toList.isEmpty := decide_toList ⟨size_nil, fun h => by rw [h]; rfl⟩
theorem rightI_0 (n : Int) (a b : ByteArray) (h1 : n ≤ 16777215) : decide (rightI 0 n a b) = (decide (1 ≤ n) && (a.toList.isEmpty && b.toList.isEmpty)) := by
  rw [← decide_size, ← decide_size, Bool.eq_iff_iff]
  simp only [Bool.and_eq_true, decide_eq_true_iff]
  unfold rightI leastI textsI
  simp [h1]
theorem rightI_t (k n : Int) (a b : ByteArray) (hk : k = 1 ∨ k = 2 ∨ k = 3) (h0 : 0 ≤ n) (h1 : n ≤ 16777215) (ha : a.size ≤ 65536) (hb : b.size ≤ 65536) : decide (rightI k n a b) = ((n == 0) || a.toList.isEmpty) := by
  rw [← decide_size, Bool.eq_iff_iff]
  simp only [Bool.or_eq_true, decide_eq_true_iff, beq_iff_eq]
  unfold rightI leastI textsI
  rcases hk with rfl | rfl | rfl <;> by_cases h : n = 0 <;> simp [h, h0, h1, ha, hb]
theorem rightI_4 (n : Int) (a b : ByteArray) (h0 : 0 ≤ n) (h1 : n ≤ 16777215) : decide (rightI 4 n a b) = (a.toList.isEmpty && b.toList.isEmpty) := by
  rw [← decide_size, ← decide_size, Bool.eq_iff_iff]
  simp only [Bool.and_eq_true, decide_eq_true_iff]
  unfold rightI leastI textsI
  simp [h0, h1]
theorem rightI_kind {k n : Int} {a b : ByteArray} (h : ¬ (0 ≤ k ∧ k < 5)) : decide (rightI k n a b) = false := decide_eq_false (fun x => h x.1)
theorem rightI_sizes {k n : Int} {a b : ByteArray} (h : rightI k n a b) : a.size ≤ 65536 ∧ b.size ≤ 65536 := by
  by_cases ht : textsI k = true
  · have := h.2.2.2.1 ht; exact ⟨this.1, this.2.1⟩
  · have := h.2.2.2.2 (by simpa using ht); omega

set_option maxHeartbeats 1000000 in
theorem refRight_0 (k n : Int) (a b : ByteArray) (w : World) (h1 : 0 ≤ n ∧ n ≤ 16777215 ∧ a.size ≤ 65536 ∧ b.size ≤ 65536) (hk : k = 0) :
    Calls Tryd.prog 59 #[itV k n a b] w fun e w' => e = .returned (.bool (decide (rightI k n a b))) ∧ Below w.heap.size w w' := by
  unfold itV
  subst hk
  have HD := Lib.hid (rightI_0 n a b h1.2.1)
  have d1 : decide (n < 0) = false := decide_eq_false (by omega)
  have d2 : decide (16777215 < n) = false := decide_eq_false (by omega)
  have d3 : decide (65536 < (a.size : Int)) = false := decide_eq_false (by omega)
  have d4 : decide (65536 < (b.size : Int)) = false := decide_eq_false (by omega)
  clear h1
  go_enter Tryd.func59, Tryd.ntmps59
  go_wp2_with fail
  all_goals
    go_ret
    exact ⟨by rw [HD.out]; first | (simp [*]; done) | (simp [*]; intros; omega), (Below.refl _ _).alloc (Nat.le_refl _) _⟩
set_option maxHeartbeats 1000000 in
theorem refRight_1 (k n : Int) (a b : ByteArray) (w : World) (h1 : 0 ≤ n ∧ n ≤ 16777215 ∧ a.size ≤ 65536 ∧ b.size ≤ 65536) (hk : k = 1) :
    Calls Tryd.prog 59 #[itV k n a b] w fun e w' => e = .returned (.bool (decide (rightI k n a b))) ∧ Below w.heap.size w w' := by
  unfold itV
  subst hk
  have HD := Lib.hid (rightI_t 1 n a b (by decide) h1.1 h1.2.1 h1.2.2.1 h1.2.2.2)
  have d1 : decide (n < 0) = false := decide_eq_false (by omega)
  have d2 : decide (16777215 < n) = false := decide_eq_false (by omega)
  have d3 : decide (65536 < (a.size : Int)) = false := decide_eq_false (by omega)
  have d4 : decide (65536 < (b.size : Int)) = false := decide_eq_false (by omega)
  clear h1
  go_enter Tryd.func59, Tryd.ntmps59
  go_wp2_with fail
  all_goals
    go_ret
    exact ⟨by rw [HD.out]; first | (simp [*]; done) | (simp [*]; intros; omega), (Below.refl _ _).alloc (Nat.le_refl _) _⟩
set_option maxHeartbeats 1000000 in
theorem refRight_2 (k n : Int) (a b : ByteArray) (w : World) (h1 : 0 ≤ n ∧ n ≤ 16777215 ∧ a.size ≤ 65536 ∧ b.size ≤ 65536) (hk : k = 2) :
    Calls Tryd.prog 59 #[itV k n a b] w fun e w' => e = .returned (.bool (decide (rightI k n a b))) ∧ Below w.heap.size w w' := by
  unfold itV
  subst hk
  have HD := Lib.hid (rightI_t 2 n a b (by decide) h1.1 h1.2.1 h1.2.2.1 h1.2.2.2)
  have d1 : decide (n < 0) = false := decide_eq_false (by omega)
  have d2 : decide (16777215 < n) = false := decide_eq_false (by omega)
  have d3 : decide (65536 < (a.size : Int)) = false := decide_eq_false (by omega)
  have d4 : decide (65536 < (b.size : Int)) = false := decide_eq_false (by omega)
  clear h1
  go_enter Tryd.func59, Tryd.ntmps59
  go_wp2_with fail
  all_goals
    go_ret
    exact ⟨by rw [HD.out]; first | (simp [*]; done) | (simp [*]; intros; omega), (Below.refl _ _).alloc (Nat.le_refl _) _⟩
set_option maxHeartbeats 1000000 in
theorem refRight_3 (k n : Int) (a b : ByteArray) (w : World) (h1 : 0 ≤ n ∧ n ≤ 16777215 ∧ a.size ≤ 65536 ∧ b.size ≤ 65536) (hk : k = 3) :
    Calls Tryd.prog 59 #[itV k n a b] w fun e w' => e = .returned (.bool (decide (rightI k n a b))) ∧ Below w.heap.size w w' := by
  unfold itV
  subst hk
  have HD := Lib.hid (rightI_t 3 n a b (by decide) h1.1 h1.2.1 h1.2.2.1 h1.2.2.2)
  have d1 : decide (n < 0) = false := decide_eq_false (by omega)
  have d2 : decide (16777215 < n) = false := decide_eq_false (by omega)
  have d3 : decide (65536 < (a.size : Int)) = false := decide_eq_false (by omega)
  have d4 : decide (65536 < (b.size : Int)) = false := decide_eq_false (by omega)
  clear h1
  go_enter Tryd.func59, Tryd.ntmps59
  go_wp2_with fail
  all_goals
    go_ret
    exact ⟨by rw [HD.out]; first | (simp [*]; done) | (simp [*]; intros; omega), (Below.refl _ _).alloc (Nat.le_refl _) _⟩
set_option maxHeartbeats 1000000 in
theorem refRight_4 (k n : Int) (a b : ByteArray) (w : World) (h1 : 0 ≤ n ∧ n ≤ 16777215 ∧ a.size ≤ 65536 ∧ b.size ≤ 65536) (hk : k = 4) :
    Calls Tryd.prog 59 #[itV k n a b] w fun e w' => e = .returned (.bool (decide (rightI k n a b))) ∧ Below w.heap.size w w' := by
  unfold itV
  subst hk
  have HD := Lib.hid (rightI_4 n a b h1.1 h1.2.1)
  have d1 : decide (n < 0) = false := decide_eq_false (by omega)
  have d2 : decide (16777215 < n) = false := decide_eq_false (by omega)
  have d3 : decide (65536 < (a.size : Int)) = false := decide_eq_false (by omega)
  have d4 : decide (65536 < (b.size : Int)) = false := decide_eq_false (by omega)
  clear h1
  go_enter Tryd.func59, Tryd.ntmps59
  go_wp2_with fail
  all_goals
    go_ret
    exact ⟨by rw [HD.out]; first | (simp [*]; done) | (simp [*]; intros; omega), (Below.refl _ _).alloc (Nat.le_refl _) _⟩
set_option maxHeartbeats 1000000 in
theorem refRight_kind (k n : Int) (a b : ByteArray) (w : World) (h1 : 0 ≤ n ∧ n ≤ 16777215 ∧ a.size ≤ 65536 ∧ b.size ≤ 65536) (hk : ¬ (0 ≤ k ∧ k < 5)) :
    Calls Tryd.prog 59 #[itV k n a b] w fun e w' => e = .returned (.bool (decide (rightI k n a b))) ∧ Below w.heap.size w w' := by
  unfold itV
  have HD := Lib.hid (rightI_kind (n := n) (a := a) (b := b) hk)
  have d1 : decide (n < 0) = false := decide_eq_false (by omega)
  have d2 : decide (16777215 < n) = false := decide_eq_false (by omega)
  have d3 : decide (65536 < (a.size : Int)) = false := decide_eq_false (by omega)
  have d4 : decide (65536 < (b.size : Int)) = false := decide_eq_false (by omega)
  have e0 : (k == 0) = false := by simp; omega
  have e1 : (k == 1) = false := by simp; omega
  have e2 : (k == 2) = false := by simp; omega
  have e3 : (k == 3) = false := by simp; omega
  have e4 : (k == 4) = false := by simp; omega
  clear h1 hk
  go_enter Tryd.func59, Tryd.ntmps59
  go_wp2_with fail
  all_goals
    go_ret
    exact ⟨by rw [HD.out]; first | (simp [*]; done) | (simp [*]; intros; omega), (Below.refl _ _).alloc (Nat.le_refl _) _⟩
set_option maxHeartbeats 1000000 in
theorem refRight_no (k n : Int) (a b : ByteArray) (w : World) (h1 : ¬ (0 ≤ n ∧ n ≤ 16777215 ∧ a.size ≤ 65536 ∧ b.size ≤ 65536)) :
    Calls Tryd.prog 59 #[itV k n a b] w fun e w' => e = .returned (.bool (decide (rightI k n a b))) ∧ Below w.heap.size w w' := by
  unfold itV
  have HN := Lib.hid h1
  have HD : Hid (decide (rightI k n a b) = false) := decide_eq_false (fun x => h1 ⟨x.num.1, x.num.2, rightI_sizes x⟩)
  clear h1
  by_cases c1 : n < 0
  · have d1 : decide (n < 0) = true := decide_eq_true c1
    clear c1
    go_enter Tryd.func59, Tryd.ntmps59
    go_wp2_with fail
    all_goals
      go_ret
      exact ⟨by rw [HD.out]; first | (simp [*]; done) | (simp [*]; intros; omega), (Below.refl _ _).alloc (Nat.le_refl _) _⟩
  by_cases c2 : 16777215 < n
  · have d1 : decide (n < 0) = false := decide_eq_false c1
    have d2 : decide (16777215 < n) = true := decide_eq_true c2
    clear c1 c2
    go_enter Tryd.func59, Tryd.ntmps59
    go_wp2_with fail
    all_goals
      go_ret
      exact ⟨by rw [HD.out]; first | (simp [*]; done) | (simp [*]; intros; omega), (Below.refl _ _).alloc (Nat.le_refl _) _⟩
  by_cases c3 : 65536 < (a.size : Int)
  · have d1 : decide (n < 0) = false := decide_eq_false c1
    have d2 : decide (16777215 < n) = false := decide_eq_false c2
    have d3 : decide (65536 < (a.size : Int)) = true := decide_eq_true c3
    clear c1 c2 c3
    go_enter Tryd.func59, Tryd.ntmps59
    go_wp2_with fail
    all_goals
      go_ret
      exact ⟨by rw [HD.out]; first | (simp [*]; done) | (simp [*]; intros; omega), (Below.refl _ _).alloc (Nat.le_refl _) _⟩
  · have d1 : decide (n < 0) = false := decide_eq_false c1
    have d2 : decide (16777215 < n) = false := decide_eq_false c2
    have d3 : decide (65536 < (a.size : Int)) = false := decide_eq_false c3
    have d4 : decide (65536 < (b.size : Int)) = true := decide_eq_true (by have := HN.out; omega)
    clear c1 c2 c3
    go_enter Tryd.func59, Tryd.ntmps59
    go_wp2_with fail
    all_goals
      go_ret
      exact ⟨by rw [HD.out]; first | (simp [*]; done) | (simp [*]; intros; omega), (Below.refl _ _).alloc (Nat.le_refl _) _⟩
theorem refRight_any (k n : Int) (a b : ByteArray) (w : World) :
    Calls Tryd.prog 59 #[itV k n a b] w fun e w' => e = .returned (.bool (decide (rightI k n a b))) ∧ Below w.heap.size w w' := by
  by_cases h1 : 0 ≤ n ∧ n ≤ 16777215 ∧ a.size ≤ 65536 ∧ b.size ≤ 65536
  · by_cases hk : 0 ≤ k ∧ k < 5
    · rcases kind_cases hk.1 hk.2 with h | h | h | h | h
      · exact refRight_0 k n a b w h1 h
      · exact refRight_1 k n a b w h1 h
      · exact refRight_2 k n a b w h1 h
      · exact refRight_3 k n a b w h1 h
      · exact refRight_4 k n a b w h1 h
    · exact refRight_kind k n a b w h1 hk
  · exact refRight_no k n a b w h1

theorem refBits_any (k : Int) (w : World) (h0 : 0 ≤ k) (h4 : k < 5) :
    Calls Tryd.prog 47 #[.int .i64 k] w fun e w' => e = .returned (.int .i64 (bitsI k)) ∧ w = w' := by
  rcases kind_cases h0 h4 with rfl | rfl | rfl | rfl | rfl
  all_goals
    clear h0 h4
    go_enter Tryd.func47, Tryd.ntmps47
    go_wp2
    go_ret
    exact ⟨rfl, rfl⟩
theorem refAbove_any (k : Int) (w : World) (h0 : 0 ≤ k) (h4 : k < 5) :
    Calls Tryd.prog 61 #[.int .i64 k] w fun e w' => e = .returned (.int .i64 (aboveI k)) ∧ w = w' := by
  rcases kind_cases h0 h4 with rfl | rfl | rfl | rfl | rfl
  all_goals
    clear h0 h4
    go_enter Tryd.func61, Tryd.ntmps61
    go_wp2
    go_ret
    exact ⟨rfl, rfl⟩
theorem refKind_any (c : Int) (w : World) :
    Calls Tryd.prog 45 #[.int .u8 c] w fun e w' => e = .returned (.int .i64 (kindI c)) ∧ w = w' := by
  obtain ⟨K, hK⟩ : ∃ K, kindI c = K := ⟨_, rfl⟩
  have HK := Lib.hid hK
  rw [hK]
  clear hK
  by_cases c1 : 128 ≤ c
  · have d1 : decide (128 ≤ c) = true := decide_eq_true c1
    have HE : Hid (K = 0) := by show K = 0; rw [← HK.out, kindI, if_pos c1]
    clear c1
    go_enter Tryd.func45, Tryd.ntmps45
    go_wp2
    go_ret
    exact ⟨by rw [HE.out]; rfl, rfl⟩
  by_cases c2 : 64 ≤ c
  · have d1 : decide (128 ≤ c) = false := decide_eq_false c1
    have d2 : decide (64 ≤ c) = true := decide_eq_true c2
    have HE : Hid (K = 1) := by show K = 1; rw [← HK.out, kindI, if_neg c1, if_pos c2]
    clear c1 c2
    go_enter Tryd.func45, Tryd.ntmps45
    go_wp2
    go_ret
    exact ⟨by rw [HE.out]; rfl, rfl⟩
  by_cases c3 : 32 ≤ c
  · have d1 : decide (128 ≤ c) = false := decide_eq_false c1
    have d2 : decide (64 ≤ c) = false := decide_eq_false c2
    have d3 : decide (32 ≤ c) = true := decide_eq_true c3
    have HE : Hid (K = 4) := by show K = 4; rw [← HK.out, kindI, if_neg c1, if_neg c2, if_pos c3]
    clear c1 c2 c3
    go_enter Tryd.func45, Tryd.ntmps45
    go_wp2
    go_ret
    exact ⟨by rw [HE.out]; rfl, rfl⟩
  by_cases c4 : 16 ≤ c
  · have d1 : decide (128 ≤ c) = false := decide_eq_false c1
    have d2 : decide (64 ≤ c) = false := decide_eq_false c2
    have d3 : decide (32 ≤ c) = false := decide_eq_false c3
    have d4 : decide (16 ≤ c) = true := decide_eq_true c4
    have HE : Hid (K = 3) := by show K = 3; rw [← HK.out, kindI, if_neg c1, if_neg c2, if_neg c3, if_pos c4]
    clear c1 c2 c3 c4
    go_enter Tryd.func45, Tryd.ntmps45
    go_wp2
    go_ret
    exact ⟨by rw [HE.out]; rfl, rfl⟩
  · have d1 : decide (128 ≤ c) = false := decide_eq_false c1
    have d2 : decide (64 ≤ c) = false := decide_eq_false c2
    have d3 : decide (32 ≤ c) = false := decide_eq_false c3
    have d4 : decide (16 ≤ c) = false := decide_eq_false c4
    have HE : Hid (K = 2) := by show K = 2; rw [← HK.out, kindI, if_neg c1, if_neg c2, if_neg c3, if_neg c4]
    clear c1 c2 c3 c4
    go_enter Tryd.func45, Tryd.ntmps45
    go_wp2
    go_ret
    exact ⟨by rw [HE.out]; rfl, rfl⟩
end Go.Proofs.YtenapfpkegoonaaDoor

/-
  The statements of layer 4: their live question, its closed answers.
-/
namespace Go.Proofs.YtenapfpkegoonaaDoor
set_option maxRecDepth 20000
open Go.RowKit

theorem enc_any (v : Value) (zs : List Int) (w : World) (hv : Sl .u8 w v zs) (hz : zs.length ≤ 1000000) :
    Calls Tryd.prog 97 #[v] w fun e w' => ∃ v', e = .returned v' ∧ Sl .u8 w' v' (enc zs) ∧ Below w.heap.size w w' :=
  (enc_own v zs w hv hz).mono fun e w' ⟨v', he, hO, hb⟩ => ⟨v', he, Sl.of_own hO (enc_fit _) (by have := sizeT_le zs hv.fit; rw [enc_length]; unfold maxLen; omega), hb⟩

/-- a text of the live question, and its bytes -/
def aText : List Int := [119, 119, 119, 46, 101, 120, 97, 109, 112, 108, 101, 46, 99, 111, 109]
def aBytes : List Int := [241, 227, 194, 229, 242, 58, 107, 160, 171, 144, 244, 255]
def aHead : List Int := [119, 119, 119, 46, 101, 120, 97, 109, 112, 108, 101, 46, 99, 111]
def cText : List Int := [51, 48, 50]
theorem aFit : Fit .u8 aText := by intro n hn; revert n; decide
theorem aFitB : Fit .u8 aBytes := by intro n hn; revert n; decide
theorem aFitH : Fit .u8 aHead := by intro n hn; revert n; decide
theorem cFit : Fit .u8 cText := by intro n hn; revert n; decide
theorem enc_of {zs bs : List Int} (hf : Fit .u8 bs) (h : pad (bitsT zs) = bitsB bs) : enc zs = bs := by rw [enc, h, grp_bitsB bs hf]
theorem al_enc : enc aText = aBytes := enc_of aFitB (by decide +kernel)
theorem al_dec : decB 15 aBytes = (aText, 0) := by rw [← al_enc]; exact dec_enc aFit (by decide)
theorem al_full : decB 14 aBytes = ([], 4) := by
  rw [← al_enc, decB, bitsB_enc, pad, show bitsT aText = bitsT aHead ++ bitsT [109] by decide +kernel, List.append_assoc, dec_text aFitH (by decide)]
  rw [show bitsT [109] = bitsOf (len 109) (code 109) by decide +kernel, dec_code (by decide), if_pos (by decide)]
theorem dec_last {most : Int} {bs : List Nat} {out : List Int} : dec most (List.replicate 30 1 ++ bs) out 0 0 = ([], 3) := by
  have h : List.replicate 30 1 = (bitsOf (len 256) (code 256)).take 29 ++ [1] := by decide +kernel
  rw [h, List.append_assoc, dec_walk (by decide) (by rw [len_end]; decide), List.singleton_append]
  have e : 2 * (code 256 / 2 ^ (len 256 - 29)) + 1 = code 256 := by decide +kernel
  rw [dec_some (c := 256), if_pos rfl]
  rw [e, show 29 + 1 = len 256 from len_end.symm]
  exact look_is (by decide)
theorem al_end : decB 99 [255, 255, 255, 255] = ([], 3) := by
  rw [decB, show bitsB [255, 255, 255, 255] = List.replicate 30 1 ++ [1, 1] by decide +kernel]
  exact dec_last
theorem al_rest : decB 99 [24] = ([], 3) := by
  rw [decB, show bitsB [24] = bitsOf (len 97) (code 97) ++ [0, 0, 0] by decide +kernel, dec_code (by decide), if_neg (by decide), dec_none (look_short (by decide)), dec_none (look_short (by decide)), dec_none (look_short (by decide))]
  rfl
theorem al_enc2 : enc cText = [100, 2] := enc_of (by intro n hn; revert n; decide) (by decide +kernel)
theorem al_dec2 : decB 9 [100, 2] = (cText, 0) := by rw [← al_enc2]; exact dec_enc cFit (by decide)
theorem al_size : sizeT cText = 2 := by rw [← enc_length, al_enc2]; rfl
theorem al_len : lenZ 97 = 5 := by decide +kernel
theorem al_code : codeZ 97 = 3 := by decide +kernel
theorem al_codeE : codeZ 256 = 1073741823 := by decide +kernel

/-- a literal whose text is marked -/
theorem Sl.mark {k : IntKind} {w : World} {g n : Nat} {e : TypeId} {fr : Nat × Nat} {cs : Array Value} (zs : List Int) (hg : g = w.heap.size) (hc : cs = (zs.map (Value.int k)).toArray) (hn : n = zs.length) (hf : Fit k zs) (hm : zs.length ≤ maxLen) :
    Sl k (w.alloc (.cells cs e fr)) (.slice (some ⟨g, 0, none⟩) n n) zs := by
  subst hg; subst hc; subst hn
  refine ⟨_, _, rfl, Nat.le_refl _, hm, hf, .inr ⟨_, 0, rfl, by simp, fun i hi => ?_⟩⟩
  rw [Go.Joins.cell_alloc_mark_at _ _ _ _ _ _ rfl]
  simp [at0, hi]
theorem dec_is (v : Value) (zs : List Int) (most : Int) (w : World) (hv : Sl .u8 w v zs) (hz : zs.length ≤ 1000000) (t : List Int) (z : Int) (h : decB most zs = (t, z)) :
    Calls Tryd.prog 105 #[v, .int .i64 most] w fun e w' => ∃ v', e = .returned (.tuple #[v', .int .i64 z]) ∧ Sl .u8 w' v' t ∧ Below w.heap.size w w' := by
  have := dec_any v zs most w hv hz
  rw [h] at this
  exact this
end Go.Proofs.YtenapfpkegoonaaDoor

/-
  Package literal: how a text is laid out, its bytes, the shorter ones.
-/
namespace Go.Proofs.YtenapfpkegoonaaDoor
set_option maxRecDepth 20000
open Go.RowKit

theorem isText_any (s : ByteArray) (w : World) :
    Calls Tryd.prog 81 #[.string s] w fun e w' => e = .returned (.bool (decide (s.size ≤ 65536))) ∧ w = w' := by
  have HD := Lib.hid (show decide ((s.size : Int) ≤ 65536) = decide (s.size ≤ 65536) from decide_eq_decide.2 (by omega))
  go_enter Tryd.func81, Tryd.ntmps81
  go_wp2
  go_ret
  exact ⟨by rw [← HD.out]; rfl, rfl⟩

theorem lay1_any (s : ByteArray) (w : World) (hs : s.size ≤ 1000000) :
    Calls Tryd.prog 96 #[.string s] w fun e w' => ∃ v, e = .returned v ∧ Sl .u8 w' v (body true (nums s)) ∧ Below w.heap.size w w' := by
  obtain ⟨v, W, hc, hv, hb⟩ := str_bytes (P := Tryd.prog) w 9 30 5 s Tryd.underlying9 Tryd.underlying30 Tryd.underlying5 (by unfold maxLen; omega)
  have HS := Lib.hid (And.intro hv hb)
  clear hv hb
  go_enter Tryd.func96, Tryd.ntmps96
  go_wp2_with fail
  refine (enc_any v (nums s) _ HS.out.1 (by rw [nums_length]; exact hs)).mono ?_
  rintro e w1 ⟨x, rfl, hx, hb1⟩
  have HX := Lib.hid (And.intro hx (HS.out.2.trans (hb1.mono HS.out.2.size)))
  clear hx hb1
  go_wp2_with fail
  go_ret
  exact ⟨x, rfl, HX.out⟩
theorem lay2_any (s : ByteArray) (w : World) (hs : s.size ≤ 1000000) :
    Calls Tryd.prog 98 #[.string s] w fun e w' => ∃ v, e = .returned v ∧ Sl .u8 w' v (body false (nums s)) ∧ Below w.heap.size w w' := by
  obtain ⟨v, W, hc, hv, hb⟩ := str_bytes (P := Tryd.prog) w 9 30 5 s Tryd.underlying9 Tryd.underlying30 Tryd.underlying5 (by unfold maxLen; omega)
  have HS := Lib.hid (And.intro hv hb)
  clear hv hb
  go_enter Tryd.func98, Tryd.ntmps98
  go_wp2_with fail
  go_ret
  exact ⟨v, rfl, HS.out⟩

/-- which function makes what stands behind the count -/
def bodyFn (sq : Bool) : Nat := if sq then 96 else 98
theorem bodyFn_any (sq : Bool) (s : ByteArray) (w : World) (hs : s.size ≤ 1000000) :
    Calls Tryd.prog (bodyFn sq) #[.string s] w fun e w' => ∃ v, e = .returned v ∧ Sl .u8 w' v (body sq (nums s)) ∧ Below w.heap.size w w' := by
  cases sq
  · exact lay2_any s w hs
  · exact lay1_any s w hs
/-- a layout, as a value -/
def Lay (sq : Bool) (w : World) (v : Value) : Prop := ∃ pb pa, v = .func (.func 102) #[] #[.pointer (some ⟨pb, 0, none⟩), .pointer (some ⟨pa, 0, none⟩)] ∧ pb < w.heap.size ∧ pa < w.heap.size ∧
  w.cell? ⟨pb, 0, none⟩ = some (.func (.func (bodyFn sq)) #[] #[]) ∧ w.cell? ⟨pa, 0, none⟩ = some (.int .i64 (above sq))

theorem counted_any (sq : Bool) (w : World) :
    Calls Tryd.prog 95 #[.int .i64 (above sq), .func (.func (bodyFn sq)) #[] #[]] w fun e w' => ∃ v, e = .returned v ∧ Lay sq w' v ∧ Below w.heap.size w w' := by
  have hmf : ∀ (fn : Fn) (first cap : Array Value) (w : World), (Instr.makeFunc fn first cap).run Tryd.prog w = .ok (.func fn first cap) w := fun _ _ _ _ => rfl
  go_enter Tryd.func95, Tryd.ntmps95
  go_wp2_with fail
  go_ret
  refine ⟨_, rfl, ⟨_, _, rfl, ?_, ?_, ?_, ?_⟩, ?_⟩
  · simp
  · simp; omega
  · rw [World.cell?_alloc_at _ _ _ _ (by simp)]; rfl
  · rw [World.cell?_alloc_past _ _ _ (by simp), World.cell?_alloc_at _ _ _ _ rfl]; rfl
  · exact ((Below.refl _ _).alloc (Nat.le_refl _) _).alloc (by simp) _

theorem laidOut_any (sq : Bool) (w : World) :
    Calls Tryd.prog 82 #[.bool sq] w fun e w' => ∃ v, e = .returned v ∧ Lay sq w' v ∧ Below w.heap.size w w' := by
  cases sq
  · go_enter Tryd.func82, Tryd.ntmps82
    go_wp2_with fail
    refine (counted_any false _).mono ?_
    rintro e w1 ⟨x, rfl, hx⟩
    go_wp2_with fail
    go_ret
    exact ⟨x, rfl, hx⟩
  · go_enter Tryd.func82, Tryd.ntmps82
    go_wp2_with fail
    refine (counted_any true _).mono ?_
    rintro e w1 ⟨x, rfl, hx⟩
    go_wp2_with fail
    go_ret
    exact ⟨x, rfl, hx⟩

theorem encOk_lit (sq : Bool) {zs : List Int} (hf : Fit .u8 zs) (hz : zs.length ≤ 1000000) : encOk (body sq zs).length 7 (above sq) := by
  have h1 := body_length sq hf
  refine ⟨by omega, by omega, ?_⟩
  have h2 := above_le sq
  have h3 := above_mod sq
  rw [full7] at *
  exact ⟨h2.1, by omega, h3⟩

set_option maxHeartbeats 1000000 in
theorem counted1_any (sq : Bool) (s : ByteArray) (pb pa : Nat) (w : World) (hs : s.size ≤ 1000000) (hpa : pa < w.heap.size)
    (hcb : w.cell? ⟨pb, 0, none⟩ = some (.func (.func (bodyFn sq)) #[] #[])) (hca : w.cell? ⟨pa, 0, none⟩ = some (.int .i64 (above sq))) :
    Calls Tryd.prog 102 #[.string s, .pointer (some ⟨pb, 0, none⟩), .pointer (some ⟨pa, 0, none⟩)] w fun e w' => ∃ v, e = .returned v ∧ Sl .u8 w' v (lit sq (nums s)) ∧ Below w.heap.size w w' := by
  have hz : (nums s).length ≤ 1000000 := by rw [nums_length]; exact hs
  have hf := nums_fit s
  have HOK := Lib.hid (encOk_lit sq hf hz)
  have hbl := body_length sq hf
  have hhl := head_length sq hf hz
  have HC : Hid (∀ W, Calls Tryd.prog (bodyFn sq) #[.string s] W fun e w' => ∃ v, e = .returned v ∧ Sl .u8 w' v (body sq (nums s)) ∧ Below W.heap.size W w') := fun W => bodyFn_any sq s W hs
  obtain ⟨F, hF⟩ : ∃ F, bodyFn sq = F := ⟨_, rfl⟩
  rw [hF] at hcb HC
  have hF2 : F = 96 ∨ F = 98 := by rw [← hF]; cases sq <;> decide
  clear hF
  rcases hF2 with rfl | rfl
  all_goals
    go_enter Tryd.func102, Tryd.ntmps102
    go_wp2_with fail
    refine (HC.out _).mono ?_
    rintro e w1 ⟨x, rfl, hx, hb1⟩
    have hca1 := (hb1.cell (p := ⟨pa, 0, none⟩) hpa).trans hca
    have HS := Lib.hid (And.intro hx hb1)
    obtain ⟨ax, cx, rfl, _⟩ := id hx
    obtain ⟨NX, hNX⟩ : ∃ NX, (body sq (nums s)).length = NX := ⟨_, rfl⟩
    have HNX := Lib.hid hNX
    rw [hNX] at HOK HS hbl ⊢
    clear hNX hx hb1 hcb
    go_wp2_with fail
    refine (prefEnc_own NX 7 (above sq) _ HOK.out).mono ?_
    rintro e w2 ⟨y, rfl, hO, hb2⟩
    obtain ⟨ay, cy, rfl, _⟩ := owned_shape hO
    have hfit2 := HOK.out.fit
    have HB2 : Hid (Sl .u8 w2 (.slice ax NX cx) (body sq (nums s)) ∧ Below w.heap.size w w2) := ⟨HS.out.1.below hb2, HS.out.2.trans (hb2.mono HS.out.2.size)⟩
    have hsz := hb2.size
    have hw1 := HS.out.2.size
    have hh : (encP (fullP 7) (above sq) NX).length ≤ 5 := by rw [← HNX.out]; exact hhl.2
    clear HS hb2
    go_wp2_with (at_builtin; refine app_ints rfl (.tmp 18) (.tmp 19) 30 rfl w1.heap.size 5 .u8 1 Tryd.underlying30 Tryd.info5' _ _ (encP (fullP 7) (above sq) NX) rfl hO _ (body sq (nums s)) rfl HB2.out.1 (by rw [HNX.out]; omega) (by rw [HNX.out]; unfold maxLen; omega) hsz ?_; intro v3 w3 hO3 hb3 hg3; obtain ⟨a3, c3, rfl, _⟩ := owned_shape hO3)
    go_ret
    refine ⟨_, rfl, Sl.of_own (base := w1.heap.size) (e := 5) (zs := lit sq (nums s)) (n := (lit sq (nums s)).length) ?_ (lit_fit sq hf hz) ?_, ?_⟩
    · have e : lit sq (nums s) = encP (fullP 7) (above sq) NX ++ body sq (nums s) := by rw [lit, head, HNX.out]
      rw [e, List.length_append]
      exact hO3
    · have := lit_length sq hf hz; unfold maxLen; omega
    · exact HB2.out.2.trans (hb3.mono hw1)

/-- a text's bytes, or the error -/
def encL (sq : Bool) (s : ByteArray) : List Int × Int := if s.size ≤ 65536 then (lit sq (nums s), 0) else ([], 1)
theorem short_any (s : ByteArray) (w : World) (hs : s.size ≤ 65536) :
    Calls Tryd.prog 55 #[.string s] w fun e w' => ∃ v, e = .returned v ∧ Sl .u8 w' v (litS (nums s)) ∧ Below w.heap.size w w' := by
  obtain ⟨v, W, hc, hv, hb⟩ := str_bytes (P := Tryd.prog) w 9 30 5 s Tryd.underlying9 Tryd.underlying30 Tryd.underlying5 (by unfold maxLen; omega)
  have HS := Lib.hid (And.intro hv hb)
  clear hv hb
  have HD := Lib.hid (show decide (sizeT (nums s) < s.size) = decide (sizeT (nums s) < (nums s).length) from decide_eq_decide.2 (by rw [nums_length]))
  obtain ⟨sq, hsq⟩ : ∃ sq, decide (sizeT (nums s) < (nums s).length) = sq := ⟨_, rfl⟩
  have HL := Lib.hid (show litS (nums s) = lit sq (nums s) by rw [litS, hsq])
  rw [hsq] at HD
  clear hsq
  go_enter Tryd.func55, Tryd.ntmps55
  go_wp2_with fail
  refine (isText_any s _).mono ?_
  rintro e w' ⟨rfl, rfl⟩
  rw [decide_eq_true hs]
  go_wp2_with fail
  refine (Size_any v (nums s) _ HS.out.1 (by rw [nums_length]; omega)).mono ?_
  rintro e w' ⟨rfl, n, rfl⟩
  have HS1 := Lib.hid (below_drewN HS.out.2 n)
  clear HS
  go_wp2_with fail
  rw [HD.out]
  refine (laidOut_any sq _).mono ?_
  rintro e w1 ⟨x, rfl, ⟨pb, pa, rfl, h1, h2, h3, h4⟩, hb1⟩
  have HS2 := Lib.hid (And.intro h2 (And.intro h3 (And.intro h4 (HS1.out.trans (hb1.mono HS1.out.size)))))
  clear h1 h2 h3 h4 hb1
  go_wp2_with fail
  refine (counted1_any sq s pb pa _ (by omega) HS2.out.1 HS2.out.2.1 HS2.out.2.2.1).mono ?_
  rintro e w2 ⟨y, rfl, hy, hb2⟩
  have HY := Lib.hid (And.intro hy (HS2.out.2.2.2.trans (hb2.mono HS2.out.2.2.2.size)))
  clear hy hb2
  go_wp2_with fail
  go_ret
  rw [HL.out]
  exact ⟨_, rfl, HY.out⟩
end Go.Proofs.YtenapfpkegoonaaDoor

/-
  item.Right and item.Encode.
-/
namespace Go.Proofs.YtenapfpkegoonaaDoor
set_option maxRecDepth 20000
open Go.RowKit

theorem right_any (k n : Int) (a b : ByteArray) (w : World) (hT : ShT w) :
    Calls Tryd.prog 52 #[itV k n a b] w fun e w' => e = .returned (.bool (decide (rightI k n a b))) ∧ Below w.heap.size w w' := by
  by_cases h : 0 ≤ k ∧ k < 5
  · by_cases h2 : leastI k ≤ n ∧ n ≤ 16777215
    · exact right_yes k n a b w hT h h2
    · rw [decide_eq_false (fun x : rightI k n a b => h2 ⟨x.2.1, x.2.2.1⟩)]
      exact right_noNum k n a b w hT h (by omega)
  · rw [decide_eq_false (fun x : rightI k n a b => h x.1)]
    exact right_noKind k n a b w h

/-- what Encode answers -/
def encT (k n : Int) (a b : ByteArray) : List Int × Int := if rightI k n a b then (encI k n a b, 0) else ([], 1)
theorem iEnc_no (k n : Int) (a b : ByteArray) (w : World) (hT : ShT w) (h : ¬ rightI k n a b) :
    Calls Tryd.prog 32 #[itV k n a b] w fun e w' => e = .returned (.tuple #[.slice none 0 0, .int .i64 1]) ∧ Below w.heap.size w w' := by
  have D := Lib.hid (decide_eq_false h)
  have HT := Lib.hid hT
  clear h hT
  unfold itV
  go_enter Tryd.func32, Tryd.ntmps32
  go_wp2_with fail
  refine (right_any k n a b _ (HT.out.below ((Below.refl _ w).alloc (Nat.le_refl _) _))).mono ?_
  rintro e w1 ⟨rfl, hb⟩
  rw [D.out]
  go_wp2_with fail
  go_ret2
  exact ⟨rfl, ((Below.refl _ _).alloc (Nat.le_refl _) _).trans (hb.mono (by simp))⟩

/-- the texts behind an item's number, in their order -/
def txtI (k n : Int) (a b : ByteArray) : List ByteArray := if textsI k then if n = 0 then [a, b] else [b] else []
theorem txtI_length (k n : Int) (a b : ByteArray) : (txtI k n a b).length = (offsI k n).length := by
  unfold txtI offsI
  split <;> (try split) <;> rfl
theorem offsI_two (k n : Int) : (offsI k n).length ≤ 2 := by
  unfold offsI
  split <;> (try split) <;> simp
theorem ItAt.txt {W : World} {N : Nat} {t : TypeId} {k n : Int} {a b : ByteArray} (h : ItAt W N t k n a b) {i o : Nat} (hi : (offsI k n)[i]? = some o) : ∃ s, (txtI k n a b)[i]? = some s ∧ W.cell? ⟨N, o, none⟩ = some (.string s) := by
  have c2 := h.c2
  have c3 := h.c3
  unfold offsI at hi
  unfold txtI
  split at hi
  · rename_i h1
    rw [if_pos h1]
    split at hi
    · rename_i h2
      rw [if_pos h2]
      match i, hi with
      | 0, hi => obtain rfl := Option.some.inj hi; exact ⟨_, rfl, c2⟩
      | 1, hi => obtain rfl := Option.some.inj hi; exact ⟨_, rfl, c3⟩
      | i + 2, hi => cases hi
    · rename_i h2
      rw [if_neg h2]
      match i, hi with
      | 0, hi => obtain rfl := Option.some.inj hi; exact ⟨_, rfl, c3⟩
      | i + 1, hi => cases hi
  · cases hi
/-- the bytes of such texts -/
def litsI (ts : List ByteArray) : List Int := ts.flatMap (fun s => litS (nums s))
theorem encI_txt (k n : Int) (a b : ByteArray) : encI k n a b = encP (fullP (bitsI k)) (aboveI k) n ++ litsI (txtI k n a b) := by
  unfold encI nameI valI txtI litsI
  split <;> (try split) <;> simp
theorem rightI.txt {k n : Int} {a b : ByteArray} (h : rightI k n a b) {i : Nat} {s : ByteArray} (hi : (txtI k n a b)[i]? = some s) : s.size ≤ 65536 := by
  unfold txtI at hi
  split at hi
  · rename_i h1
    have h2 := h.2.2.2.1 h1
    split at hi
    · match i, hi with
      | 0, hi => obtain rfl := Option.some.inj hi; exact h2.1
      | 1, hi => obtain rfl := Option.some.inj hi; exact h2.2.1
      | i + 2, hi => cases hi
    · match i, hi with
      | 0, hi => obtain rfl := Option.some.inj hi; exact h2.2.1
      | i + 1, hi => cases hi
  · cases hi
theorem litsI_step {ts : List ByteArray} {j : Nat} {s : ByteArray} (h : ts[j]? = some s) : litsI (ts.take (j + 1)) = litsI (ts.take j) ++ litS (nums s) := by
  rw [List.take_add_one, h, litsI, List.flatMap_append]
  simp [litsI]

theorem Gone.grown {w W W1 : World} {N B : Nat} {offs : List Nat} {k n : Int} {a b : ByteArray} (h : Gone w N B offs k n W a b) (hb : Below W.heap.size W W1) : Gone w N B offs k n W1 a b := by
  obtain ⟨h1, h2, h3, h4⟩ := h
  exact ⟨h1.grown hb, h2.trans (hb.mono h2.size), h3, fun i o hi => by rw [hb.cell (World.block_lt_of_cell? _ _ (h4 i o hi))]; exact h4 i o hi⟩
theorem ItAt.app {W W1 : World} {N m base : Nat} {t : TypeId} {k n : Int} {a b : ByteArray} {v : Value} {out : List Int} (h : ItAt W N t k n a b) (ht : t ≠ 5) (ho : W.ownsRow base 5 1 v m (out.map (Value.int .u8))) (hg : W.grownBy W1 v.ownBlock) :
    ItAt W1 N t k n a b := by
  have hN : some N ≠ v.ownBlock := by
    rcases ho.2 with ⟨rfl, _⟩ | ⟨g, cap, cur, rfl, _, hh, _⟩
    · simp [Value.ownBlock]
    · intro e
      have e : N = g := by simpa [Value.ownBlock] using e
      subst e
      rw [h] at hh
      cases hh
      exact ht rfl
  exact (hg.block N h.lt (fun e => hN e)).trans h
/-- an append to a row of bytes, which is neither the item nor the pointers -/
theorem Gone.app {w W W1 : World} {N B m base : Nat} {offs : List Nat} {k n : Int} {a b : ByteArray} {v : Value} {out : List Int} (h : Gone w N B offs k n W a b) (ho : W.ownsRow base 5 1 v m (out.map (Value.int .u8))) (h1 : out ≠ []) (h2 : offs ≠ [])
    (hg : W.grownBy W1 v.ownBlock) (hb : Below w.heap.size W W1) : Gone w N B offs k n W1 a b := by
  obtain ⟨i1, i2, i3, i4⟩ := h
  obtain ⟨x, xs, rfl⟩ := List.exists_cons_of_ne_nil h1
  obtain ⟨o, os, rfl⟩ := List.exists_cons_of_ne_nil h2
  have q0 := i4 0 o rfl
  have hN : some N ≠ v.ownBlock := by
    rcases ho.2 with ⟨rfl, _⟩ | ⟨g, cap, cur, rfl, _, hh, _⟩
    · simp [Value.ownBlock]
    · intro e
      have e : N = g := by simpa [Value.ownBlock] using e
      subst e
      rw [i1] at hh
      cases hh
  have hB : some B ≠ v.ownBlock := by
    intro e
    have hc := ho.cells (g := B) (by rcases ho.2 with ⟨rfl, _⟩ | ⟨g, cap, cur, rfl, _, hh, _⟩ <;> simp [Value.ownBlock] at e; first | done | (subst e; rfl)) 0 (.int .u8 x) rfl
    have : W.cell? ⟨B, 0, none⟩ = some (.int .u8 x) := hc
    rw [q0] at this
    cases this
  refine ⟨?_, i2.trans hb, i3, fun i o hi => ?_⟩
  · exact (hg.block N i1.lt (fun e => hN e)).trans i1
  · have e : W1.cell? ⟨B, i, none⟩ = W.cell? ⟨B, i, none⟩ := World.cell?_of_block (w := W) (hg.block B (World.block_lt_of_cell? _ _ (i4 i o hi)) hB)
    rw [e]
    exact i4 i o hi

theorem Tryd.sliceP : Tryd.prog.underlying 106 = some (.slice (Tryd.prog.elem 106)) := by kernel_rfl
theorem Tryd.sizeP (w : World) : (sizeOf (Tryd.prog.elem 106)).run Tryd.prog w = .ok 1 w := by kernel_rfl

set_option maxHeartbeats 2000000 in
theorem iEnc_yes (k n : Int) (a b : ByteArray) (w : World) (hT : ShT w) (h : rightI k n a b) :
    Calls Tryd.prog 32 #[itV k n a b] w fun e w' => ∃ v, e = .returned (.tuple #[v, .int .i64 0]) ∧ w'.ownsRow w.heap.size 5 1 v (encI k n a b).length ((encI k n a b).map (Value.int .u8)) ∧ Below w.heap.size w w' := by
  have D := Lib.hid (decide_eq_true h)
  have HOK := Lib.hid h.enc
  have HR := Lib.hid h
  obtain ⟨K, hix, hc⟩ := sh_row h.1.1 h.1.2
  have HC := Lib.hid hc
  have HT := Lib.hid hT
  obtain ⟨m, hm⟩ : ∃ m, bitsI k = m := ⟨_, rfl⟩
  obtain ⟨A, hA⟩ : ∃ A, aboveI k = A := ⟨_, rfl⟩
  obtain ⟨L, hL⟩ : ∃ L, leastI k = L := ⟨_, rfl⟩
  obtain ⟨T, hTx⟩ : ∃ T, textsI k = T := ⟨_, rfl⟩
  rw [hm, hA] at HOK
  have HM := Lib.hid (And.intro hm hA)
  rw [hm, hA, hL, hTx] at HC
  clear h hT hc hm hA hL
  unfold itV
  go_enter Tryd.func32, Tryd.ntmps32
  go_wp2_with fail
  refine (right_any k n a b _ (HT.out.below ((Below.refl _ w).alloc (Nat.le_refl _) _))).mono ?_
  rintro e w1 ⟨rfl, hb⟩
  rw [D.out]
  have hI : ItAt w1 w.heap.size 65 k n a b := (hb.block _ (by simp)).trans (heap_alloc_new _ _)
  have hB : Below w.heap.size w w1 := ((Below.refl _ _).alloc (Nat.le_refl _) _).trans (hb.mono (by simp))
  have HI := Lib.hid (And.intro hI hB)
  have HT1 := Lib.hid (HT.out.low hB HT.out.lt)
  have c0 := hI.c0
  have c1 := hI.c1
  have hlt := hI.lt
  obtain ⟨s0, s1, s2, s3⟩ := HC.out _ HT1.out
  clear hb hI hB
  go_wp2_with fail
  refine (prefEnc_own n m A _ HOK.out).mono ?_
  rintro e w2 ⟨y, rfl, hO, hb2⟩
  have hO2 := owned_mono hO (show w.heap.size ≤ _ by simp; omega)
  have hI2 : ItAt w2 w.heap.size 65 k n a b := (hb2.block _ (by simp; omega)).trans ((Below.heap_alloc _ _ _ (by omega)).trans HI.out.1)
  have hB2 : Below w.heap.size w w2 := (HI.out.2.alloc HI.out.2.size _).trans (hb2.mono (by simp; omega))
  have hT2 := HT.out.low hB2 HT.out.lt
  have hp6 := (encP_length (fullP m) A n).2
  obtain ⟨P, hP⟩ : ∃ P, encP (fullP m) A n = P := ⟨_, rfl⟩
  rw [hP] at hO2 hp6
  have HP : Hid (encP (fullP (bitsI k)) (aboveI k) n = P) := by show _ = _; rw [HM.out.1, HM.out.2, hP]
  have H2 := Lib.hid (And.intro hI2 (And.intro hB2 (And.intro hT2 hO2)))
  clear hO hb2 hI2 hB2 hT2 hO2 HOK s0 s1 s2 s3 c0 c1 hix hP HC HT HT1 HI D HM
  go_wp2_with fail
  refine Calls.mono (places_any w.heap.size 65 k n a b _ ?hi ?ht HR.out.1.1 HR.out.1.2) ?_
  case hi => exact H2.out.1
  case ht => exact H2.out.2.2.1
  rintro e w3 ⟨v, rfl, hp, hb3⟩
  have hI3 := H2.out.1.grown hb3
  have hB3 : Below w.heap.size w w3 := H2.out.2.1.trans (hb3.mono H2.out.2.1.size)
  have hO3 := owned_below H2.out.2.2.2 hb3
  have H3 := Lib.hid (And.intro hI3 (And.intro hB3 hO3))
  clear hI3 hB3 hO3 H2 hb3
  obtain ⟨ad, cap, rfl, hp | ⟨B, rfl, hB1, hB2, hB3⟩⟩ := hp
  · have HE : Hid (encI k n a b = P) := by
      have h0 : txtI k n a b = [] := List.eq_nil_of_length_eq_zero (by rw [txtI_length, hp]; rfl)
      show _ = _
      rw [encI_txt, HP.out, h0, litsI]
      simp
    have hlen : (offsI k n).length = 0 := by rw [hp]; rfl
    rw [hlen]
    have hO3 := H3.out.2.2
    have HO := Lib.hid hO3
    obtain ⟨ay, cy, rfl, _⟩ := owned_shape hO3
    clear hO3 hp hlen
    go_wp2_with fail
    go_loopg [5, 28] 0 (fun g s5 s28 wr => s5 = .slice ay P.length cy ∧ s28 = .int .i64 0 ∧ wr = w3)
    case atStart => exact ⟨rfl, rfl, rfl⟩
    case round =>
      obtain ⟨rfl, rfl, rfl⟩ := hrel
      go_wp2_with fail
      go_ret2
      exact ⟨_, rfl, by rw [HE.out]; exact HO.out, H3.out.2.1⟩
  · have HG : Hid (Gone w w.heap.size B (offsI k n) k n w3 a b) := ⟨H3.out.1, H3.out.2.1, hB2, hB3⟩
    have hO3 := H3.out.2.2
    obtain ⟨ay, cy, rfl, _⟩ := owned_shape hO3
    have HO := Lib.hid hO3
    have HE : Hid (encI k n a b = P ++ litsI (txtI k n a b)) := by show _ = _; rw [encI_txt, HP.out]
    have HT : Hid (∀ i o : Nat, (offsI k n)[i]? = some o → ∃ s, (txtI k n a b)[i]? = some s ∧ s.size ≤ 65536 ∧ ∀ W, ItAt W w.heap.size 65 k n a b → W.cell? ⟨w.heap.size, o, none⟩ = some (.string s)) := by
      intro i o hi
      obtain ⟨s, hs, _⟩ := H3.out.1.txt hi
      refine ⟨s, hs, HR.out.txt hs, fun W hW => ?_⟩
      obtain ⟨s', hs', hc⟩ := hW.txt hi
      rw [hs] at hs'
      cases hs'
      exact hc
    have hP1 : 1 ≤ P.length := by rw [← HP.out]; exact (encP_length _ _ _).1
    have HL := Lib.hid (txtI_length k n a b)
    have hl2 := offsI_two k n
    obtain ⟨offs, ho⟩ : ∃ offs, offsI k n = offs := ⟨_, rfl⟩
    obtain ⟨txt, htx⟩ : ∃ txt, txtI k n a b = txt := ⟨_, rfl⟩
    rw [ho, htx] at HL
    rw [ho] at HG hl2
    rw [htx] at HE
    rw [ho, htx] at HT
    rw [ho]
    obtain ⟨l, hl⟩ : ∃ l, offs.length = l := ⟨_, rfl⟩
    rw [hl] at hl2 HL ⊢
    have HLO := Lib.hid hl
    clear hO3 hB1 hB2 hB3 HR H3 ho htx hl
    go_wp2_with fail
    go_loopg [5, 28] l (fun g s5 s28 wr => ∃ (j : Nat) (out : List Int), j + g = l ∧ s28 = .int .i64 j ∧ Hid (Gone w w.heap.size B offs k n wr a b) ∧ Hid (wr.ownsRow w.heap.size 5 1 s5 out.length (out.map (Value.int .u8))) ∧ Hid (out = P ++ litsI (txt.take j) ∧ out.length ≤ 6 + j * 262149))
    case atStart => exact ⟨0, P, by omega, rfl, HG, HO, Lib.hid ⟨by simp [litsI], by omega⟩⟩
    case round =>
      clear HG HO
      obtain ⟨j, out, hjg, rfl, HG, HO, HJ⟩ := hrel
      by_cases hj : j < l
      · have d1 : decide ((j : Int) < (l : Int)) = true := decide_eq_true (by omega)
        obtain ⟨o, ho⟩ : ∃ o, offs[j]? = some o := ⟨offs[j]'(by rw [HLO.out]; exact hj), List.getElem?_eq_getElem _⟩
        obtain ⟨s, hs, hsz, hc⟩ := HT.out j o ho
        have q0 := HG.out.2.2.2 j o ho
        have c0 := hc _ HG.out.1
        have HS := Lib.hid hs
        have HOFF := Lib.hid (show offs ≠ [] by intro e; rw [e] at ho; simp at ho)
        have hNlt := HG.out.1.lt
        have hBlt := World.block_lt_of_cell? _ _ q0
        have hix : ∀ (q : IntKind) (W : World), (Instr.indexAt 106 (.slice (some ⟨B, 0, none⟩) l cap) (.int q j)).run Tryd.prog W = .ok (.pointer (some ⟨B, j, none⟩)) W := by
          intro q W
          have := sl_index Tryd.sliceP Tryd.sizeP B 0 l cap j hj q W
          rwa [Nat.zero_add] at this
        have hll := (litS_length (nums_fit s) (by rw [nums_length]; omega)).2
        rw [nums_length] at hll
        have hlo := HJ.out.2
        obtain ⟨a5, c5, rfl, _⟩ := owned_shape HO.out
        clear hc ho hs
        go_wp2_with fail
        refine (short_any s _ hsz).mono ?_
        rintro e w4 ⟨x, rfl, hx, hb4⟩
        obtain ⟨ax, cx, rfl, _⟩ := id hx
        have HG4 := Lib.hid (HG.out.grown hb4)
        have hO4 := owned_below HO.out hb4
        have hw4 := HG4.out.2.1.size
        clear hb4 HG
        go_wp2_with (at_builtin; refine app_ints rfl (.tmp 32) (.tmp 36) 30 rfl w.heap.size 5 .u8 1 Tryd.underlying30 Tryd.info5' _ _ out rfl hO4 _ (litS (nums s)) rfl hx (by omega) (by unfold maxLen; omega) hw4 ?_; intro v5 w5 hO5 hb5 hg5; obtain ⟨a6, c6, rfl, _⟩ := owned_shape hO5)
        have hne : out ≠ [] := by
          intro e
          have := congrArg List.length HJ.out.1
          rw [e, List.length_append] at this
          simp only [List.length_nil] at this
          omega
        have HG5 := Lib.hid (HG4.out.app hO4 hne HOFF.out hg5 hb5)
        go_roundg (l - (j + 1))
        case measure => omega
        case rel => exact ⟨j + 1, out ++ litS (nums s), by omega, by go_num, HG5, by show World.ownsRow _ _ _ _ _ _ _; rw [List.length_append]; exact hO5, Lib.hid ⟨by rw [litsI_step HS.out, ← List.append_assoc, ← HJ.out.1], by rw [List.length_append]; omega⟩⟩
      · obtain rfl : j = l := by omega
        have d1 : decide ((j : Int) < (j : Int)) = false := decide_eq_false (by omega)
        have HX : Hid (encI k n a b = out) := by
          show _ = _
          rw [HE.out, HJ.out.1, List.take_of_length_le (by rw [HL.out]; exact Nat.le_refl _)]
        obtain ⟨a5, c5, rfl, _⟩ := owned_shape HO.out
        go_wp2_with fail
        go_ret2
        exact ⟨_, rfl, by rw [HX.out]; exact HO.out, HG.out.2.1⟩
end Go.Proofs.YtenapfpkegoonaaDoor

/-
  item.readTexts: the texts behind an item's number, into their places.
-/
namespace Go.Proofs.YtenapfpkegoonaaDoor
set_option maxRecDepth 20000
open Go.RowKit

/-- so many texts, one behind the other, from a place on: they, the place behind them, the error -/
def rd (most : Int) (zs : List Int) : Nat → Int → List (List Int) × Int × Int
  | 0, p => ([], p, 0)
  | m + 1, p => if (decL most (zs.drop p.toNat)).2.2 ≠ 0 then ([], 0, (decL most (zs.drop p.toNat)).2.2)
      else ((decL most (zs.drop p.toNat)).1 :: (rd most zs m (p + (decL most (zs.drop p.toNat)).2.1)).1, (rd most zs m (p + (decL most (zs.drop p.toNat)).2.1)).2)
theorem rd_err {most : Int} {zs : List Int} {m : Nat} {p : Int} {a : List Int} {u e : Int} (h : decL most (zs.drop p.toNat) = (a, u, e)) (he : e ≠ 0) : rd most zs (m + 1) p = ([], 0, e) := by
  rw [rd, h, if_pos he]
theorem rd_ok {most : Int} {zs : List Int} {m : Nat} {p : Int} {a : List Int} {u : Int} (h : decL most (zs.drop p.toNat) = (a, u, 0)) : rd most zs (m + 1) p = (a :: (rd most zs m (p + u)).1, (rd most zs m (p + u)).2) := by
  rw [rd, h, if_neg (by simp)]
/-- the name and the value among them -/
def nmOf (n : Int) (l : List (List Int)) : ByteArray := strOfNums (if n = 0 then l.getD 0 [] else [])
def vlOf (n : Int) (l : List (List Int)) : ByteArray := strOfNums (if n = 0 then l.getD 1 [] else l.getD 0 [])
theorem decL_used {most : Int} {zs : List Int} (hf : Fit .u8 zs) {a : List Int} {u : Int} (h : decL most zs = (a, u, 0)) : 0 ≤ u ∧ u ≤ zs.length := by
  by_cases h0 : (decP (fullP 7) zs).2.2 = 0
  · obtain ⟨h1, h2, h3, h4⟩ := decP_ok hf h0
    rw [decL, if_neg (by simp [h0])] at h
    split at h
    · cases h
    · have hx : u = (decP (fullP 7) zs).2.1 + (decP (fullP 7) zs).1 := by
        split at h
        · split at h
          · rename_i e
            simp only [Prod.mk.injEq] at h
            exact absurd h.2.2 e
          · simp only [Prod.mk.injEq] at h
            exact h.2.1.symm
        · split at h
          · cases h
          · simp only [Prod.mk.injEq] at h
            exact h.2.1.symm
      omega
  · rw [decL, if_pos h0] at h
    simp only [Prod.mk.injEq] at h
    exact absurd h.2.2 h0
theorem Gone.place {w W : World} {N B o : Nat} {k n : Int} {l : List (List Int)} (h : Gone w N B (offsI k n) k n W (nmOf n l) (vlOf n l)) (hN : w.heap.size ≤ N) (ho : (offsI k n)[l.length]? = some o) (s : List Int) :
    Gone w N B (offsI k n) k n (W.setCell ⟨N, o, none⟩ (.string (strOfNums s))) (nmOf n (l ++ [s])) (vlOf n (l ++ [s])) := by
  have ho' := ho
  unfold offsI at ho'
  split at ho'
  · split at ho'
    · rename_i h0
      match l, ho' with
      | [], ho' =>
        obtain rfl := Option.some.inj ho'
        have := h.put2 hN (strOfNums s)
        simp only [nmOf, vlOf, h0, if_true] at this ⊢
        exact this
      | [x], ho' =>
        obtain rfl := Option.some.inj ho'
        have := h.put3 hN (strOfNums s)
        simp only [nmOf, vlOf, h0, if_true] at this ⊢
        exact this
      | x :: y :: r, ho' => simp at ho'
    · rename_i h0
      match l, ho' with
      | [], ho' =>
        obtain rfl := Option.some.inj ho'
        have := h.put3 hN (strOfNums s)
        simp only [nmOf, vlOf, h0, if_false] at this ⊢
        exact this
      | x :: r, ho' => simp at ho'
  · simp at ho'
theorem Gone.cellAt {w W : World} {N B o i : Nat} {k n : Int} {a b : ByteArray} (h : Gone w N B (offsI k n) k n W a b) (ho : (offsI k n)[i]? = some o) : ∃ s, W.cell? ⟨N, o, none⟩ = some (.string s) := by
  obtain ⟨s, _, hc⟩ := h.1.txt ho
  exact ⟨s, hc⟩

set_option maxHeartbeats 2000000 in
theorem readTexts_any (W0 : World) (g : Nat) (k n : Int) (v : Value) (zs : List Int) (most : Int) (w : World) (h0 : 0 ≤ k) (h4 : k < 5) (hv : Sl .u8 W0 v zs) (hz : zs.length ≤ 1000000) (hT : ShT W0)
    (hb : Below W0.heap.size W0 w) (hg : W0.heap.size ≤ g) (hI : ItAt w g 65 k n ⟨#[]⟩ ⟨#[]⟩) :
    Calls Tryd.prog 67 #[.pointer (some ⟨g, 0, none⟩), v, .int .i64 most] w fun e w' =>
      e = .returned (.tuple #[.int .i64 (rd most zs (offsI k n).length 0).2.1, .int .i64 (rd most zs (offsI k n).length 0).2.2]) ∧ Below W0.heap.size W0 w' ∧
      ((rd most zs (offsI k n).length 0).2.2 = 0 → ItAt w' g 65 k n (nmOf n (rd most zs (offsI k n).length 0).1) (vlOf n (rd most zs (offsI k n).length 0).1)) := by
  have HH := Lib.hid (And.intro hv (And.intro hT (And.intro hb (And.intro hg hI))))
  have HF := Lib.hid hv.fit
  obtain ⟨R, hR⟩ : ∃ R, rd most zs (offsI k n).length 0 = R := ⟨_, rfl⟩
  have HRD := Lib.hid hR
  rw [hR]
  clear hR
  obtain ⟨av, cv, rfl, _⟩ := id hv
  clear hv hT hb hg hI
  go_enter Tryd.func67, Tryd.ntmps67
  go_wp2_with fail
  refine Calls.mono (places_any g 65 k n ⟨#[]⟩ ⟨#[]⟩ _ ?hi ?ht h0 h4) ?_
  case hi => exact HH.out.2.2.2.2
  case ht => exact HH.out.2.1.low HH.out.2.2.1 HH.out.2.1.lt
  rintro e w1 ⟨vp, rfl, hp, hb1⟩
  have hI1 := HH.out.2.2.2.2.grown hb1
  have hB1 : Below W0.heap.size W0 w1 := HH.out.2.2.1.trans (hb1.mono HH.out.2.2.1.size)
  have H1 := Lib.hid (And.intro hI1 hB1)
  clear hI1 hB1 hb1
  obtain ⟨ad, cap, rfl, hp | ⟨B, rfl, hBl, hBg, hBc⟩⟩ := hp
  · have HR : Hid (R = ([], 0, 0)) := by show _ = _; rw [← HRD.out, hp]; rfl
    have HE : Hid (nmOf n [] = ⟨#[]⟩ ∧ vlOf n [] = ⟨#[]⟩) := by
      constructor <;> (simp only [nmOf, vlOf]; split <;> rfl)
    have hlen : (offsI k n).length = 0 := by rw [hp]; rfl
    rw [hlen]
    clear hp hlen HRD
    go_wp2_with fail
    go_loopg [8, 17] 0 (fun g s8 s17 wr => s8 = .int .i64 0 ∧ s17 = .int .i64 0 ∧ wr = w1)
    case atStart => exact ⟨rfl, rfl, rfl⟩
    case round =>
      obtain ⟨rfl, rfl, rfl⟩ := hrel
      go_wp2_with fail
      go_ret2
      exact ⟨by rw [HR.out]; rfl, H1.out.2, fun _ => by rw [HR.out, HE.out.1, HE.out.2]; exact H1.out.1⟩
  · have HG : Hid (Gone W0 g B (offsI k n) k n w1 (nmOf n []) (vlOf n [])) := by
      have e1 : nmOf n [] = ⟨#[]⟩ := by simp only [nmOf]; split <;> rfl
      have e2 : vlOf n [] = ⟨#[]⟩ := by simp only [vlOf]; split <;> rfl
      rw [e1, e2]
      exact ⟨H1.out.1, H1.out.2, hBg, hBc⟩
    obtain ⟨l, hl⟩ : ∃ l, (offsI k n).length = l := ⟨_, rfl⟩
    have hl2 := offsI_two k n
    rw [hl] at hl2 HRD ⊢
    have HLO := Lib.hid hl
    clear hl hBl hBg hBc
    go_wp2_with fail
    go_loopg [8, 17] l (fun gg s8 s17 wr => ∃ (j : Nat) (p : Int) (done : List (List Int)), j + gg = l ∧ s17 = .int .i64 j ∧ s8 = .int .i64 p ∧ 0 ≤ p ∧ p ≤ zs.length ∧ done.length = j ∧ Hid (Gone W0 g B (offsI k n) k n wr (nmOf n done) (vlOf n done)) ∧
      Hid (R.2 = (rd most zs (l - j) p).2 ∧ (R.2.2 = 0 → R.1 = done ++ (rd most zs (l - j) p).1)))
    case atStart => exact ⟨0, 0, [], by omega, rfl, rfl, by omega, by omega, rfl, HG, Lib.hid ⟨by rw [← HRD.out]; rfl, fun _ => by rw [← HRD.out]; rfl⟩⟩
    case round =>
      clear HG HRD
      obtain ⟨j, p, done, hjg, rfl, rfl, hp0, hp1, hdl, HG, HR⟩ := hrel
      by_cases hj : j < l
      · have d1 : decide ((j : Int) < (l : Int)) = true := decide_eq_true (by omega)
        obtain ⟨m, hm⟩ : ∃ m, l - j = m + 1 := ⟨l - j - 1, by omega⟩
        rw [hm] at HR
        obtain ⟨o, ho⟩ : ∃ o, (offsI k n)[j]? = some o := ⟨(offsI k n)[j]'(by rw [HLO.out]; exact hj), List.getElem?_eq_getElem _⟩
        have q0 := HG.out.2.2.2 j o ho
        have hix : ∀ (q : IntKind) (W : World), (Instr.indexAt 106 (.slice (some ⟨B, 0, none⟩) l cap) (.int q j)).run Tryd.prog W = .ok (.pointer (some ⟨B, j, none⟩)) W := by
          intro q W
          have := sl_index Tryd.sliceP Tryd.sizeP B 0 l cap j hj q W
          rwa [Nat.zero_add] at this
        obtain ⟨v', hrv, hsv⟩ := HH.out.1.from_ Tryd.slice22 Tryd.size22 p hp0 hp1
        have hsv4 := hsv.below HG.out.2.1
        obtain ⟨da, du, de, hd⟩ : ∃ a u e, decL most (zs.drop p.toNat) = (a, u, e) := ⟨_, _, _, rfl⟩
        have HD := Lib.hid hd
        have HO := Lib.hid ho
        have HDL := Lib.hid hdl
        clear ho hsv hd hdl
        go_wp2_with fail
        refine (litDec_any v' (zs.drop p.toNat) most _ hsv4 (by rw [List.length_drop]; omega)).mono ?_
        rintro e w4 ⟨rfl, hb4⟩
        rw [HD.out, tupL]
        have HG4 := Lib.hid (HG.out.grown hb4)
        clear hb4 HG hsv4
        by_cases h0 : de = 0
        · subst h0
          obtain ⟨hu0, hu1⟩ := decL_used (HF.out.drop _) HD.out
          rw [List.length_drop] at hu1
          obtain ⟨so, hc⟩ := HG4.out.cellAt HO.out
          have hf : w4.frozen? ⟨g, o, none⟩ = false := HG4.out.1.free o
          have hl4 := HG4.out.1.lt
          go_wp2_with fail
          go_roundg (l - (j + 1))
          case measure => omega
          case rel =>
            refine ⟨j + 1, p + du, done ++ [da], by omega, by go_num, rfl, by omega, by omega, by rw [List.length_append, HDL.out]; rfl, ?_, ?_⟩
            · exact HG4.out.place HH.out.2.2.2.1 (by rw [HDL.out]; exact HO.out) da
            · have hr := rd_ok (m := m) HD.out
              have hm' : l - (j + 1) = m := by omega
              rw [hm']
              refine Lib.hid ⟨?_, fun h => ?_⟩
              · rw [HR.out.1, hr]
              · rw [HR.out.2 h, hr, List.append_assoc]; rfl
        · have d2 : (de != 0) = true := by simp [h0]
          have hr := rd_err (m := m) HD.out h0
          have HE : Hid (R.2 = (0, de)) := by show _ = _; rw [HR.out.1, hr]
          have H0 := Lib.hid h0
          clear hr
          go_wp2_with fail
          go_ret2
          exact ⟨by rw [HE.out]; rfl, HG4.out.2.1, fun h => by rw [HE.out] at h; exact absurd h H0.out⟩
      · obtain rfl : j = l := by omega
        have d1 : decide ((j : Int) < (j : Int)) = false := decide_eq_false (by omega)
        rw [Nat.sub_self] at HR
        have HE : Hid (R.2 = (p, 0)) := HR.out.1
        have HF1 : Hid (R.1 = done) := by
          show _ = _
          rw [HR.out.2 (by rw [HE.out]), rd, List.append_nil]
        go_wp2_with fail
        go_ret2
        exact ⟨by rw [HE.out]; rfl, HG.out.2.1, fun _ => by rw [HF1.out]; exact HG.out.1⟩
end Go.Proofs.YtenapfpkegoonaaDoor

/-
  item.Decode.
-/
namespace Go.Proofs.YtenapfpkegoonaaDoor
set_option maxRecDepth 20000
open Go.RowKit

theorem decI_nil {most : Int} : decI most [] = .err 2 := by rw [decI]; rfl
theorem decI_err {most : Int} {zs : List Int} {k n p e : Int} (hz : 0 < zs.length) (hk : kindI (at0 zs 0) = k) (hd : decP (fullP (bitsI k)) zs = (n, p, e)) (he : e ≠ 0) : decI most zs = .err e := by
  rw [decI, if_neg (by omega), hk, hd, if_pos he]
theorem decI_less {most : Int} {zs : List Int} {k n p : Int} (hz : 0 < zs.length) (hk : kindI (at0 zs 0) = k) (hd : decP (fullP (bitsI k)) zs = (n, p, 0)) (hn : n < leastI k) : decI most zs = .err 3 := by
  rw [decI, if_neg (by omega), hk, hd, if_neg (by simp), if_pos hn]
theorem rd_used {most : Int} {zs : List Int} (hf : Fit .u8 zs) : ∀ {m : Nat} {p : Int} {a : List (List Int)} {q : Int}, 0 ≤ p → p ≤ zs.length → rd most zs m p = (a, q, 0) → p ≤ q ∧ q ≤ zs.length
  | 0, p, a, q, h0, h1, h => by
    rw [rd] at h
    cases h
    exact ⟨Int.le_refl _, h1⟩
  | m + 1, p, a, q, h0, h1, h => by
    obtain ⟨b, u, e, hd⟩ : ∃ b u e, decL most (zs.drop p.toNat) = (b, u, e) := ⟨_, _, _, rfl⟩
    by_cases he : e = 0
    · subst he
      have hu := decL_used (hf.drop _) hd
      rw [List.length_drop] at hu
      rw [rd_ok hd] at h
      obtain ⟨a2, q2, e2, h2⟩ : ∃ a2 q2 e2, rd most zs m (p + u) = (a2, q2, e2) := ⟨_, _, _, rfl⟩
      rw [h2] at h
      simp only [Prod.mk.injEq] at h
      obtain ⟨_, rfl, rfl⟩ := h
      have := rd_used hf (p := p + u) (by omega) (by omega) h2
      omega
    · rw [rd_err hd he] at h
      simp only [Prod.mk.injEq] at h
      exact absurd h.2.2 he
theorem drop_two {zs : List Int} {p u : Int} (h0 : 0 ≤ p) (h1 : 0 ≤ u) : (zs.drop p.toNat).drop (0 + u).toNat = zs.drop (p + u).toNat := by
  rw [List.drop_drop]; congr 1; omega
theorem decI_rd {most : Int} {zs : List Int} {k n p : Int} (hf : Fit .u8 zs) (hz : 0 < zs.length) (hk : kindI (at0 zs 0) = k) (hd : decP (fullP (bitsI k)) zs = (n, p, 0)) (hn : ¬ n < leastI k) (hp : 0 ≤ p) :
    decI most zs = if (rd (min most 65536) (zs.drop p.toNat) (offsI k n).length 0).2.2 ≠ 0 then .err (rd (min most 65536) (zs.drop p.toNat) (offsI k n).length 0).2.2
      else ⟨k, n, if n = 0 then (rd (min most 65536) (zs.drop p.toNat) (offsI k n).length 0).1.getD 0 [] else [], if n = 0 then (rd (min most 65536) (zs.drop p.toNat) (offsI k n).length 0).1.getD 1 [] else (rd (min most 65536) (zs.drop p.toNat) (offsI k n).length 0).1.getD 0 [], p + (rd (min most 65536) (zs.drop p.toNat) (offsI k n).length 0).2.1, 0⟩ := by
  rw [decI, if_neg (by omega), hk, hd, if_neg (by simp), if_neg hn]
  by_cases ht : textsI k = true
  · rw [if_pos ht]
    by_cases h0 : n = 0
    · subst h0
      have hl : (offsI k 0).length = 2 := by rw [offsI, if_pos ht]; rfl
      rw [hl, if_pos rfl, decNV]
      obtain ⟨a, u, e, h1⟩ : ∃ a u e, decL (min most 65536) (zs.drop p.toNat) = (a, u, e) := ⟨_, _, _, rfl⟩
      have h1' : decL (min most 65536) ((zs.drop p.toNat).drop (0 : Int).toNat) = (a, u, e) := h1
      rw [h1]
      by_cases he : e = 0
      · subst he
        have hu := decL_used (hf.drop _) h1
        rw [if_neg (by simp), rd_ok h1', decV]
        obtain ⟨b, v, f, h2⟩ : ∃ b v f, decL (min most 65536) (zs.drop (p + u).toNat) = (b, v, f) := ⟨_, _, _, rfl⟩
        have h2' : decL (min most 65536) ((zs.drop p.toNat).drop (0 + u).toNat) = (b, v, f) := by rw [drop_two hp hu.1]; exact h2
        simp only [h2]
        by_cases hf0 : f = 0
        · subst hf0
          rw [rd_ok h2', rd]
          simp
          omega
        · rw [rd_err h2' hf0]
          simp [hf0]
      · rw [if_pos he, rd_err h1' he]
        simp [he]
    · have hl : (offsI k n).length = 1 := by rw [offsI, if_pos ht, if_neg h0]; rfl
      rw [hl, if_neg h0, decV]
      obtain ⟨b, v, f, h2⟩ : ∃ b v f, decL (min most 65536) (zs.drop p.toNat) = (b, v, f) := ⟨_, _, _, rfl⟩
      have h2' : decL (min most 65536) ((zs.drop p.toNat).drop (0 : Int).toNat) = (b, v, f) := h2
      simp only [h2]
      by_cases hf0 : f = 0
      · subst hf0
        rw [rd_ok h2', rd]
        simp [h0]
      · rw [rd_err h2' hf0]
        simp [hf0]
  · have hl : (offsI k n).length = 0 := by rw [offsI, if_neg ht]; rfl
    rw [if_neg ht, hl, rd]
    simp

theorem store_it {ops : Array Oper} {rest : List Oper} {o : Oper} {a : Act} {w : World} {Q : Exit → Act → World → Prop} (hgd : o.guard = none) (x y : Operand) (ho : o.op = .store 65 x y)
    (g : Nat) (k n k0 n0 : Int) (s t s0 t0 : ByteArray) (hx : a.eval x = .pointer (some ⟨g, 0, none⟩)) (hy : a.eval y = .agg #[.int .i64 k, .int .i64 n, .string s, .string t])
    (hg : ItAt w g 65 k0 n0 s0 t0)
    (h : wpList Tryd.prog ops Q rest (a.put o.dst undef) (w.setRow g #[.int .i64 k, .int .i64 n, .string s, .string t])) : wpList Tryd.prog ops Q (o :: rest) a w :=
  wpList_store_row hgd 65 x y ho g #[.int .i64 k, .int .i64 n, .string s, .string t] hx hy 65 #[.int .i64 k0, .int .i64 n0, .string s0, .string t0] hg (by kernel_rfl) rfl (by simp [Value.oneCell']) h
theorem ItAt.set {w : World} {g : Nat} {t : TypeId} {k0 n0 : Int} {s0 t0 : ByteArray} (h : ItAt w g t k0 n0 s0 t0) (k n : Int) (a b : ByteArray) : ItAt (w.setRow g #[.int .i64 k, .int .i64 n, .string a, .string b]) g t k n a b := setRow_heap _ _ _ _ _ _ h
theorem prefDec_grow (v : Value) (zs : List Int) (b : Int) (w : World) (hv : Sl .u8 w v zs) (h : 1 ≤ b ∧ b ≤ 8) :
    Calls Tryd.prog 66 #[v, .int .i64 b] w fun e w' => e = .returned (tup3 (decP (fullP b) zs)) ∧ Below w.heap.size w w' := by
  refine (prefDec_yes v zs b w hv h).mono ?_
  rintro e w' ⟨rfl, n, rfl⟩
  exact ⟨rfl, below_drewN (Below.refl _ _) n⟩
theorem decP_okm {b : Int} (hb : 1 ≤ b ∧ b ≤ 8) {zs : List Int} (hf : Fit .u8 zs) {n p : Int} (h : decP (fullP b) zs = (n, p, 0)) : 0 ≤ n ∧ n ≤ 16777215 ∧ 1 ≤ p ∧ p ≤ zs.length := by
  have hz : ∀ k, 0 ≤ at0 zs k := fun k => (hf.byte k).1
  have h1 : 0 < fullP b ∧ fullP b ≤ 255 := by
    have : b = 1 ∨ b = 2 ∨ b = 3 ∨ b = 4 ∨ b = 5 ∨ b = 6 ∨ b = 7 ∨ b = 8 := by omega
    rcases this with rfl | rfl | rfl | rfl | rfl | rfl | rfl | rfl <;> decide
  generalize fullP b = m at h h1
  unfold decP at h
  split at h
  · cases h
  · split at h
    · rename_i h2
      cases h
      have := Int.emod_nonneg (at0 zs 0) (show m + 1 ≠ 0 by omega)
      omega
    · have := decF_ok (zs := zs) (f := 4) (i := 1) (t := 1) (n := m) hz (by omega) (by omega) (by rw [h])
      rw [h] at this
      exact this
theorem emp_str : strOfNums [] = ⟨#[]⟩ := rfl

set_option maxHeartbeats 2000000 in
theorem iDec_nil (v : Value) (most : Int) (w : World) (hv : Sl .u8 w v []) :
    Calls Tryd.prog 40 #[v, .int .i64 most] w fun e w' => e = .returned (decI most []).val ∧ Below w.heap.size w w' := by
  have HE : Hid (decI most [] = .err 2) := decI_nil
  obtain ⟨av, cv, rfl, _⟩ := id hv
  go_enter Tryd.func40, Tryd.ntmps40
  go_wp2_with fail
  refine bodyPost_ret (results_row_tmp2 rfl _ _ w.heap.size 65 _ (0, 0) _ rfl (heap_alloc_new w _) Tryd.underlying65 rfl (by kernel_rfl)) rfl ?_
  exact ⟨by rw [HE.out]; rfl, (Below.refl _ _).alloc (Nat.le_refl _) _⟩

set_option maxHeartbeats 4000000 in
theorem iDec_some (v : Value) (zs : List Int) (most : Int) (w : World) (hv : Sl .u8 w v zs) (hz0 : 0 < zs.length) (hz : zs.length ≤ 1000000) (hT : ShT w) :
    Calls Tryd.prog 40 #[v, .int .i64 most] w fun e w' => e = .returned (decI most zs).val ∧ Below w.heap.size w w' := by
  have HF := Lib.hid hv.fit
  have hby := hv.fit.byte 0
  rcases hv.parts with ⟨rfl, a, cap, rfl⟩ | ⟨hp, blk, off, cap, rfl, hlc, hcm, hbl, hc⟩
  · simp at hz0
  obtain ⟨k, hk⟩ : ∃ k, kindI (at0 zs 0) = k := ⟨_, rfl⟩
  have hkb : 0 ≤ k ∧ k < 5 := by rw [← hk]; exact kindI_bound _
  have hx0 := hc 0 hz0
  rw [Nat.add_zero] at hx0
  obtain ⟨c, hcc⟩ : ∃ c, at0 zs 0 = c := ⟨_, rfl⟩
  rw [hcc] at hx0 hby hk
  have HK : Hid (kindI (at0 zs 0) = k) := by show _ = _; rw [hcc, hk]
  obtain ⟨K, hix, hcs⟩ := sh_row hkb.1 hkb.2
  have HC := Lib.hid hcs
  have HT := Lib.hid hT
  have HKB := Lib.hid hkb
  obtain ⟨m, hm⟩ : ∃ m, bitsI k = m := ⟨_, rfl⟩
  have hm8 : 1 ≤ m ∧ m ≤ 8 := by rw [← hm]; have := bitsI_bound k; omega
  obtain ⟨A, hA⟩ : ∃ A, aboveI k = A := ⟨_, rfl⟩
  obtain ⟨L, hL⟩ : ∃ L, leastI k = L := ⟨_, rfl⟩
  obtain ⟨T, hTx⟩ : ∃ T, textsI k = T := ⟨_, rfl⟩
  rw [hm, hA, hL, hTx] at HC
  obtain ⟨n, p, e0, hd⟩ : ∃ n p e, decP (fullP m) zs = (n, p, e) := ⟨_, _, _, rfl⟩
  have HM : Hid (bitsI k = m ∧ leastI k = L ∧ decP (fullP m) zs = (n, p, e0)) := ⟨hm, hL, hd⟩
  have HV := Lib.hid hv
  have hlt0 : (0 : Int) < zs.length := by omega
  have en : ((zs.length : Int) == 0) = false := beq_eq_false_iff_ne.2 (by omega)
  have HKO : Hid (∀ W : World, Below w.heap.size w W → Calls Tryd.prog 65 #[.int .i64 c] W fun e w' => e = .returned (.int .i64 k) ∧ Below W.heap.size W w') := by
    intro W hW
    rw [← hk]
    exact kindOf_any c W (HT.out.low hW HT.out.lt) hby.1 hby.2
  have HZ := Lib.hid hz
  have HZ0 := Lib.hid hz0
  clear hv hT hc hcs hk hkb hm hA hL hTx hcc hd hz hz0
  go_enter Tryd.func40, Tryd.ntmps40
  go_wp2_with fail
  refine (HKO.out _ ((Below.refl _ _).alloc (Nat.le_refl _) _)).mono ?_
  rintro e w1 ⟨rfl, hb1⟩
  have hI1 : ItAt w1 w.heap.size 65 0 0 ⟨#[]⟩ ⟨#[]⟩ := (hb1.block _ (by simp)).trans (heap_alloc_new _ _)
  have hB1 : Below w.heap.size w w1 := ((Below.refl _ _).alloc (Nat.le_refl _) _).trans (hb1.mono (by simp))
  obtain ⟨s0, s1, s2, s3⟩ := HC.out _ (HT.out.low hB1 HT.out.lt)
  have H1 := Lib.hid (And.intro hI1 hB1)
  clear hb1 hI1 hB1 HKO
  go_wp2_with fail
  refine (prefDec_grow _ zs m _ ((HV.out.below H1.out.2).alloc _) hm8).mono ?_
  rintro e w2 ⟨rfl, hb2⟩
  rw [HM.out.2.2, tup3]
  have hS : w2.heap[w1.heap.size]? = some (.cells #[.int .i64 m, .int .i64 A, .int .i64 L, .bool T] 103 (0, 0)) := (hb2.block _ (by simp)).trans (heap_alloc_new _ _)
  have hg2 : Below w1.heap.size w1 w2 := ((Below.refl _ _).alloc (Nat.le_refl _) _).trans (hb2.mono (by simp))
  have hI2 := H1.out.1.grown hg2
  have hB2 := H1.out.2.trans (hg2.mono H1.out.2.size)
  have H2 := Lib.hid (And.intro hI2 hB2)
  have cL := blk_cell (j := 2) hS rfl
  clear hS hg2 hb2 hI2 hB2 H1 s0 s1 s2 s3 hx0 hix
  by_cases h0 : e0 = 0
  · subst h0
    by_cases hl : n < L
    · have HE : Hid (decI most zs = .err 3) := by
        show _ = _
        exact decI_less HZ0.out HK.out (by rw [HM.out.1]; exact HM.out.2.2) (by rw [HM.out.2.1]; exact hl)
      have d1 : decide (n < L) = true := decide_eq_true hl
      clear hl
      go_wp2_with (with_reducible refine store_it rfl (.tmp 4) (.tmp 42) rfl w.heap.size 0 0 0 0 _ _ _ _ rfl rfl H2.out.1 ?_)
      refine bodyPost_ret (results_row_tmp2 rfl _ _ w.heap.size 65 _ (0, 0) _ rfl (H2.out.1.set _ _ _ _) Tryd.underlying65 rfl (by kernel_rfl)) rfl ⟨?_, below_setRow H2.out.2 (Nat.le_refl _) _⟩
      rw [HE.out]; rfl
    · have d1 : decide (n < L) = false := decide_eq_false hl
      obtain ⟨hn0, hn1, hp0, hp1⟩ := decP_okm hm8 HF.out HM.out.2.2
      obtain ⟨ta, tc, te, hT2⟩ : ∃ ta tc te, rd (min most 65536) (zs.drop p.toNat) (offsI k n).length 0 = (ta, tc, te) := ⟨_, _, _, rfl⟩
      have HE : Hid (decI most zs = if te ≠ 0 then .err te else ⟨k, n, if n = 0 then ta.getD 0 [] else [], if n = 0 then ta.getD 1 [] else ta.getD 0 [], p + tc, 0⟩) := by
        show _ = _
        rw [decI_rd HF.out HZ0.out HK.out (by rw [HM.out.1]; exact HM.out.2.2) (by rw [HM.out.2.1]; exact hl) (by omega), hT2]
      obtain ⟨v', hrv, hsv⟩ := (HV.out.below H2.out.2).from_ Tryd.slice22 Tryd.size22 p (by omega) hp1
      have HRT : Hid (∀ q, q = min most 65536 → Calls Tryd.prog 67 #[.pointer (some ⟨w2.heap.size, 0, none⟩), v', .int .i64 q] (w2.alloc (.cells #[.int .i64 k, .int .i64 n, .string ⟨#[]⟩, .string ⟨#[]⟩] 65)) fun e w' =>
          e = .returned (.tuple #[.int .i64 tc, .int .i64 te]) ∧ Below w2.heap.size w2 w' ∧ (te = 0 → ItAt w' w2.heap.size 65 k n (nmOf n ta) (vlOf n ta))) := by
        intro q hq
        subst hq
        have := readTexts_any w2 w2.heap.size k n v' (zs.drop p.toNat) (min most 65536) (w2.alloc (.cells #[.int .i64 k, .int .i64 n, .string ⟨#[]⟩, .string ⟨#[]⟩] 65)) HKB.out.1 HKB.out.2 hsv (by rw [List.length_drop]; have := HZ.out; omega) (HT.out.low H2.out.2 HT.out.lt)
          ((Below.refl _ _).alloc (Nat.le_refl _) _) (Nat.le_refl _) (heap_alloc_new _ _)
        rw [hT2] at this
        exact this
      have HQ : Hid (te = 0 → 0 ≤ tc ∧ tc ≤ 1000000) := by
        intro h
        subst h
        have h1 := HZ.out
        have := rd_used (HF.out.drop _) (by omega) (by omega) hT2
        rw [List.length_drop] at this
        omega
      clear hl hT2 hsv HT HK HM HC HV
      go_wp2_with fail
      all_goals
        refine Calls.mono (HRT.out _ (by omega)) ?_
        rintro e w5 ⟨rfl, hb5, hI5⟩
        have H5 := Lib.hid (And.intro (H2.out.1.grown hb5) (H2.out.2.trans (hb5.mono H2.out.2.size)))
        clear hb5 HRT hrv
        have hz6 := HZ.out
        by_cases hf0 : te = 0
        · subst hf0
          have hI5 := hI5 rfl
          have hq := HQ.out rfl
          have c0 := hI5.c0
          have c1 := hI5.c1
          have c2 := hI5.c2
          have c3 := hI5.c3
          clear hI5
          go_wp2_with (with_reducible refine store_it rfl (.tmp 4) (.tmp 59) rfl w.heap.size k n 0 0 _ _ _ _ rfl rfl H5.out.1 ?_)
          refine bodyPost_ret (results_row_tmp2 rfl _ _ w.heap.size 65 _ (0, 0) _ rfl (H5.out.1.set _ _ _ _) Tryd.underlying65 rfl (by kernel_rfl)) rfl ⟨?_, below_setRow H5.out.2 (Nat.le_refl _) _⟩
          rw [HE.out, if_neg (by simp)]; rfl
        · have d2 : (te != 0) = true := by simp [hf0]
          have HX : Hid (decI most zs = .err te) := by show _ = _; rw [HE.out, if_pos hf0]
          clear hI5
          go_wp2_with (with_reducible refine store_it rfl (.tmp 4) (.tmp 57) rfl w.heap.size 0 0 0 0 _ _ _ _ rfl rfl H5.out.1 ?_)
          refine bodyPost_ret (results_row_tmp2 rfl _ _ w.heap.size 65 _ (0, 0) _ rfl (H5.out.1.set _ _ _ _) Tryd.underlying65 rfl (by kernel_rfl)) rfl ⟨?_, below_setRow H5.out.2 (Nat.le_refl _) _⟩
          rw [HX.out]; rfl
  · have HE : Hid (decI most zs = .err e0) := by
      show _ = _
      exact decI_err HZ0.out HK.out (by rw [HM.out.1]; exact HM.out.2.2) h0
    have d2 : (e0 != 0) = true := by simp [h0]
    clear h0
    go_wp2_with (with_reducible refine store_it rfl (.tmp 4) (.tmp 36) rfl w.heap.size 0 0 0 0 _ _ _ _ rfl rfl H2.out.1 ?_)
    refine bodyPost_ret (results_row_tmp2 rfl _ _ w.heap.size 65 _ (0, 0) _ rfl (H2.out.1.set _ _ _ _) Tryd.underlying65 rfl (by kernel_rfl)) rfl ⟨?_, below_setRow H2.out.2 (Nat.le_refl _) _⟩
    rw [HE.out]; rfl

theorem iDec_any (v : Value) (zs : List Int) (most : Int) (w : World) (hv : Sl .u8 w v zs) (hz : zs.length ≤ 1000000) (hT : ShT w) :
    Calls Tryd.prog 40 #[v, .int .i64 most] w fun e w' => e = .returned (decI most zs).val ∧ Below w.heap.size w w' := by
  by_cases h0 : 0 < zs.length
  · exact iDec_some v zs most w hv h0 hz hT
  · obtain rfl : zs = [] := List.eq_nil_of_length_eq_zero (by omega)
    exact iDec_nil v most w hv
end Go.Proofs.YtenapfpkegoonaaDoor

/-
  The document's own answers of layer 3.
-/
namespace Go.Proofs.YtenapfpkegoonaaDoor
open Go.RowKit

theorem power3_any (b : Int) (w : World) (h1 : 1 ≤ b) (h8 : b ≤ 8) :
    Calls Tryd.prog 73 #[.int .i64 b] w fun e w' => e = .returned (.int .i64 (fullP b + 1)) ∧ w = w' := by
  obtain ⟨S, rfl⟩ := Int.eq_ofNat_of_zero_le (by omega : 0 ≤ b)
  have HS := Lib.hid (show fullP (S : Int) + 1 = 2 ^ S by simp [fullP])
  go_enter Tryd.func73, Tryd.ntmps73
  go_wp2_with fail
  go_loop [3, 4] (fun n i => ∃ k : Nat, k ≤ S ∧ i = .int .i64 k ∧ n = .int .i64 (2 ^ k)) (fun _ i => S - (intOf i).toNat)
  case atStart => exact ⟨0, Nat.zero_le _, rfl, rfl⟩
  case round =>
    obtain ⟨k, hk, rfl, rfl⟩ := hrel
    by_cases hlt : k < S
    · obtain ⟨p, hp⟩ : ∃ p : Int, p = 2 ^ k := ⟨_, rfl⟩
      have hb : 1 ≤ p ∧ p ≤ 128 := by
        rw [hp]
        rcases (show k = 0 ∨ k = 1 ∨ k = 2 ∨ k = 3 ∨ k = 4 ∨ k = 5 ∨ k = 6 ∨ k = 7 by omega) with rfl | rfl | rfl | rfl | rfl | rfl | rfl | rfl <;> decide
      have HP := Lib.hid hp
      rw [← hp]
      clear hp
      go_wp2_with fail
      go_round
      case rel => exact ⟨k + 1, by omega, by go_num, by rw [Int.pow_succ, ← HP.out, Int.mul_comm]⟩
      case measure => simp [intOf]; omega
    · obtain rfl : k = S := by omega
      go_wp2_with fail
      go_ret
      exact ⟨by rw [HS.out]; rfl, rfl⟩

theorem refEnc3_no (n b a : Int) (w : World) (h : ¬ encOk n b a) :
    Calls Tryd.prog 60 #[.int .i64 n, .int .i64 b, .int .i64 a] w fun e w' => e = .returned (.tuple #[.slice none 0 0, .int .i64 1]) ∧ w = w' := by
  by_cases hr : 0 ≤ n ∧ n ≤ 16777215 ∧ 1 ≤ b ∧ b ≤ 8 ∧ 0 ≤ a ∧ a ≤ 255
  · obtain ⟨n0, n1, b1, b8, a0, a1⟩ := hr
    have h3 : (a % (fullP b + 1) != 0) = true := by
      rw [bne_iff_ne]
      exact fun h0 => h ⟨⟨n0, n1⟩, ⟨b1, b8⟩, a0, a1, h0⟩
    clear h
    have hm := fullP_bound b1 b8
    obtain ⟨m, hM⟩ : ∃ m, fullP b = m := ⟨_, rfl⟩
    have HM := Lib.hid hM
    rw [hM] at h3 hm
    clear hM
    go_enter Tryd.func60, Tryd.ntmps60
    go_wp2_with (go_at_call 73; refine (power3_any _ _ (by omega) (by omega)).mono ?_; rintro e w' ⟨rfl, rfl⟩; rw [HM.out])
    go_ret2
    exact ⟨rfl, rfl⟩
  · clear h
    have hr : n < 0 ∨ 16777215 < n ∨ b < 1 ∨ 8 < b ∨ a < 0 ∨ 255 < a := by omega
    have H := Lib.hid hr
    clear hr
    go_enter Tryd.func60, Tryd.ntmps60
    go_wp2_with fail
    all_goals first
      | (exfalso; have := H.out; omega)
      | (go_ret2; exact ⟨rfl, rfl⟩)

theorem refEnc3_own (n b a : Int) (w : World) (h : encOk n b a) :
    Calls Tryd.prog 60 #[.int .i64 n, .int .i64 b, .int .i64 a] w fun e w' => ∃ v, e = .returned (.tuple #[v, .int .i64 0]) ∧ w'.ownsRow w.heap.size 5 1 v (encP (fullP b) a n).length ((encP (fullP b) a n).map (Value.int .u8)) ∧ Below w.heap.size w w' := by
  obtain ⟨h1, h2, h3⟩ := h
  have hab := above_bound h2.1 h2.2 h3.2.1 h3.2.2
  have hm := fullP_bound h2.1 h2.2
  obtain ⟨b1, b8⟩ := h2
  obtain ⟨n0, n1⟩ := h1
  obtain ⟨a0, a1, ha⟩ := h3
  have hq : (a % (fullP b + 1) != 0) = false := by simp [ha]
  obtain ⟨m, hM⟩ : ∃ m, fullP b = m := ⟨_, rfl⟩
  have HM := Lib.hid hM
  rw [hM] at hab hm hq ⊢
  clear hM ha
  by_cases hlt : n < m
  · have HE := Lib.hid (show encP m a n = [a + n] by rw [encP, if_pos hlt])
    go_enter Tryd.func60, Tryd.ntmps60
    go_wp2_with (go_at_call 73; refine (power3_any _ _ (by omega) (by omega)).mono ?_; rintro e w' ⟨rfl, rfl⟩; rw [HM.out])
    go_ret2
    rw [HE.out]
    exact ⟨_, rfl, owned_lit [a + n] (Nat.le_refl _) rfl rfl rfl (by simp [maxLen]), (Below.refl _ _).alloc (Nat.le_refl _) _⟩
  · have HE := Lib.hid (show encP m a n = [a + m] ++ grpL 4 (n - m) by rw [encP, if_neg hlt]; rfl)
    go_enter Tryd.func60, Tryd.ntmps60
    go_wp2_with (go_at_call 73; refine (power3_any _ _ (by omega) (by omega)).mono ?_; rintro e w' ⟨rfl, rfl⟩; rw [HM.out])
    go_loopw [9, 10] (fun v u wr => ∃ (out : List Int) (f : Nat) (r : Int), u = .int .i64 r ∧ wr.ownsRow w.heap.size 5 1 v out.length (out.map (Value.int .u8)) ∧ Hid (out ++ grpL f r = encP m a n) ∧ Hid (r < 128 * 128 ^ f) ∧ 0 ≤ r ∧ r ≤ 16777215 ∧ out.length + f ≤ 5 ∧ Below w.heap.size w wr) (fun _ u _ => (intOf u).toNat)
    case atStart =>
      exact ⟨[a + m], 4, n - m, rfl, owned_lit [a + m] (Nat.le_refl w.heap.size) rfl rfl rfl (by simp [maxLen]), HE.out.symm, (by show n - m < 128 * 128 ^ 4; omega), by omega, by omega, by simp, (Below.refl _ _).alloc (Nat.le_refl _) _⟩
    case round =>
      obtain ⟨out, f, r, rfl, hO, HQ, HR, r0, r1, hl, hB⟩ := hrel
      obtain ⟨ao, cap, rfl, _⟩ := owned_shape hO
      by_cases hr : r < 128
      · have d1 : decide (128 ≤ r) = false := decide_eq_false (by omega)
        have HG := Lib.hid (grpL_small (f := f) hr)
        have hz := hB.size
        go_wp2_with (at_builtin; refine app_ints rfl (.tmp 68) (.tmp 71) 30 rfl w.heap.size 5 .u8 1 Tryd.underlying30 Tryd.info5' _ out.length out rfl (hO.alloc _) _ [r] rfl (Sl.lit' [r] rfl rfl rfl (by intro z hz; rw [List.mem_singleton] at hz; subst hz; exact WalkArith.wf_u8 (by omega)) (by simp [maxLen])) (by simp; omega) (by simp [maxLen]; omega) (by simp; omega) ?_; intro v4 w4 hO4 hc4 hg4)
        go_ret2
        rw [← HQ.out, HG.out]
        exact ⟨_, rfl, by simpa using hO4, (hB.alloc hz _).trans hc4⟩
      · have d1 : decide (128 ≤ r) = true := decide_eq_true (by omega)
        obtain ⟨f, rfl⟩ : ∃ g, f = g + 1 := by
          cases f with
          | zero => have := HR.out; simp at this; omega
          | succ g => exact ⟨g, rfl⟩
        have HG := Lib.hid (grpL_great (f := f) (r := r) (by omega))
        have hz := hB.size
        go_wp2_with (at_builtin; refine app_ints rfl (.tmp 59) (.tmp 64) 30 rfl w.heap.size 5 .u8 1 Tryd.underlying30 Tryd.info5' _ out.length out rfl (hO.alloc _) _ [128 + r % 128] rfl (Sl.lit' [128 + r % 128] rfl rfl rfl (by intro z hz; rw [List.mem_singleton] at hz; subst hz; exact WalkArith.wf_u8 (by omega)) (by simp [maxLen])) (by simp; omega) (by simp [maxLen]; omega) (by simp; omega) ?_; intro v4 w4 hO4 hc4 hg4)
        go_roundw
        case rel =>
          refine ⟨out ++ [128 + r % 128], f, r / 128, rfl, by simpa using hO4, ?_, ?_, by omega, by omega, by simp; omega, (hB.alloc hz _).trans hc4⟩
          · show _ = _
            rw [← HQ.out, HG.out]
            simp
          · show _ < _
            have h1 := HR.out
            rw [Int.pow_succ] at h1
            exact Int.ediv_lt_of_lt_mul (by omega) (by rw [Int.mul_comm _ 128] at h1; rw [Int.mul_comm _ 128]; exact h1)
        case measure => simp [intOf]; omega

set_option maxRecDepth 20000 in
theorem refDec3_no (v : Value) (b : Int) (w : World) (h : ¬ (1 ≤ b ∧ b ≤ 8)) :
    Calls Tryd.prog 46 #[v, .int .i64 b] w fun e w' => e = .returned (tup3 (0, 0, 1)) ∧ w = w' := by
  have H := Lib.hid (show b < 1 ∨ 8 < b by omega)
  clear h
  go_enter Tryd.func46, Tryd.ntmps46
  go_wp2_with fail
  all_goals first
    | (exfalso; have := H.out; omega)
    | (go_ret3; exact ⟨rfl, rfl⟩)

theorem refDec3_yes (v : Value) (zs : List Int) (b : Int) (w : World) (hv : Sl .u8 w v zs) (h : 1 ≤ b ∧ b ≤ 8) :
    Calls Tryd.prog 46 #[v, .int .i64 b] w fun e w' => e = .returned (tup3 (decP (fullP b) zs)) ∧ w = w' := by
  obtain ⟨b1, b8⟩ := h
  have hmax := hv.len
  unfold maxLen at hmax
  rcases hv.parts with ⟨rfl, a, cap, rfl⟩ | ⟨hp, blk, off, cap, rfl, hlc, hcm, hb, hc⟩
  · clear hv
    go_enter Tryd.func46, Tryd.ntmps46
    go_wp2_with fail
    go_ret3
    exact ⟨rfl, rfl⟩
  · have hz := hv.fit.byte 0
    have hm := fullP_bound b1 b8
    have hfit := hv.fit
    have hc0 := hc 0 hp
    rw [Nat.add_zero] at hc0
    clear hv
    obtain ⟨m, hM⟩ : ∃ m, fullP b = m := ⟨_, rfl⟩
    have HM := Lib.hid hM
    rw [hM] at hm ⊢
    clear hM
    have hne : ((zs.length : Int) == 0) = false := by simp; intro e; subst e; simp at hp
    have hq0 : 0 ≤ at0 zs 0 % (m + 1) := Int.emod_nonneg _ (by omega)
    have hq1 : at0 zs 0 % (m + 1) < m + 1 := Int.emod_lt_of_pos _ (by omega)
    by_cases hlt : at0 zs 0 % (m + 1) < m
    · have HD := Lib.hid (show decP m zs = (at0 zs 0 % (m + 1), 1, 0) by rw [decP, if_neg (by simp; intro e; subst e; simp at hp), if_pos hlt])
      clear hc
      go_enter Tryd.func46, Tryd.ntmps46
      go_wp2_with (go_at_call 73; refine (power3_any _ _ (by omega) (by omega)).mono ?_; rintro e w' ⟨rfl, rfl⟩; rw [HM.out])
      go_ret3
      exact ⟨by rw [HD.out]; rfl, rfl⟩
    · have HD := Lib.hid (show decP m zs = decF zs 4 1 1 (at0 zs 0 % (m + 1)) by rw [decP, if_neg (by simp; intro e; subst e; simp at hp), if_neg hlt, show at0 zs 0 % (m + 1) = m by omega])
      go_enter Tryd.func46, Tryd.ntmps46
      go_wp2_with (go_at_call 73; refine (power3_any _ _ (by omega) (by omega)).mono ?_; rintro e w' ⟨rfl, rfl⟩; rw [HM.out])
      clear hc0 hne
      go_loop [8, 9, 10] (fun u s i => ∃ (f k : Nat) (t n : Int), 1 ≤ k ∧ k + f = 5 ∧ i = .int .i64 k ∧ u = .int .i64 n ∧ s = .int .i64 t ∧ Hid (decF zs f k t n = decP m zs) ∧ 0 ≤ n ∧ n ≤ 16777215 ∧ 1 ≤ t ∧ Hid (t = 128 ^ (k - 1))) (fun _ _ i => 5 - (intOf i).toNat)
      case atStart => exact ⟨4, 1, 1, at0 zs 0 % (m + 1), by omega, by omega, rfl, rfl, rfl, HD.out.symm, by omega, by omega, by omega, rfl⟩
      case round =>
        obtain ⟨f, k, t, n, k1, k5, rfl, rfl, rfl, HR, n0, n1, t1, HT⟩ := hrel
        cases f with
        | zero =>
          have d : decide ((k : Int) < 5) = false := decide_eq_false (by omega)
          go_wp2_with fail
          go_ret3
          exact ⟨by rw [← HR.out]; rfl, rfl⟩
        | succ f =>
          have d : decide ((k : Int) < 5) = true := decide_eq_true (by omega)
          have ht : t ≤ 2097152 := by
            have := HT.out
            rcases (show k = 1 ∨ k = 2 ∨ k = 3 ∨ k = 4 by omega) with rfl | rfl | rfl | rfl <;> (simp at this; omega)
          by_cases hlk : k < zs.length
          · have dk : decide ((zs.length : Int) ≤ (k : Int)) = false := decide_eq_false (by omega)
            have hck := hc k hlk
            have hg := hfit.byte k
            have hgm : 0 ≤ at0 zs k % 128 ∧ at0 zs k % 128 ≤ 127 := by omega
            have hp0 : 0 ≤ t * (at0 zs k % 128) := Int.mul_nonneg (by omega) hgm.1
            have hp1 : t * (at0 zs k % 128) ≤ 2097152 * 127 := Int.mul_le_mul ht hgm.2 hgm.1 (by omega)
            by_cases hbig : 16777215 < n + t * (at0 zs k % 128)
            · have HE := Lib.hid (decF_over (f := f) hlk hbig)
              go_wp2_with fail
              go_ret3
              exact ⟨by rw [← HR.out, HE.out]; rfl, rfl⟩
            · by_cases h7 : at0 zs k < 128
              · have HE := Lib.hid (decF_last (f := f) (t := t) (n := n) hlk (by omega) h7)
                go_wp2_with fail
                go_ret3
                exact ⟨by rw [← HR.out, HE.out]; rfl, rfl⟩
              · have HE := Lib.hid (decF_go (f := f) (t := t) (n := n) hlk (by omega) (by omega))
                go_wp2_with fail
                go_round
                case rel => exact ⟨f, k + 1, 128 * t, n + t * (at0 zs k % 128), by omega, by omega, by go_num, rfl, rfl, (by show _ = _; rw [← HR.out, HE.out]), by omega, by omega, by omega, (by show 128 * t = 128 ^ (k + 1 - 1); rw [HT.out, show k + 1 - 1 = (k - 1) + 1 by omega, Int.pow_succ, Int.mul_comm])⟩
                case measure => simp [intOf]; omega
          · have dk : decide ((zs.length : Int) ≤ (k : Int)) = true := decide_eq_true (by omega)
            have HE := Lib.hid (decF_end (f := f) (t := t) (n := n) (i := k) (zs := zs) (by omega))
            go_wp2_with fail
            go_ret3
            exact ⟨by rw [← HR.out, HE.out]; rfl, rfl⟩

end Go.Proofs.YtenapfpkegoonaaDoor

/-
  The document's own answer for layer 5: the text that bytes begin with.
-/
namespace Go.Proofs.YtenapfpkegoonaaDoor
set_option maxRecDepth 20000
open Go.RowKit

set_option maxHeartbeats 2000000 in
set_option maxRecDepth 20000 in
theorem refDec5_any (v : Value) (zs : List Int) (most : Int) (w : World) (hv : Sl .u8 w v zs) (hz : zs.length ≤ 1000000) :
    Calls Tryd.prog 48 #[v, .int .i64 most] w fun e w' => e = .returned (tupL (decL most zs)) ∧ Below w.heap.size w w' := by
  have hfit := hv.fit
  obtain ⟨a, cap, rfl, _⟩ := id hv
  have HV := Lib.hid hv
  clear hv
  obtain ⟨n, p, e, hd⟩ : ∃ n p e, decP (fullP 7) zs = (n, p, e) := ⟨_, _, _, rfl⟩
  by_cases h0 : e = 0
  · subst h0
    have hok := decP_ok hfit (by rw [hd])
    rw [hd] at hok
    simp only [] at hok
    obtain ⟨n0, n1, p1, p2⟩ := hok
    by_cases hm : zs.length - p < n
    · have HE := Lib.hid (decL_more (most := most) hd hm)
      have HD := Lib.hid hd
      have d1 : decide ((zs.length : Int) - p < n) = true := decide_eq_true hm
      clear hm hd
      go_enter Tryd.func48, Tryd.ntmps48
      go_wp2_with fail
      refine (refDec3_yes _ zs 7 _ HV.out (by decide)).mono ?_
      rintro e w' ⟨rfl, rfl⟩
      rw [HD.out, tup3]
      go_wp2_with fail
      go_ret3
      rw [HE.out]
      exact ⟨rfl, Below.refl _ _⟩
    · have hl := cutL_length hd n0 (by omega) (by omega)
      have HR := Lib.hid (decL_read (most := most) hd n0 (by omega) hm)
      have HC := Lib.hid (show cutL zs = (zs.take (p + n).toNat).drop p.toNat by rw [cutL, hd])
      have HD := Lib.hid hd
      have d1 : decide ((zs.length : Int) - p < n) = false := decide_eq_false hm
      clear hd
      obtain ⟨ov, hov, hos⟩ := Sl.range Tryd.slice22 Tryd.size22 HV.out p (p + n) (by omega) (by omega) (by omega)
      rw [← HC.out] at hos
      have HO := Lib.hid hos
      have hcl : (cutL zs).length ≤ 1000000 := by omega
      obtain ⟨b, off, rfl, hbs, hcx⟩ : ∃ b off, a = some ⟨b, off, none⟩ ∧ b < w.heap.size ∧ w.cell? ⟨b, off, none⟩ = some (.int .u8 (at0 zs 0)) := by
        rcases HV.out.parts with ⟨h0, _⟩ | ⟨hp, b, off, c2, he, _, _, h1, h2⟩
        · rw [h0] at p2; simp at p2; omega
        · simp only [Value.slice.injEq] at he
          exact ⟨b, off, he.1, h1, by simpa using h2 0 hp⟩
      have hix : ∀ (q : IntKind) (W : World), (Instr.indexAt 30 (.slice (some ⟨b, off, none⟩) zs.length cap) (.int q 0)).run Tryd.prog W = .ok (.pointer (some ⟨b, off, none⟩)) W := fun q W => sl_index Tryd.slice22 Tryd.size22 b off _ _ 0 (by omega) q W
      have hb0 := hfit.byte 0
      obtain ⟨z, hz0⟩ : ∃ z, at0 zs 0 = z := ⟨_, rfl⟩
      rw [hz0] at hcx hb0 HR
      clear hm
      by_cases hs : 128 ≤ z
      · rw [decide_eq_true hs] at HR
        have d2 : decide (128 ≤ z) = true := decide_eq_true hs
        have e2 : readL true most (cutL zs) = decB most (cutL zs) := rfl
        rw [e2] at HR
        clear e2
        obtain ⟨dt, de, hdd⟩ : ∃ dt de, decB most (cutL zs) = (dt, de) := ⟨_, _, rfl⟩
        rw [hdd] at HR
        have HDD := Lib.hid hdd
        clear hdd hos
        by_cases hde : de = 0
        · have HE : Hid (decL most zs = (dt, p + n, 0)) := by show _ = _; rw [HR.out, if_neg (by simp [hde])]
          subst hde
          go_enter Tryd.func48, Tryd.ntmps48
          go_wp2_with fail
          refine (refDec3_yes _ zs 7 _ HV.out (by decide)).mono ?_
          rintro e w' ⟨rfl, rfl⟩
          rw [HD.out, tup3]
          go_wp2_with fail
          refine (refDec_any ov (cutL zs) most _ HO.out hcl).mono ?_
          rintro e w1 ⟨x, rfl, hx, hb1⟩
          rw [HDD.out] at hx ⊢
          have hc1 := hx.run_str (P := Tryd.prog) 30 9 5 Tryd.underlying30 Tryd.underlying5 Tryd.underlying9
          have HB := Lib.hid hb1
          clear hx hb1
          go_wp2_with fail
          go_ret3
          rw [HE.out]
          exact ⟨rfl, HB.out⟩
        · have HE : Hid (decL most zs = ([], 0, de)) := by show _ = _; rw [HR.out, if_pos hde]
          have d3 : (de != 0) = true := by simp [hde]
          go_enter Tryd.func48, Tryd.ntmps48
          go_wp2_with fail
          refine (refDec3_yes _ zs 7 _ HV.out (by decide)).mono ?_
          rintro e w' ⟨rfl, rfl⟩
          rw [HD.out, tup3]
          go_wp2_with fail
          refine (refDec_any ov (cutL zs) most _ HO.out hcl).mono ?_
          rintro e w1 ⟨x, rfl, hx, hb1⟩
          rw [HDD.out]
          have HB := Lib.hid hb1
          clear hx hb1
          go_wp2_with fail
          go_ret3
          rw [HE.out]
          exact ⟨rfl, HB.out⟩
      · rw [decide_eq_false hs] at HR
        have d2 : decide (128 ≤ z) = false := decide_eq_false hs
        have e2 : readL false most (cutL zs) = if max most 0 < n then ([], 4) else (cutL zs, 0) := by simp only [readL, Bool.false_eq_true, if_false]; rw [hl]
        rw [e2] at HR
        clear e2
        have hc1 := hos.run_str (P := Tryd.prog) 30 9 5 Tryd.underlying30 Tryd.underlying5 Tryd.underlying9
        clear hos
        by_cases hf : max most 0 < n
        · have HE : Hid (decL most zs = ([], 0, 4)) := by show _ = _; rw [HR.out, if_pos hf]; rfl
          have HH := Lib.hid hf
          clear hf
          go_enter Tryd.func48, Tryd.ntmps48
          go_wp2_with fail
          refine (refDec3_yes _ zs 7 _ HV.out (by decide)).mono ?_
          rintro e w' ⟨rfl, rfl⟩
          rw [HD.out, tup3]
          go_wp2_with fail
          all_goals first
            | (exfalso; have h9 := HH.out; rename _ ≤ ite _ _ _ => h7; split at h7 <;> omega)
            | (go_ret3; rw [HE.out]; exact ⟨rfl, Below.refl _ _⟩)
        · have HE : Hid (decL most zs = (cutL zs, p + n, 0)) := by show _ = _; rw [HR.out, if_neg hf]; rfl
          have HH := Lib.hid hf
          clear hf
          go_enter Tryd.func48, Tryd.ntmps48
          go_wp2_with fail
          refine (refDec3_yes _ zs 7 _ HV.out (by decide)).mono ?_
          rintro e w' ⟨rfl, rfl⟩
          rw [HD.out, tup3]
          go_wp2_with fail
          all_goals first
            | (exfalso; have h9 := HH.out; rename ite _ _ _ < _ => h7; split at h7 <;> omega)
            | (go_ret3; rw [HE.out]; exact ⟨rfl, Below.refl _ _⟩)
  · have HE := Lib.hid (decL_err (most := most) hd h0)
    have HD := Lib.hid hd
    have d1 : decide (e = 0) = false := decide_eq_false h0
    clear hd
    go_enter Tryd.func48, Tryd.ntmps48
    go_wp2_with fail
    refine (refDec3_yes _ zs 7 _ HV.out (by decide)).mono ?_
    rintro e w' ⟨rfl, rfl⟩
    rw [HD.out, tup3]
    go_wp2_with fail
    go_ret3
    rw [HE.out]
    exact ⟨rfl, Below.refl _ _⟩
end Go.Proofs.YtenapfpkegoonaaDoor

/-
  The document's own answer for layer 8: the item that bytes begin with.
-/
namespace Go.Proofs.YtenapfpkegoonaaDoor
set_option maxRecDepth 20000
open Go.RowKit

theorem decI_plain {most : Int} {zs : List Int} {k n p : Int} (hz : 0 < zs.length) (hk : kindI (at0 zs 0) = k) (hd : decP (fullP (bitsI k)) zs = (n, p, 0)) (hn : ¬ n < leastI k) (ht : textsI k = false) : decI most zs = ⟨k, n, [], [], p, 0⟩ := by
  rw [decI, if_neg (by omega), hk, hd, if_neg (by simp), if_neg hn, if_neg (by simp [ht])]
theorem decI_one {most : Int} {zs : List Int} {k n p : Int} (hz : 0 < zs.length) (hk : kindI (at0 zs 0) = k) (hd : decP (fullP (bitsI k)) zs = (n, p, 0)) (hn : ¬ n < leastI k) (ht : textsI k = true) (h0 : n ≠ 0) : decI most zs = decV most zs k n [] p := by
  rw [decI, if_neg (by omega), hk, hd, if_neg (by simp), if_neg hn, if_pos ht, if_neg h0]
theorem decI_two {most : Int} {zs : List Int} {k p : Int} (hz : 0 < zs.length) (hk : kindI (at0 zs 0) = k) (hd : decP (fullP (bitsI k)) zs = (0, p, 0)) (hn : ¬ 0 < leastI k) (ht : textsI k = true) : decI most zs = decNV most zs k 0 p := by
  rw [decI, if_neg (by omega), hk, hd, if_neg (by simp), if_neg hn, if_pos ht, if_pos rfl]

theorem store_it30 {ops : Array Oper} {rest : List Oper} {o : Oper} {a : Act} {w : World} {Q : Exit → Act → World → Prop} (hgd : o.guard = none) (x y : Operand) (ho : o.op = .store 67 x y)
    (g : Nat) (k n k0 n0 : Int) (s t s0 t0 : ByteArray) (hx : a.eval x = .pointer (some ⟨g, 0, none⟩)) (hy : a.eval y = .agg #[.int .i64 k, .int .i64 n, .string s, .string t])
    (hg : ItAt w g 67 k0 n0 s0 t0)
    (h : wpList Tryd.prog ops Q rest (a.put o.dst undef) (w.setRow g #[.int .i64 k, .int .i64 n, .string s, .string t])) : wpList Tryd.prog ops Q (o :: rest) a w :=
  wpList_store_row hgd 67 x y ho g #[.int .i64 k, .int .i64 n, .string s, .string t] hx hy 67 #[.int .i64 k0, .int .i64 n0, .string s0, .string t0] hg (by kernel_rfl) rfl (by simp [Value.oneCell']) h
theorem ItAt.put2 {W : World} {g : Nat} {t : TypeId} {k n : Int} {a b : ByteArray} (h : ItAt W g t k n a b) (s : ByteArray) : ItAt (W.setCell ⟨g, 2, none⟩ (.string s)) g t k n s b := by
  unfold ItAt
  rw [heap_setCell_same _ _ 2 _ _ _ h]; rfl
theorem ItAt.put3 {W : World} {g : Nat} {t : TypeId} {k n : Int} {a b : ByteArray} (h : ItAt W g t k n a b) (s : ByteArray) : ItAt (W.setCell ⟨g, 3, none⟩ (.string s)) g t k n a s := by
  unfold ItAt
  rw [heap_setCell_same _ _ 3 _ _ _ h]; rfl

theorem refIDec_nil (v : Value) (most : Int) (w : World) (hv : Sl .u8 w v []) :
    Calls Tryd.prog 24 #[v, .int .i64 most] w fun e w' => e = .returned (decI most []).val ∧ Below w.heap.size w w' := by
  have HE : Hid (decI most [] = .err 2) := decI_nil
  obtain ⟨av, cv, rfl, _⟩ := id hv
  go_enter Tryd.func24, Tryd.ntmps24
  go_wp2_with fail
  refine bodyPost_ret (results_row_tmp2 rfl _ _ w.heap.size 67 _ (0, 0) _ rfl (heap_alloc_new w _) Tryd.underlying67 rfl (by kernel_rfl)) rfl ?_
  exact ⟨by rw [HE.out]; rfl, (Below.refl _ _).alloc (Nat.le_refl _) _⟩

set_option maxHeartbeats 4000000 in
theorem refIDec_some (v : Value) (zs : List Int) (most : Int) (w : World) (hv : Sl .u8 w v zs) (hz0 : 0 < zs.length) (hz : zs.length ≤ 1000000) :
    Calls Tryd.prog 24 #[v, .int .i64 most] w fun e w' => e = .returned (decI most zs).val ∧ Below w.heap.size w w' := by
  have HF := Lib.hid hv.fit
  rcases hv.parts with ⟨rfl, a, cap, rfl⟩ | ⟨hp, blk, off, cap, rfl, hlc, hcm, hbl, hc⟩
  · simp at hz0
  obtain ⟨k, hk⟩ : ∃ k, kindI (at0 zs 0) = k := ⟨_, rfl⟩
  have hkb : 0 ≤ k ∧ k < 5 := by rw [← hk]; exact kindI_bound _
  have hx0 := hc 0 hz0
  rw [Nat.add_zero] at hx0
  obtain ⟨c, hcc⟩ : ∃ c, at0 zs 0 = c := ⟨_, rfl⟩
  rw [hcc] at hx0 hk
  have HK : Hid (kindI (at0 zs 0) = k) := by show _ = _; rw [hcc, hk]
  have HKB := Lib.hid hkb
  obtain ⟨m, hm⟩ : ∃ m, bitsI k = m := ⟨_, rfl⟩
  have hm8 : 1 ≤ m ∧ m ≤ 8 := by rw [← hm]; have := bitsI_bound k; omega
  obtain ⟨n, p, e0, hd⟩ : ∃ n p e, decP (fullP m) zs = (n, p, e) := ⟨_, _, _, rfl⟩
  have HM : Hid (bitsI k = m ∧ decP (fullP m) zs = (n, p, e0)) := ⟨hm, hd⟩
  have HV := Lib.hid hv
  have hlt0 : (0 : Int) < zs.length := by omega
  have en : ((zs.length : Int) == 0) = false := beq_eq_false_iff_ne.2 (by omega)
  have HZ := Lib.hid hz
  have HZ0 := Lib.hid hz0
  have HKI := Lib.hid hk
  clear hv hc hk hkb hm hcc hd hz hz0
  go_enter Tryd.func24, Tryd.ntmps24
  go_wp2_with fail
  refine (refKind_any c _).mono ?_
  rintro e w1 ⟨rfl, rfl⟩
  rw [HKI.out]
  go_wp2_with fail
  refine (refBits_any k _ HKB.out.1 HKB.out.2).mono ?_
  rintro e w1 ⟨rfl, rfl⟩
  rw [HM.out.1]
  go_wp2_with fail
  refine (refDec3_yes _ zs m _ (HV.out.alloc _) hm8).mono ?_
  rintro e w1 ⟨rfl, rfl⟩
  rw [HM.out.2, tup3]
  obtain ⟨w2, hw2⟩ : ∃ w2, w.alloc (.cells #[.int .i64 0, .int .i64 0, .string ⟨#[]⟩, .string ⟨#[]⟩] 67) = w2 := ⟨_, rfl⟩
  have hI2 : ItAt w2 w.heap.size 67 0 0 ⟨#[]⟩ ⟨#[]⟩ := hw2 ▸ heap_alloc_new _ _
  have hB2 : Below w.heap.size w w2 := hw2 ▸ (Below.refl _ _).alloc (Nat.le_refl _) _
  rw [hw2]
  have H2 := Lib.hid (And.intro hI2 hB2)
  clear hI2 hB2 hw2 hx0 HKI
  by_cases h0 : e0 = 0
  · subst h0
    have HHD : Hid (decP (fullP (bitsI k)) zs = (n, p, 0)) := by show _ = _; rw [HM.out.1]; exact HM.out.2
    obtain ⟨hn0, hn1, hp0, hp1⟩ := decP_okm hm8 HF.out HM.out.2
    by_cases hl : n < leastI k
    · have HE : Hid (decI most zs = .err 3) := decI_less HZ0.out HK.out HHD.out hl
      have hk0 : k = 0 ∧ n = 0 := by unfold leastI at hl; split at hl <;> omega
      obtain ⟨rfl, rfl⟩ := hk0
      clear hl
      go_wp2_with (with_reducible refine store_it30 rfl (.tmp 4) (.tmp 45) rfl w.heap.size 0 0 0 0 _ _ _ _ rfl rfl H2.out.1 ?_)
      refine bodyPost_ret (results_row_tmp2 rfl _ _ w.heap.size 67 _ (0, 0) _ rfl (H2.out.1.set _ _ _ _) Tryd.underlying67 rfl (by kernel_rfl)) rfl ⟨?_, below_setRow H2.out.2 (Nat.le_refl _) _⟩
      rw [HE.out]; rfl
    · by_cases ht : textsI k = true
      · have ek : k = 1 ∨ k = 2 ∨ k = 3 := by simp [textsI] at ht; omega
        have e0 : (k == 0) = false := beq_eq_false_iff_ne.2 (by omega)
        have e4 : (k == 4) = false := beq_eq_false_iff_ne.2 (by omega)
        obtain ⟨v', hrv, hsv⟩ := (HV.out.below H2.out.2).from_ Tryd.slice22 Tryd.size22 p (by omega) hp1
        have HD5 : Hid (∀ q, q = min most 65536 → ∀ (P : Int) (u : Value) (W : World), Sl .u8 W u (zs.drop P.toNat) → Calls Tryd.prog 48 #[u, .int .i64 q] W fun e w' => e = .returned (tupL (decL (min most 65536) (zs.drop P.toNat))) ∧ Below W.heap.size W w') := by
          intro q hq P u W hu
          subst hq
          exact refDec5_any u (zs.drop P.toNat) _ W hu (by rw [List.length_drop]; have := HZ.out; omega)
        obtain ⟨da, du, de, hd1⟩ : ∃ b v f, decL (min most 65536) (zs.drop p.toNat) = (b, v, f) := ⟨_, _, _, rfl⟩
        have HD1 := Lib.hid hd1
        have HS := Lib.hid hsv
        have hz6 := HZ.out
        by_cases hn : n = 0
        · subst hn
          have HE : Hid (decI most zs = decNV most zs k 0 p) := decI_two HZ0.out HK.out HHD.out hl ht
          clear hl ht hd1 hsv ek HHD HM HK
          by_cases hde : de = 0
          · subst hde
            have hu := decL_used (HF.out.drop _) HD1.out
            rw [List.length_drop] at hu
            obtain ⟨db, dv, df, hd2⟩ : ∃ b v f, decL (min most 65536) (zs.drop (p + du).toNat) = (b, v, f) := ⟨_, _, _, rfl⟩
            have HE2 : Hid (decI most zs = if df ≠ 0 then .err df else ⟨k, 0, da, db, p + du + dv, 0⟩) := by
              show _ = _
              rw [HE.out, decNV, HD1.out, if_neg (by simp), decV, hd2]
            have HD2 := Lib.hid hd2
            obtain ⟨v2, hrv2, hsv2⟩ := (HV.out.below H2.out.2).from_ Tryd.slice22 Tryd.size22 (p + du) (by omega) (by omega)
            have HS2 := Lib.hid hsv2
            clear hd2 hsv2 HE
            go_wp2_with fail
            all_goals
              refine (HD5.out _ (by omega) p v' _ (HS.out.alloc _)).mono ?_
              rintro e w5 ⟨rfl, hb5⟩
              rw [HD1.out, tupL]
              have hI5 : ItAt w5 w2.heap.size 67 k 0 ⟨#[]⟩ ⟨#[]⟩ := (hb5.block _ (by simp)).trans (heap_alloc_new _ _)
              have hB5 : Below w2.heap.size w2 w5 := ((Below.refl _ _).alloc (Nat.le_refl _) _).trans (hb5.mono (by simp))
              have H5 := Lib.hid (And.intro hI5 hB5)
              have c2 := hI5.c2
              have f2 := ItAt.free hI5 2
              have hl5 := hI5.lt
              clear hb5 hI5 hB5 hrv HS
              go_wp2_with fail
              refine (HD5.out _ (by omega) (p + du) v2 _ (HS2.out.below (H5.out.2.setCell (p := ⟨w2.heap.size, 2, none⟩) (Nat.le_refl _) _))).mono ?_
              rintro e w7 ⟨rfl, hb7⟩
              rw [HD2.out, tupL]
              have hI7 := (H5.out.1.put2 (strOfNums da)).grown hb7
              have hB7 : Below w2.heap.size w2 w7 := (H5.out.2.setCell (p := ⟨w2.heap.size, 2, none⟩) (Nat.le_refl _) _).trans (hb7.mono (by simp; omega))
              have H7 := Lib.hid (And.intro (H2.out.1.grown hB7) (And.intro (H2.out.2.trans (hB7.mono H2.out.2.size)) hI7))
              have c0 := hI7.c0
              have c1 := hI7.c1
              have c2 := hI7.c2
              have c3 := hI7.c3
              have f3 := ItAt.free hI7 3
              have hl7 := hI7.lt
              clear hb7 hI7 hB7 H5
              by_cases hf0 : df = 0
              · subst hf0
                have hu2 := decL_used (HF.out.drop _) HD2.out
                rw [List.length_drop] at hu2
                have hsc : Below w2.heap.size w7 (w7.setCell ⟨w2.heap.size, 3, none⟩ (.string (strOfNums db))) := (Below.refl _ _).setCell (p := ⟨w2.heap.size, 3, none⟩) (Nat.le_refl _) _
                have HX : Hid (ItAt (w7.setCell ⟨w2.heap.size, 3, none⟩ (.string (strOfNums db))) w.heap.size 67 0 0 ⟨#[]⟩ ⟨#[]⟩ ∧ Below w.heap.size w (w7.setCell ⟨w2.heap.size, 3, none⟩ (.string (strOfNums db)))) := ⟨H7.out.1.low hsc H2.out.1.lt, H7.out.2.1.trans (hsc.mono H2.out.2.size)⟩
                clear hsc
                go_wp2_with (with_reducible refine store_it30 rfl (.tmp 4) (.tmp 94) rfl w.heap.size k 0 0 0 _ _ _ _ rfl rfl HX.out.1 ?_)
                refine bodyPost_ret (results_row_tmp2 rfl _ _ w.heap.size 67 _ (0, 0) _ rfl (HX.out.1.set _ _ _ _) Tryd.underlying67 rfl (by kernel_rfl)) rfl ⟨?_, below_setRow HX.out.2 (Nat.le_refl _) _⟩
                rw [HE2.out, if_neg (by simp)]; rfl
              · have HX : Hid (decI most zs = .err df) := by show _ = _; rw [HE2.out, if_pos hf0]
                have d2 : (df != 0) = true := by simp [hf0]
                clear hf0
                go_wp2_with (with_reducible refine store_it30 rfl (.tmp 4) (.tmp 90) rfl w.heap.size 0 0 0 0 _ _ _ _ rfl rfl H7.out.1 ?_)
                refine bodyPost_ret (results_row_tmp2 rfl _ _ w.heap.size 67 _ (0, 0) _ rfl (H7.out.1.set _ _ _ _) Tryd.underlying67 rfl (by kernel_rfl)) rfl ⟨?_, below_setRow H7.out.2.1 (Nat.le_refl _) _⟩
                rw [HX.out]; rfl
          · have HX : Hid (decI most zs = .err de) := by show _ = _; rw [HE.out, decNV, HD1.out, if_pos hde]
            have d2 : (de != 0) = true := by simp [hde]
            clear hde HE
            go_wp2_with fail
            all_goals
              refine (HD5.out _ (by omega) p v' _ (HS.out.alloc _)).mono ?_
              rintro e w5 ⟨rfl, hb5⟩
              rw [HD1.out, tupL]
              have hB5 : Below w2.heap.size w2 w5 := ((Below.refl _ _).alloc (Nat.le_refl _) _).trans (hb5.mono (by simp))
              have H5 := Lib.hid (And.intro (H2.out.1.grown hB5) (H2.out.2.trans (hB5.mono H2.out.2.size)))
              clear hb5 hB5
              go_wp2_with (with_reducible refine store_it30 rfl (.tmp 4) (.tmp 72) rfl w.heap.size 0 0 0 0 _ _ _ _ rfl rfl H5.out.1 ?_)
              refine bodyPost_ret (results_row_tmp2 rfl _ _ w.heap.size 67 _ (0, 0) _ rfl (H5.out.1.set _ _ _ _) Tryd.underlying67 rfl (by kernel_rfl)) rfl ⟨?_, below_setRow H5.out.2 (Nat.le_refl _) _⟩
              rw [HX.out]; rfl
        · have HE : Hid (decI most zs = decV most zs k n [] p) := decI_one HZ0.out HK.out HHD.out hl ht hn
          have en0 : (n == 0) = false := beq_eq_false_iff_ne.2 hn
          clear hl ht hd1 hsv ek HHD HM HK hn
          go_wp2_with fail
          all_goals
            refine (HD5.out _ (by omega) p v' _ (HS.out.alloc _)).mono ?_
            rintro e w5 ⟨rfl, hb5⟩
            rw [HD1.out, tupL]
            have hI5 : ItAt w5 w2.heap.size 67 k n ⟨#[]⟩ ⟨#[]⟩ := (hb5.block _ (by simp)).trans (heap_alloc_new _ _)
            have hB5 : Below w2.heap.size w2 w5 := ((Below.refl _ _).alloc (Nat.le_refl _) _).trans (hb5.mono (by simp))
            have H5 := Lib.hid (And.intro (H2.out.1.grown hB5) (H2.out.2.trans (hB5.mono H2.out.2.size)))
            have c0 := hI5.c0
            have c1 := hI5.c1
            have c2 := hI5.c2
            have c3 := hI5.c3
            have f3 := ItAt.free hI5 3
            have hl5 := hI5.lt
            clear hb5 hI5 hB5
            by_cases hde : de = 0
            · subst hde
              have hu := decL_used (HF.out.drop _) HD1.out
              rw [List.length_drop] at hu
              have HX2 : Hid (decI most zs = ⟨k, n, [], da, p + du, 0⟩) := by show _ = _; rw [HE.out, decV, HD1.out, if_neg (by simp)]
              have hsc : Below w2.heap.size w5 (w5.setCell ⟨w2.heap.size, 3, none⟩ (.string (strOfNums da))) := (Below.refl _ _).setCell (p := ⟨w2.heap.size, 3, none⟩) (Nat.le_refl _) _
              have HX : Hid (ItAt (w5.setCell ⟨w2.heap.size, 3, none⟩ (.string (strOfNums da))) w.heap.size 67 0 0 ⟨#[]⟩ ⟨#[]⟩ ∧ Below w.heap.size w (w5.setCell ⟨w2.heap.size, 3, none⟩ (.string (strOfNums da)))) := ⟨H5.out.1.low hsc H2.out.1.lt, H5.out.2.trans (hsc.mono H2.out.2.size)⟩
              clear hsc
              go_wp2_with (with_reducible refine store_it30 rfl (.tmp 4) (.tmp 94) rfl w.heap.size k n 0 0 _ _ _ _ rfl rfl HX.out.1 ?_)
              refine bodyPost_ret (results_row_tmp2 rfl _ _ w.heap.size 67 _ (0, 0) _ rfl (HX.out.1.set _ _ _ _) Tryd.underlying67 rfl (by kernel_rfl)) rfl ⟨?_, below_setRow HX.out.2 (Nat.le_refl _) _⟩
              rw [HX2.out]; rfl
            · have HX : Hid (decI most zs = .err de) := by show _ = _; rw [HE.out, decV, HD1.out, if_pos hde]
              have d2 : (de != 0) = true := by simp [hde]
              clear hde
              go_wp2_with (with_reducible refine store_it30 rfl (.tmp 4) (.tmp 90) rfl w.heap.size 0 0 0 0 _ _ _ _ rfl rfl H5.out.1 ?_)
              refine bodyPost_ret (results_row_tmp2 rfl _ _ w.heap.size 67 _ (0, 0) _ rfl (H5.out.1.set _ _ _ _) Tryd.underlying67 rfl (by kernel_rfl)) rfl ⟨?_, below_setRow H5.out.2 (Nat.le_refl _) _⟩
              rw [HX.out]; rfl
      · have ht : textsI k = false := by simpa using ht
        have HE : Hid (decI most zs = ⟨k, n, [], [], p, 0⟩) := decI_plain HZ0.out HK.out HHD.out hl ht
        have ek : k = 0 ∨ k = 4 := by have := HKB.out; simp [textsI] at ht; omega
        have HI3 : Hid (ItAt (w2.alloc (.cells #[.int .i64 k, .int .i64 n, .string ⟨#[]⟩, .string ⟨#[]⟩] 67)) w.heap.size 67 0 0 ⟨#[]⟩ ⟨#[]⟩ ∧ Below w.heap.size w (w2.alloc (.cells #[.int .i64 k, .int .i64 n, .string ⟨#[]⟩, .string ⟨#[]⟩] 67))) :=
          ⟨H2.out.1.grown ((Below.refl _ _).alloc (Nat.le_refl _) _), H2.out.2.alloc H2.out.2.size _⟩
        have en0 : k = 0 → (n == 0) = false := fun h => beq_eq_false_iff_ne.2 (by subst h; unfold leastI at hl; simp at hl; omega)
        clear hl ht HHD HM HK
        rcases ek with rfl | rfl
        · have en0 := en0 rfl
          go_wp2_with (with_reducible refine store_it30 rfl (.tmp 4) (.tmp 55) rfl w.heap.size 0 n 0 0 _ _ _ _ rfl rfl HI3.out.1 ?_)
          refine bodyPost_ret (results_row_tmp2 rfl _ _ w.heap.size 67 _ (0, 0) _ rfl (HI3.out.1.set _ _ _ _) Tryd.underlying67 rfl (by kernel_rfl)) rfl ⟨?_, below_setRow HI3.out.2 (Nat.le_refl _) _⟩
          rw [HE.out]; rfl
        · clear en0
          go_wp2_with (with_reducible refine store_it30 rfl (.tmp 4) (.tmp 55) rfl w.heap.size 4 n 0 0 _ _ _ _ rfl rfl HI3.out.1 ?_)
          refine bodyPost_ret (results_row_tmp2 rfl _ _ w.heap.size 67 _ (0, 0) _ rfl (HI3.out.1.set _ _ _ _) Tryd.underlying67 rfl (by kernel_rfl)) rfl ⟨?_, below_setRow HI3.out.2 (Nat.le_refl _) _⟩
          rw [HE.out]; rfl
  · have HE : Hid (decI most zs = .err e0) := decI_err HZ0.out HK.out (by rw [HM.out.1]; exact HM.out.2) h0
    have d2 : (e0 != 0) = true := by simp [h0]
    clear h0
    go_wp2_with (with_reducible refine store_it30 rfl (.tmp 4) (.tmp 37) rfl w.heap.size 0 0 0 0 _ _ _ _ rfl rfl H2.out.1 ?_)
    refine bodyPost_ret (results_row_tmp2 rfl _ _ w.heap.size 67 _ (0, 0) _ rfl (H2.out.1.set _ _ _ _) Tryd.underlying67 rfl (by kernel_rfl)) rfl ⟨?_, below_setRow H2.out.2 (Nat.le_refl _) _⟩
    rw [HE.out]; rfl

theorem refIDec_any (v : Value) (zs : List Int) (most : Int) (w : World) (hv : Sl .u8 w v zs) (hz : zs.length ≤ 1000000) :
    Calls Tryd.prog 24 #[v, .int .i64 most] w fun e w' => e = .returned (decI most zs).val ∧ Below w.heap.size w w' := by
  by_cases h0 : 0 < zs.length
  · exact refIDec_some v zs most w hv h0 hz
  · obtain rfl : zs = [] := List.eq_nil_of_length_eq_zero (by omega)
    exact refIDec_nil v most w hv
end Go.Proofs.YtenapfpkegoonaaDoor
