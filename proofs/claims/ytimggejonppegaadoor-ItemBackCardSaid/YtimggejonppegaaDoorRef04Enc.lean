
/-
  The document's own answer of layer 4: a text's bytes.
-/
import Derived.Test.YtimggejonppegaaDoorHuffEnc
namespace Go.Proofs.YtimggejonppegaaDoor
open Go.RowKit

/-- the first ones of a text's codes, as bits -/
def bitR (zs : List Int) (k : Nat) : List Int := bitI (bitsT (zs.take k))
theorem bitR_step {zs : List Int} {k c : Nat} (h : k < zs.length) (hc : at0 zs k = (c : Int)) : bitR zs (k + 1) = bitR zs k ++ bitI (bitsOf (len c) (code c)) := by
  rw [bitR, bitsT_take h, bitI_append, hc, Int.toNat_natCast]; rfl
theorem bitR_len {zs : List Int} (hf : Fit .u8 zs) (k : Nat) : (bitR zs k).length ≤ 30 * zs.length := by
  rw [bitR, bitI_length]; exact bitsT_take_le hf k
/-- padded with so many 1s -/
def padR (zs : List Int) (j : Nat) : List Int := bitI (bitsT zs ++ List.replicate j 1)
theorem padR_step (zs : List Int) (j : Nat) : padR zs (j + 1) = padR zs j ++ [1] := by
  rw [padR, List.replicate_succ', ← List.append_assoc, bitI_append]; rfl
theorem padR_len (zs : List Int) (j : Nat) : (padR zs j).length = (bitsT zs).length + j := by simp [padR, bitI_length]

theorem Tryd.sliceInt : Tryd.prog.underlying 74 = some (.slice (Tryd.prog.elem 74)) := by kernel_rfl
theorem Tryd.sizeElemInt (w : World) : (sizeOf (Tryd.prog.elem 74)).run Tryd.prog w = .ok 1 w := by kernel_rfl
theorem sl_index {P : Program} {t : TypeId} (ht : P.underlying t = some (.slice (P.elem t))) (he : ∀ w, (sizeOf (P.elem t)).run P w = .ok 1 w) (b off n cap k : Nat) (hk : k < n) (q : IntKind) (W : World) :
    (Instr.indexAt t (.slice (some ⟨b, off, none⟩) n cap) (.int q k)).run P W = .ok (.pointer (some ⟨b, off + k, none⟩)) W := by
  rw [run_indexAt_slice W t ⟨b, off, none⟩ n cap q k ht, if_pos ⟨by omega, by omega⟩, he]
  simp [Result.andThen, Go.WideShapes.add_plain]

set_option maxHeartbeats 1000000 in
set_option maxRecDepth 20000 in
theorem refEnc_any (v : Value) (zs : List Int) (w : World) (hv : Sl .u8 w v zs) (hz : zs.length ≤ 1000000) :
    Calls Tryd.prog 46 #[v] w fun e w' => ∃ v', e = .returned v' ∧ Sl .u8 w' v' (enc zs) ∧ Below w.heap.size w w' := by
  have hfit := hv.fit
  obtain ⟨a, cap, rfl, _⟩ := id hv
  have hl0 := heap_alloc_new w (.cells (intsA lenL) 3)
  have hB0 := (Below.refl w.heap.size w).alloc (Nat.le_refl _) (.cells (intsA lenL) 3)
  have hs0 : w.heap.size < (w.alloc (.cells (intsA lenL) 3)).heap.size := by simp
  obtain ⟨W1, hW1⟩ : ∃ W1, w.alloc (.cells (intsA lenL) 3) = W1 := ⟨_, rfl⟩
  have HW1 := Lib.hid hW1
  rw [hW1] at hl0 hB0 hs0
  clear hW1
  go_enter Tryd.func46, Tryd.ntmps46
  go_wp2_with fail
  refine (lengths_any _).mono ?_
  rintro e w' ⟨rfl, rfl⟩
  rw [HW1.out]
  go_wp2_with fail
  refine (refCodes_any _).mono ?_
  rintro e W2 ⟨gc, rfl, hgc, hcd, hb2⟩
  have hl2 := (hb2.block _ hs0).trans hl0
  have hB2 := hB0.trans (hb2.mono hB0.size)
  have hv2 := hv.below hB2
  have hgc2 := (Array.getElem?_eq_some_iff.1 hcd).1
  have hgl2 := (Array.getElem?_eq_some_iff.1 hl2).1
  obtain ⟨gl, hgl⟩ : ∃ gl, w.heap.size = gl := ⟨_, rfl⟩
  rw [hgl] at hl2 hgl2 ⊢
  have HGL := Lib.hid hgl
  have HL2 := Lib.hid hl2
  have HC2 := Lib.hid hcd
  have HV := Lib.hid hv2
  have HB0 := Lib.hid hB2
  clear hb2 hB0 hl0 hs0 hgc hv hgl hl2 hcd hv2 hB2
  go_wp2_with fail
  go_loopg [5, 6] zs.length (fun g s5 s6 wr => ∃ k : Nat, k + g = zs.length ∧ s6 = .int .i64 k ∧ wr.ownsRow W2.heap.size 5 1 s5 (bitR zs k).length ((bitR zs k).map (Value.int .u8)) ∧ Below W2.heap.size W2 wr)
  case atStart => exact ⟨0, by omega, rfl, World.ownsRow_nil _ _ _ _, Below.refl _ _⟩
  case round =>
    obtain ⟨k, hkg, rfl, hO, hB⟩ := hrel
    have HKG := Lib.hid hkg
    have hk : k ≤ zs.length := by omega
    have hbl := bitR_len hfit k
    clear hkg
    obtain ⟨ao, cp, rfl, _⟩ := owned_shape hO
    have HO := Lib.hid hO
    have HB := Lib.hid hB
    by_cases hlt : k < zs.length
    · obtain ⟨b, off, rfl, hbs, hcx⟩ : ∃ b off, a = some ⟨b, off, none⟩ ∧ b < W2.heap.size ∧ W2.cell? ⟨b, off + k, none⟩ = some (.int .u8 (at0 zs k)) := by
        rcases HV.out.parts with ⟨h0, _⟩ | ⟨_, b, off, c2, he, _, _, h1, h2⟩
        · rw [h0] at hlt; simp at hlt
        · simp only [Value.slice.injEq] at he
          exact ⟨b, off, he.1, h1, h2 k hlt⟩
      have hbz := hfit.byte k
      obtain ⟨c, hcc⟩ : ∃ c : Nat, at0 zs k = (c : Int) := ⟨(at0 zs k).toNat, by omega⟩
      have HN := Lib.hid (bitR_step hlt hcc)
      rw [hcc] at hcx hbz
      have hc2 : c < 257 := by omega
      have hl := len_bd hc2
      have hcl := code_lt hc2
      have hc30 : code c < 2147483648 := Nat.lt_of_lt_of_le hcl (Nat.le_trans (Nat.pow_le_pow_right (by omega : 2 > 0) hl.2) (by decide))
      have hcx2 := (hB.cell (p := ⟨b, off + k, none⟩) hbs).trans hcx
      have hll := lenL_cell ((hB.block _ hgl2).trans HL2.out) hc2
      have hcc2 := codeL_cell ((hB.block _ hgc2).trans HC2.out) hc2
      have hbs2 : b < wr.heap.size := Nat.lt_of_lt_of_le hbs hB.size
      have hgl3 : gl < wr.heap.size := Nat.lt_of_lt_of_le hgl2 hB.size
      have hgc3 : gc < wr.heap.size := Nat.lt_of_lt_of_le hgc2 hB.size
      clear hcl hcc hcx hO hB
      go_wp2_with fail
      have HCX := Lib.hid hcx2
      clear hcx2 hll hcc2
      refine wp_region_table 16 [19, 20, 21, 22, 23, 24, 25, 26, 27, 28, 29, 30, 31, 32, 33, 34]
        [[], [], [], [], [(2, 21), (3, 22)], [(4, 23)], [(1, 20), (5, 24)], [(6, 25)], [], [], [], [(9, 28), (10, 29)], [(11, 30)], [(8, 27), (12, 31)], [(13, 32)], [(7, 26), (14, 33)]]
        (fun i v w' => match i with
          | 0 => v = .slice ao (bitR zs k).length cp
          | 1 => v = .slice (some ⟨gc, 0, none⟩) 257 257
          | 2 => v = .slice (some ⟨b, off, none⟩) zs.length cap
          | 3 => v = .int .i64 k
          | 4 => v = .pointer (some ⟨b, off + k, none⟩)
          | 5 => v = .int .u8 c
          | 6 => v = .pointer (some ⟨gc, c, none⟩)
          | 7 => v = .int .i64 (code c)
          | 8 => v = .slice (some ⟨gl, 0, none⟩) 257 257
          | 9 => v = .slice (some ⟨b, off, none⟩) zs.length cap
          | 10 => v = .int .i64 k
          | 11 => v = .pointer (some ⟨b, off + k, none⟩)
          | 12 => v = .int .u8 c
          | 13 => v = .pointer (some ⟨gl, c, none⟩)
          | 14 => v = .int .i64 (len c)
          | 15 => Sl .u8 w' v (bitI (bitsOf (len c) (code c)))
          | _ => True) (by kernel_rfl) (by kernel_rfl) ?tStab ?tOps ?tRest
      case tStab =>
        intro i v w3 w4 h hb
        match i, h with
        | 0, h | 1, h | 2, h | 3, h | 4, h | 5, h | 6, h | 7, h | 8, h | 9, h | 10, h | 11, h | 12, h | 13, h | 14, h => exact h
        | 15, h => exact Sl.below h hb
        | i + 16, _ => trivial
      case tOps =>
        have ix1 : ∀ (q : IntKind) (W : World), (Instr.indexAt 24 (.slice (some ⟨b, off, none⟩) zs.length cap) (.int q k)).run Tryd.prog W = .ok (.pointer (some ⟨b, off + k, none⟩)) W := fun q W => sl_index Tryd.slice22 Tryd.size22 b off _ _ k hlt q W
        have ix2 : ∀ (q : IntKind) (W : World), (Instr.indexAt 74 (.slice (some ⟨gc, 0, none⟩) 257 257) (.int q c)).run Tryd.prog W = .ok (.pointer (some ⟨gc, c, none⟩)) W := fun q W => by
          have := sl_index Tryd.sliceInt Tryd.sizeElemInt gc 0 257 257 c hc2 q W
          rwa [Nat.zero_add] at this
        have ix3 : ∀ (q : IntKind) (W : World), (Instr.indexAt 74 (.slice (some ⟨gl, 0, none⟩) 257 257) (.int q c)).run Tryd.prog W = .ok (.pointer (some ⟨gl, c, none⟩)) W := fun q W => by
          have := sl_index Tryd.sliceInt Tryd.sizeElemInt gl 0 257 257 c hc2 q W
          rwa [Nat.zero_add] at this
        have low : ∀ {W3 : World} {p : Nat}, Below wr.heap.size wr W3 → p < W2.heap.size → W3.heap[p]? = W2.heap[p]? := fun h hp => (h.block _ (Nat.lt_of_lt_of_le hp HB.out.size)).trans (HB.out.block _ hp)
        have hcx3 : ∀ {W3 : World}, Below wr.heap.size wr W3 → W3.cell? ⟨b, off + k, none⟩ = some (.int .u8 c) := fun h => (h.cell (p := ⟨b, off + k, none⟩) hbs2).trans HCX.out
        simp only [List.take_succ_cons, List.take_zero, opsOk]
        refine ⟨?_, ?_, ?_, ?_, ?_, ?_, ?_, ?_, ?_, ?_, ?_, ?_, ?_, ?_, ?_, ?_, trivial⟩
        · intro ρ w3 hc hf ho hB2 hj
          have x0 : ρ (.tmp 5) = .slice ao (bitR zs k).length cp := ho 5 (by decide)
          simp [gives, go_sem, x0, Below.refl]
        · intro ρ w3 hc hf ho hB2 hj
          have x0 : ρ (.tmp 4) = .slice (some ⟨gc, 0, none⟩) 257 257 := ho 4 (by decide)
          simp [gives, go_sem, x0, Below.refl]
        · intro ρ w3 hc hf ho hB2 hj
          have x0 : ρ (.tmp 0) = .slice (some ⟨b, off, none⟩) zs.length cap := ho 0 (by decide)
          simp [gives, go_sem, x0, Below.refl]
        · intro ρ w3 hc hf ho hB2 hj
          have x0 : ρ (.tmp 6) = .int .i64 k := ho 6 (by decide)
          simp [gives, go_sem, x0, Below.refl]
        · intro ρ w3 hc hf ho hB2 hj
          have x0 : ρ (.tmp 21) = .slice (some ⟨b, off, none⟩) zs.length cap := hj (2, 21) (by simp)
          have x1 : ρ (.tmp 22) = .int .i64 k := hj (3, 22) (by simp)
          simp [gives, go_sem, x0, x1, ix1, Below.refl]
        · intro ρ w3 hc hf ho hB2 hj
          have x0 : ρ (.tmp 23) = .pointer (some ⟨b, off + k, none⟩) := hj (4, 23) (by simp)
          have cc := hcx3 hB2
          simp [gives, go_sem, x0, cc, Below.refl]
        · intro ρ w3 hc hf ho hB2 hj
          have x0 : ρ (.tmp 20) = .slice (some ⟨gc, 0, none⟩) 257 257 := hj (1, 20) (by simp)
          have x1 : ρ (.tmp 24) = .int .u8 c := hj (5, 24) (by simp)
          simp [gives, go_sem, x0, x1, ix2, Below.refl]
        · intro ρ w3 hc hf ho hB2 hj
          have x0 : ρ (.tmp 25) = .pointer (some ⟨gc, c, none⟩) := hj (6, 25) (by simp)
          have cc := codeL_cell ((low hB2 hgc2).trans HC2.out) hc2
          simp [gives, go_sem, x0, cc, Below.refl]
        · intro ρ w3 hc hf ho hB2 hj
          have x0 : ρ (.tmp 3) = .slice (some ⟨gl, 0, none⟩) 257 257 := ho 3 (by decide)
          simp [gives, go_sem, x0, Below.refl]
        · intro ρ w3 hc hf ho hB2 hj
          have x0 : ρ (.tmp 0) = .slice (some ⟨b, off, none⟩) zs.length cap := ho 0 (by decide)
          simp [gives, go_sem, x0, Below.refl]
        · intro ρ w3 hc hf ho hB2 hj
          have x0 : ρ (.tmp 6) = .int .i64 k := ho 6 (by decide)
          simp [gives, go_sem, x0, Below.refl]
        · intro ρ w3 hc hf ho hB2 hj
          have x0 : ρ (.tmp 28) = .slice (some ⟨b, off, none⟩) zs.length cap := hj (9, 28) (by simp)
          have x1 : ρ (.tmp 29) = .int .i64 k := hj (10, 29) (by simp)
          simp [gives, go_sem, x0, x1, ix1, Below.refl]
        · intro ρ w3 hc hf ho hB2 hj
          have x0 : ρ (.tmp 30) = .pointer (some ⟨b, off + k, none⟩) := hj (11, 30) (by simp)
          have cc := hcx3 hB2
          simp [gives, go_sem, x0, cc, Below.refl]
        · intro ρ w3 hc hf ho hB2 hj
          have x0 : ρ (.tmp 27) = .slice (some ⟨gl, 0, none⟩) 257 257 := hj (8, 27) (by simp)
          have x1 : ρ (.tmp 31) = .int .u8 c := hj (12, 31) (by simp)
          simp [gives, go_sem, x0, x1, ix3, Below.refl]
        · intro ρ w3 hc hf ho hB2 hj
          have x0 : ρ (.tmp 32) = .pointer (some ⟨gl, c, none⟩) := hj (13, 32) (by simp)
          have cc := lenL_cell ((low hB2 hgl2).trans HL2.out) hc2
          simp [gives, go_sem, x0, cc, Below.refl]
        · intro ρ w3 hc hf ho hB2 hj
          have x0 : ρ (.tmp 26) = .int .i64 (code c) := hj (7, 26) (by simp)
          have x1 : ρ (.tmp 33) = .int .i64 (len c) := hj (14, 33) (by simp)
          simp [gives, go_sem, x0, x1, hf]
          refine (spell_own (code c) (len c) _ (by omega) hc30).mono ?_
          rintro e w4 ⟨v, rfl, hO4, hb4⟩
          exact ⟨_, rfl, Sl.of_own hO4 (bitI_fit (bitsOf_bits _ _)) (by rw [bitI_length, bitsOf_length]; unfold maxLen; omega), hb4⟩
      case tRest =>
        intro X w3 hBw hX
        have x0 : X 0 = .slice ao (bitR zs k).length cp := hX 0 (by decide)
        have x9 : Sl .u8 w3 (X 15) (bitI (bitsOf (len c) (code c))) := hX 15 (by decide)
        simp only [putAll, List.getD_cons_zero, List.getD_cons_succ, Act.put, List.setIfInBounds_toArray, List.set_cons_zero, List.set_cons_succ, List.drop_succ_cons, List.drop_zero]
        have hO3 := owned_below HO.out hBw
        have HB3 := Lib.hid (HB.out.trans (hBw.mono HB.out.size))
        have hbl2 : (bitI (bitsOf (len c) (code c))).length ≤ 30 := by rw [bitI_length, bitsOf_length]; omega
        obtain ⟨av, cv, hXe, _⟩ := id x9
        rw [x0, hXe]
        rw [hXe] at x9
        clear hX hBw
        go_wp2_with (at_builtin; refine app_ints rfl (.tmp 19) (.tmp 34) 24 rfl W2.heap.size 5 .u8 1 Tryd.underlying24 Tryd.info5' _ (bitR zs k).length (bitR zs k) rfl hO3 _ (bitI (bitsOf (len c) (code c))) rfl x9 (by omega) (by unfold maxLen; omega) HB3.out.size ?_; intro v5 w5 hO5 hc5 hg5)
        go_roundg (zs.length - (k + 1))
        case measure => have := HKG.out; omega
        case rel =>
          refine ⟨k + 1, by omega, by go_num, ?_, HB3.out.trans hc5⟩
          rw [HN.out, List.length_append]
          exact hO5
    · obtain rfl : k = zs.length := by omega
      have HP0 : Hid (bitR zs zs.length = padR zs 0) := by show _ = _; rw [bitR, List.take_length, padR]; simp
      go_wp2_with fail
      go_loopg [5] (miss (bitsT zs).length) (fun g s5 wr => ∃ j : Nat, Hid (j + g = miss (bitsT zs).length) ∧ wr.ownsRow W2.heap.size 5 1 s5 (padR zs j).length ((padR zs j).map (Value.int .u8)) ∧ Below W2.heap.size W2 wr)
      case atStart =>
        have hO0 := HO.out
        rw [HP0.out] at hO0
        exact ⟨0, Nat.zero_add _, by rw [HP0.out]; exact hO0, HB.out⟩
      case round =>
        clear hO hB
        obtain ⟨j, HJ, hO, hB⟩ := hrel
        obtain ⟨ao2, cp2, rfl, _⟩ := owned_shape hO
        have hln := padR_len zs j
        have hm7 := miss_lt (bitsT zs).length
        have hml : (bitsT zs).length ≤ 30 * zs.length := bitsT_length zs hfit
        have hj7 : j ≤ 7 := by have := HJ.out; omega
        obtain ⟨N, hN⟩ : ∃ N, (padR zs j).length = N := ⟨_, rfl⟩
        have HNN := Lib.hid hN
        rw [hN] at hln hO ⊢
        have hN30 : N ≤ 30000007 := by omega
        have HLN := Lib.hid hln
        have HO2 := Lib.hid hO
        have HB2 := Lib.hid hB
        by_cases hjm : j < miss (bitsT zs).length
        · have hd : ((N : Int) % 8 != 0) = true := by rw [bne_iff_ne]; unfold miss at hjm; omega
          clear hml hm7 hjm hln hN hB
          go_wp2_with (at_builtin; refine app_ints rfl (.tmp 40) (.tmp 41) 24 rfl W2.heap.size 5 .u8 1 Tryd.underlying24 Tryd.info5' _ N (padR zs j) rfl (hO.alloc _) _ [1] rfl (Sl.lit [1] rfl rfl rfl (by decide) (by decide)) (by rw [HNN.out]; simp; omega) (by rw [HNN.out]; unfold maxLen; simp; omega) (by have := HB2.out.size; simp; omega) ?_; intro v5 w5 hO5 hc5 hg5)
          go_roundg (miss (bitsT zs).length - (j + 1))
          case measure => have := HJ.out; have := HLN.out; have h3 := hd; rw [bne_iff_ne] at h3; unfold miss at *; omega
          case rel =>
            refine ⟨j + 1, ?_, ?_, (HB2.out.alloc HB2.out.size _).trans hc5⟩
            · show _ = _
              have := HJ.out; have := HLN.out; have h3 := hd; rw [bne_iff_ne] at h3; unfold miss at *; omega
            · rw [padR_step, List.length_append]
              exact hO5
        · have hjm2 : j = miss (bitsT zs).length := by have := HJ.out; omega
          have hd : ((N : Int) % 8 != 0) = false := by rw [bne_eq_false_iff_eq]; unfold miss at hjm2; omega
          have HP : Hid (padR zs j = bitI (pad (bitsT zs))) := by show _ = _; rw [hjm2]; rfl
          obtain ⟨P, hP⟩ : ∃ P, pad (bitsT zs) = P := ⟨_, rfl⟩
          obtain ⟨G, hG⟩ : ∃ G, ((bitsT zs).length + 7) / 8 = G := ⟨_, rfl⟩
          have hPl := pad_length (bitsT zs)
          have hPb := pad_bits (bitsT_bits zs)
          rw [hP] at hPl hPb HP
          rw [hG] at hPl
          have HEN : Hid (enc zs = grp P) := by show _ = _; rw [enc, hP]
          have hNG : N = 8 * G := by rw [← hN, HP.out, bitI_length, hPl]
          have HNG := Lib.hid hNG
          have HPL := Lib.hid hPl
          have HPB := Lib.hid hPb
          have hS : Sl .u8 wr (.slice ao2 N cp2) (bitI P) := by
            have h := HO2.out
            rw [HP.out] at h
            exact Sl.of_own h (bitI_fit hPb) (by rw [bitI_length, hPl]; unfold maxLen; omega)
          have HS := Lib.hid hS
          clear hml hm7 hjm hjm2 hln hN hB hP hG hPl hPb hNG hS hO
          go_wp2_with fail
          obtain ⟨W3, hW3⟩ : ∃ W3, W3 = wr := ⟨_, rfl⟩
          subst hW3
          go_loopg [7, 8] G (fun g s7 s8 wx => ∃ m : Nat, m + g = G ∧ s8 = .int .i64 ((8 * m : Nat) : Int) ∧ wx.ownsRow W3.heap.size 5 1 s7 (grp (P.take (8 * m))).length ((grp (P.take (8 * m))).map (Value.int .u8)) ∧ Below W3.heap.size W3 wx)
          case atStart => exact ⟨0, by omega, rfl, by rw [grp_short (by simp)]; exact World.ownsRow_nil _ _ _ _, Below.refl _ _⟩
          case round =>
            obtain ⟨m, hmg, rfl, hO, hB⟩ := hrel
            have HMG := Lib.hid hmg
            have hm : m ≤ G := by omega
            clear hmg
            obtain ⟨ao3, cp3, rfl, _⟩ := owned_shape hO
            have HO3 := Lib.hid hO
            have HB3 := Lib.hid hB
            have hct : (grp (P.take (8 * m))).length = m := grp_length m _ (by rw [List.length_take, HPL.out]; omega)
            have HCT := Lib.hid hct
            have hG4 : G ≤ 3750001 := by have := HNG.out; omega
            clear hct
            obtain ⟨i, hi⟩ : ∃ i, 8 * m = i := ⟨_, rfl⟩
            have HI := Lib.hid hi
            have hiN : i ≤ N := by have := HNG.out; omega
            rw [hi] at hO ⊢
            clear hi
            by_cases hlt : m < G
            · have hd : i < N := by have := HNG.out; have := HI.out; omega
              obtain ⟨bb, off, rfl, hbs, hcx⟩ : ∃ b off, ao2 = some ⟨b, off, none⟩ ∧ b < W3.heap.size ∧ ∀ j, j < N → W3.cell? ⟨b, off + j, none⟩ = some (.int .u8 (at0 (bitI P) j)) := by
                rcases HS.out.parts with ⟨h0, _⟩ | ⟨_, b, off, c2, he, _, _, h1, h2⟩
                · have := congrArg List.length h0
                  rw [bitI_length, HPL.out] at this
                  simp at this
                  omega
                · simp only [Value.slice.injEq] at he
                  refine ⟨b, off, he.1, h1, fun j hj => h2 j ?_⟩
                  rw [bitI_length, HPL.out, ← HNG.out]; exact hj
              have hcx3 : ∀ j, j < N → wr.cell? ⟨bb, off + j, none⟩ = some (.int .u8 (at0 (bitI P) j)) := fun j hj => (hB.cell (p := ⟨bb, off + j, none⟩) hbs).trans (hcx j hj)
              have HCX := Lib.hid hcx3
              obtain ⟨T, hT⟩ : ∃ T, (P.drop i).take 8 = T := ⟨_, rfl⟩
              have hTl : T.length = 8 := by rw [← hT, List.length_take, List.length_drop, HPL.out]; have := HI.out; omega
              have hTb : Bits T := by rw [← hT]; exact (HPB.out.drop i).take 8
              have HTG : Hid (∀ k, k < 8 → P.getD (i + k) 0 = T.getD k 0) := fun k hk => by rw [← hT]; exact (getD_drop_take P i k 8 hk).symm
              have HGT : Hid (grp (P.take (8 * (m + 1))) = grp (P.take i) ++ [((val T : Nat) : Int)]) := by
                show _ = _
                rw [grp_take HPL.out hlt, HI.out, hT]
              have HTL := Lib.hid hTl
              have HTB := Lib.hid hTb
              clear hcx hcx3 hT hTl hTb hO hB
              go_wp2_with fail
              go_loop [9, 10] (fun s9 s10 => ∃ k : Nat, k ≤ 8 ∧ s10 = .int .i64 k ∧ s9 = .int .u8 ((val (T.take k) : Nat) : Int)) (fun _ s10 => 8 - (intOf s10).toNat)
              case atStart => exact ⟨0, by omega, rfl, rfl⟩
              case round =>
                obtain ⟨k, hk8, rfl, rfl⟩ := hrel
                by_cases hk : k < 8
                · have hv1 := val_lt _ (HTB.out.take k)
                  have hv2 : val (T.take k) ≤ 127 := by
                    have h1 : (T.take k).length ≤ 7 := by rw [List.length_take, HTL.out]; omega
                    have := Nat.pow_le_pow_right (by omega : 2 > 0) h1
                    omega
                  obtain ⟨x, hx⟩ : ∃ x, val (T.take k) = x := ⟨_, rfl⟩
                  have HX := Lib.hid hx
                  rw [hx] at hv2 ⊢
                  have hiN2 : i + k < N := by have := HNG.out; have := HI.out; omega
                  have hcell := HCX.out (i + k) hiN2
                  rw [bitI_at, HTG.out k hk] at hcell
                  have hbit : T.getD k 0 < 2 := HTB.out _ (by
                    have hkl : k < T.length := by rw [HTL.out]; exact hk
                    simp [hkl])
                  have HVS := Lib.hid (val_take_succ (l := T) (k := k) (by rw [HTL.out]; exact hk))
                  obtain ⟨bt, hbt⟩ : ∃ bt, T.getD k 0 = bt := ⟨_, rfl⟩
                  rw [hbt] at hcell hbit HVS
                  have hix := fun (W : World) => sl_index Tryd.slice22 Tryd.size22 bb off N cp2 (i + k) hiN2 .i64 W
                  have hca : (((i + k : Nat) : Int)) = (i : Int) + (k : Int) := by omega
                  rw [hca] at hix
                  clear hx hv1 hbt hca
                  go_wp2_with fail
                  go_round
                  case rel => exact ⟨k + 1, by omega, by go_num, by rw [HVS.out, HX.out]; go_num⟩
                  case measure => simp [intOf]; omega
                · obtain rfl : k = 8 := by omega
                  have hv1 := val_lt _ HTB.out
                  rw [HTL.out] at hv1
                  have hTT : T.take 8 = T := List.take_of_length_le (by rw [HTL.out]; omega)
                  rw [hTT]
                  obtain ⟨x, hx⟩ : ∃ x, val T = x := ⟨_, rfl⟩
                  rw [hx] at hv1 HGT ⊢
                  have hx255 : x ≤ 255 := by omega
                  have hO4 := HO3.out
                  rw [HI.out] at hO4
                  have hl4 : (grp (P.take i)).length ≤ 3750001 := by rw [← HI.out, HCT.out]; omega
                  clear hx hTT hv1
                  go_wp2_with (at_builtin; refine app_ints rfl (.tmp 62) (.tmp 64) 24 rfl W3.heap.size 5 .u8 1 Tryd.underlying24 Tryd.info5' _ (grp (P.take i)).length (grp (P.take i)) rfl (hO4.alloc _) _ [(x : Int)] rfl (Sl.lit' [(x : Int)] rfl rfl rfl (by intro z hz; rw [List.mem_singleton] at hz; subst hz; exact WalkArith.wf_u8 (by omega)) (by simp [maxLen])) (by simp; omega) (by simp [maxLen]; omega) (by have := HB3.out.size; simp; omega) ?_; intro v5 w5 hO5 hc5 hg5)
                  go_roundg (G - (m + 1))
                  case measure => have := HMG.out; omega
                  case rel =>
                    refine ⟨m + 1, by omega, by rw [← HI.out]; go_num, ?_, (HB3.out.alloc HB3.out.size _).trans hc5⟩
                    rw [HGT.out, List.length_append]
                    exact hO5
            · obtain rfl : m = G := by omega
              have hd : ¬ i < N := by have := HNG.out; have := HI.out; omega
              have HE2 : Hid (grp (P.take i) = enc zs) := by
                show _ = _
                rw [HEN.out, ← HI.out, List.take_of_length_le (by rw [HPL.out]; omega)]
              have HFI := Lib.hid (Sl.of_own hO (by rw [HE2.out]; exact enc_fit _) (by rw [← HI.out, HCT.out]; unfold maxLen; omega))
              clear hO hB
              go_wp2_with fail
              go_ret
              have h := HFI.out
              rw [HE2.out] at h
              refine ⟨_, rfl, ?_, HB0.out.trans ((HB2.out.trans (HB3.out.mono HB2.out.size)).mono HB0.out.size)⟩
              rw [HE2.out]
              exact h
end Go.Proofs.YtimggejonppegaaDoor
