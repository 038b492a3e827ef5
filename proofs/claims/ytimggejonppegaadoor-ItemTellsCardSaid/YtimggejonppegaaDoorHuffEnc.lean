
/-
  huff.Encode.
-/
import Derived.Test.YtimggejonppegaaDoorRef04b
import Derived.Test.YtimggejonppegaaDoorHuffEncMath
import Derived.Test.YtimggejonppegaaDoorRegion
import Derived.IntWalk
namespace Go.Proofs.YtimggejonppegaaDoor
open Go.RowKit

/-- what the loop has: so many bytes of the text; whole bytes of its bits; the bits that wait -/
def EncSt (zs : List Int) (k m : Nat) (done rest : List Nat) : Prop := bitsT (zs.take k) = done ++ rest ∧ done.length = 8 * m ∧ Bits rest ∧ Bits done
theorem EncSt.bound {zs : List Int} {k m : Nat} {done rest : List Nat} (h : EncSt zs k m done rest) (hf : Fit .u8 zs) : 8 * m + rest.length ≤ 30 * zs.length := by
  have h1 := bitsT_take_le hf k
  rw [h.1, List.length_append, h.2.1] at h1
  exact h1
theorem EncSt.byte {zs : List Int} {k m : Nat} {done rest : List Nat} (h : EncSt zs k m done rest) (hl : 8 ≤ rest.length) : EncSt zs k (m + 1) (done ++ rest.take 8) (rest.drop 8) :=
  ⟨by rw [h.1, List.append_assoc, List.take_append_drop], by rw [List.length_append, h.2.1, List.length_take]; omega, h.2.2.1.drop 8, h.2.2.2.append (h.2.2.1.take 8)⟩
theorem EncSt.group {zs : List Int} {k m : Nat} {done rest : List Nat} (h : EncSt zs k m done rest) (hl : 8 ≤ rest.length) : grp (done ++ rest.take 8) = grp done ++ [((val (rest.take 8) : Nat) : Int)] := by
  have h1 : (rest.take 8).length = 8 := by rw [List.length_take]; omega
  rw [grp_append m _ _ h.2.1, grp_one h1]
theorem EncSt.count {zs : List Int} {k m : Nat} {done rest : List Nat} (h : EncSt zs k m done rest) : (grp done).length = m := grp_length _ _ h.2.1
theorem EncSt.more {zs : List Int} {k m : Nat} {done rest : List Nat} (h : EncSt zs k m done rest) (hk : k < zs.length) : EncSt zs (k + 1) m done (rest ++ bitsOf (len (at0 zs k).toNat) (code (at0 zs k).toNat)) :=
  ⟨by rw [bitsT_take hk, h.1, List.append_assoc], h.2.1, h.2.2.1.append (bitsOf_bits _ _), h.2.2.2⟩

theorem or_small' {x L c : Nat} (hx : x < 256) (hL : L ≤ 30) (hc : c < 2 ^ L) : bits .or .i64 ((x : Int) * 2 ^ L) (c : Int) = ((x * 2 ^ L + c : Nat) : Int) := by
  rw [← or_small hx hL hc]; push_cast; rfl
theorem v_small {x L c : Nat} (hx : x < 128) (hL : L ≤ 30) (hc : c < 2 ^ L) : x * 2 ^ L + c < 1099511627776 := by
  have h1 : 2 ^ L ≤ 1073741824 := Nat.pow_le_pow_right (by omega : 2 > 0) hL
  have h2 : x * 2 ^ L ≤ 127 * 1073741824 := Nat.mul_le_mul (by omega) h1
  omega

theorem byte_small {V q bv : Nat} (h : V / 2 ^ q % 256 = bv) : IntKind.u8.wrap ((V : Int) / 2 ^ q) = (bv : Int) := by
  have e : (V : Int) / 2 ^ q = ((V / 2 ^ q : Nat) : Int) := by push_cast; rfl
  rw [e]
  simp [IntKind.wrap, IntKind.bits, IntKind.signed]
  omega
theorem pow7 {n : Nat} (h : n ≤ 7) : (1 : Int) ≤ 2 ^ n ∧ (2 : Int) ^ n ≤ 128 := by
  rcases (show n = 0 ∨ n = 1 ∨ n = 2 ∨ n = 3 ∨ n = 4 ∨ n = 5 ∨ n = 6 ∨ n = 7 by omega) with rfl | rfl | rfl | rfl | rfl | rfl | rfl | rfl <;> decide
theorem mask_small' {V n : Nat} (hV : V < 1099511627776) (hn : n ≤ 30) : bits .and .i64 (V : Int) (2 ^ n - 1) = ((V % 2 ^ n : Nat) : Int) := by
  have hp : 0 < 2 ^ n := Nat.pow_pos (by omega)
  have e : (2 : Int) ^ n - 1 = ((2 ^ n - 1 : Nat) : Int) := by
    have : (2 : Int) ^ n = ((2 ^ n : Nat) : Int) := by push_cast; rfl
    rw [this]; omega
  rw [e, mask_small hV hn]

theorem last_or {x q : Nat} (hx : x < 256) (hq : q ≤ 30) : bits .or .i64 ((x * 2 ^ q : Nat) : Int) ((2 : Int) ^ q - 1) = ((x * 2 ^ q + (2 ^ q - 1) : Nat) : Int) := by
  have hp : 0 < 2 ^ q := Nat.pow_pos (by omega)
  have e : (2 : Int) ^ q - 1 = ((2 ^ q - 1 : Nat) : Int) := by
    have : (2 : Int) ^ q = ((2 ^ q : Nat) : Int) := by push_cast; rfl
    rw [this]; omega
  rw [e, or_small hx hq (by omega)]

theorem last_le {x r q : Nat} (h : x < 2 ^ r) (hr : r + q = 8) : x * 2 ^ q + (2 ^ q - 1) ≤ 255 := by
  have h2 : (x + 1) * 2 ^ q ≤ 2 ^ r * 2 ^ q := Nat.mul_le_mul_right _ h
  rw [← Nat.pow_add, hr, Nat.add_mul, Nat.one_mul] at h2
  have h4 : 0 < 2 ^ q := Nat.pow_pos (by omega)
  generalize x * 2 ^ q = Y at *
  generalize 2 ^ q = P at *
  omega

set_option maxHeartbeats 1000000 in
set_option maxRecDepth 20000 in
theorem enc_own (v : Value) (zs : List Int) (w : World) (hv : Sl .u8 w v zs) (hz : zs.length ≤ 1000000) :
    Calls Tryd.prog 43 #[v] w fun e w' => ∃ v', e = .returned v' ∧ w'.ownsRow w.heap.size 5 1 v' (enc zs).length ((enc zs).map (Value.int .u8)) ∧ Below w.heap.size w w' := by
  obtain ⟨i0, hi, hz0, hz1, hz2⟩ := info_parts Tryd.info5'
  have hza := (zero_of_info Tryd.zeroArr).1
  have hfit := hv.fit
  obtain ⟨a, cap, rfl, _⟩ := id hv
  go_enter Tryd.func43, Tryd.ntmps43
  go_wp2_with fail
  refine (codes_any _).mono ?_
  rintro e w1 ⟨rfl, hb1⟩
  have hn1 := heap_alloc_new w1 (.cells (intsA (arrAt 5 0)) 78)
  go_wp2_with (with_reducible refine wpList_store_row rfl 78 (.tmp 3) (.tmp 10) rfl w1.heap.size (intsA codeL) rfl rfl 78 (intsA (arrAt 5 0)) hn1 sizeCodes (sizeCodes' _ _) (intsA_one _) ?_)
  clear hn1 hza
  rw [World.setRow_alloc_new]
  have hcd := heap_alloc_new w1 (.cells (intsA codeL) 78)
  have hB2 := hb1.alloc hb1.size (.cells (intsA codeL) 78)
  have hs2 : w1.heap.size < (w1.alloc (.cells (intsA codeL) 78)).heap.size := by simp
  have hw1 := hb1.size
  obtain ⟨W2, hW2⟩ : ∃ W2, w1.alloc (.cells (intsA codeL) 78) = W2 := ⟨_, rfl⟩
  rw [hW2] at hcd hB2 hs2 ⊢
  clear hW2 hb1
  obtain ⟨B, hBe⟩ : ∃ B, w1.heap.size = B := ⟨_, rfl⟩
  rw [hBe] at hcd hs2 hw1 ⊢
  clear hBe w1
  have hv2 := hv.below hB2
  go_wp2_with fail
  refine (Size_any _ zs _ hv2 hz).mono ?_
  rintro e w' ⟨rfl, n2, rfl⟩
  have hsz := sizeT_le zs hfit
  obtain ⟨SZ, hSZ⟩ : ∃ SZ, sizeT zs = SZ := ⟨_, rfl⟩
  rw [hSZ] at hsz ⊢
  clear hSZ
  go_wp2_with (at_make; refine wpList_make_own _ rfl _ _ 24 rfl W2.heap.size 5 i0 (.int .u8 0) 1 Tryd.underlying24 hi hz0 hz1 .i64 .i64 _ SZ rfl rfl (by omega) (by rw [hz2]; omega) (by unfold maxLen; omega) (Nat.le_refl _) ?_; intro w3 hown hgrow)
  have hown0 : w3.ownsRow W2.heap.size 5 1 (.slice (some ⟨W2.heap.size, 0, none⟩) 0 SZ) 0 (([] : List Int).map (Value.int .u8)) := hown
  have hb3 : Below W2.heap.size W2 w3 := (below_drewN (Below.refl _ _) n2).grown hgrow (Nat.le_refl _) (fun k h => by simp at h)
  clear hown hgrow hv
  have HV := Lib.hid hv2
  clear hv2
  go_loopg [4, 5, 6, 16] zs.length (fun g s4 s5 s6 s16 wr => ∃ (k m : Nat) (done rest : List Nat), k + g = zs.length ∧ s16 = .int .i64 k ∧ Hid (EncSt zs k m done rest) ∧ rest.length ≤ 7 ∧ s5 = .int .i64 (val rest) ∧ s6 = .int .i64 rest.length ∧ wr.ownsRow W2.heap.size 5 1 s4 (grp done).length ((grp done).map (Value.int .u8)) ∧ Below W2.heap.size W2 wr)
  case atStart => exact ⟨0, 0, [], [], by omega, rfl, ⟨rfl, rfl, fun x hx => by simp at hx, fun x hx => by simp at hx⟩, by simp, rfl, rfl, by rw [grp_short (l := []) (by decide)]; exact hown0, hb3⟩
  case round =>
    clear hown0 hb3
    obtain ⟨k, m, done, rest, hkg, rfl, HE, hr7, rfl, rfl, hO, hB⟩ := hrel
    have HKG := Lib.hid hkg
    have hk : k ≤ zs.length := by omega
    have hxb := val_lt _ HE.out.2.2.1
    have hx128 : val rest < 128 := Nat.lt_of_lt_of_le hxb (Nat.pow_le_pow_right (by omega : 2 > 0) hr7)
    obtain ⟨x, hx⟩ : ∃ x, val rest = x := ⟨_, rfl⟩
    obtain ⟨r, hr⟩ : ∃ r, rest.length = r := ⟨_, rfl⟩
    rw [hx] at hx128 hxb ⊢
    rw [hr] at hr7 hxb ⊢
    have HX := Lib.hid hx
    have HR := Lib.hid hr
    have HXB := Lib.hid hxb
    clear hkg hx hr hxb
    obtain ⟨ao, cp, rfl, _⟩ := owned_shape hO
    have HO := Lib.hid hO
    have HB := Lib.hid hB
    by_cases hlt : k < zs.length
    · obtain ⟨b, off, rfl, hbs, hcx⟩ : ∃ b off, a = some ⟨b, off, none⟩ ∧ b < W2.heap.size ∧ W2.cell? ⟨b, off + k, none⟩ = some (.int .u8 (at0 zs k)) := by
        rcases HV.out.parts with ⟨h0, _⟩ | ⟨_, b, off, c2, he, _, _, h1, h2⟩
        · rw [h0] at hlt; simp at hlt
        · simp only [Value.slice.injEq] at he
          exact ⟨b, off, he.1, h1, h2 k hlt⟩
      replace hcx := (hB.cell (p := ⟨b, off + k, none⟩) hbs).trans hcx
      have hbz := hfit.byte k
      obtain ⟨c, hcc⟩ : ∃ c : Nat, at0 zs k = (c : Int) := ⟨(at0 zs k).toNat, by omega⟩
      have HM := Lib.hid (HE.out.more hlt)
      rw [hcc, Int.toNat_natCast] at HM
      rw [hcc] at hcx hbz
      have hc2 : c < 257 := by omega
      have hcw := codeL_cell ((hB.block B hs2).trans hcd) hc2
      have hl := len_bd hc2
      have HC := Lib.hid (code_lt hc2)
      have HLn := Lib.hid (fun (n : Nat) => length_any c (wr.drewN n) hc2)
      obtain ⟨L, hL⟩ : ∃ L, len c = L := ⟨_, rfl⟩
      obtain ⟨y, hy⟩ : ∃ y, code c = y := ⟨_, rfl⟩
      have HLL := Lib.hid hL
      have HYY := Lib.hid hy
      rw [hL] at hl HLn HC HM
      rw [hy] at hcw HC HM
      have hix := arr_index B c hc2
      have hsh := shl_small (x := x) (L := L) (by omega) (by omega)
      have HOR := Lib.hid (or_small' (x := x) (L := L) (c := y) (by omega) (by omega) HC.out)
      have hV40 := v_small (x := x) (L := L) (c := y) hx128 (by omega) HC.out
      have HVV := Lib.hid (wait_more (x := x) (L := L) (c := y) HX.out.symm HC.out)
      obtain ⟨V, hV⟩ : ∃ V, x * 2 ^ L + y = V := ⟨_, rfl⟩
      rw [hV] at HOR hV40 HVV
      clear hV
      clear hcc hL hy hO hB hcd
      go_wp2_with fail
      go_quiet ((go_at_call 45; exact Calls.quiet_of (HLn.out _)))
      go_wp2_with fail
      rw [HOR.out]
      refine (length_any c _ hc2).mono ?_
      rintro e w' ⟨rfl, n4, rfl⟩
      rw [HLL.out]
      clear hsh hix hcw hcx
      go_wp2_with fail
      go_loopg [4, 6] (r + L) (fun g2 s4 s6 wy => ∃ (m2 : Nat) (done2 rest2 : List Nat), Hid (rest2.length = g2) ∧ g2 ≤ 40 ∧ Hid (EncSt zs (k + 1) m2 done2 rest2) ∧ s6 = .int .i64 g2 ∧ Hid (V % 2 ^ rest2.length = val rest2) ∧ wy.ownsRow W2.heap.size 5 1 s4 (grp done2).length ((grp done2).map (Value.int .u8)) ∧ Below W2.heap.size W2 wy)
      case atStart =>
        refine ⟨m, done, rest ++ bitsOf L y, ?_, by omega, ?_, by go_num, ?_, owned_below HO.out (below_drewN (Below.refl _ _) _), below_drewN HB.out _⟩
        · show _ = _
          rw [List.length_append, bitsOf_length, HR.out]
        · show EncSt _ _ _ _ _
          exact HM.out
        · show _ = _
          rw [← HVV.out, HVV.out, Nat.mod_eq_of_lt]
          exact val_lt _ HM.out.2.2.1
      case round =>
        obtain ⟨m2, done2, rest2, HG, hg40, HE2, rfl, HMV, hO2, hB2'⟩ := hrel
        obtain ⟨ao2, cp2, rfl, _⟩ := owned_shape hO2
        have HO2 := Lib.hid hO2
        have HB2 := Lib.hid hB2'
        obtain ⟨j, hj⟩ : ∃ j, gk = j := ⟨_, rfl⟩
        subst hj
        have HMB := Lib.hid (HE2.out.bound hfit)
        have HCT := Lib.hid HE2.out.count
        have hct : (grp done2).length ≤ 30000000 := by rw [HCT.out]; have := HMB.out; omega
        by_cases h8 : 8 ≤ gk
        · obtain ⟨q, rfl⟩ : ∃ q, gk = q + 8 := ⟨gk - 8, by omega⟩
          obtain ⟨hb1, hb2⟩ := byte_step HE2.out.2.2.1 HG.out (by rw [← HG.out]; exact HMV.out)
          have HB1 := Lib.hid hb1
          have HRS := Lib.hid hb2
          have hl8 : 8 ≤ rest2.length := by rw [HG.out]; omega
          have HGR := Lib.hid (HE2.out.group hl8)
          have HE3 := Lib.hid (HE2.out.byte hl8)
          obtain ⟨bv, hbv⟩ : ∃ bv, val (rest2.take 8) = bv := ⟨_, rfl⟩
          rw [hbv] at HB1 HGR
          have hbv255 : bv ≤ 255 := by have := HB1.out; omega
          have hwrap := byte_small (V := V) (q := q) HB1.out
          clear hb1 hb2 hbv hl8
          go_wp2_with (at_builtin; refine app_ints rfl (.tmp 38) (.tmp 44) 24 rfl W2.heap.size 5 .u8 1 Tryd.underlying24 Tryd.info5' _ (grp done2).length (grp done2) rfl (hO2.alloc _) _ [(bv : Int)] rfl (Sl.lit' [(bv : Int)] rfl rfl rfl (by intro z hz; rw [List.mem_singleton] at hz; subst hz; exact WalkArith.wf_u8 (by omega)) (by simp [maxLen])) (by simp; omega) (by simp [maxLen]; omega) (by have := HB2.out.size; simp; omega) ?_; intro v5 w5 hO5 hc5 hg5)
          go_roundg q
          case measure => omega
          case rel =>
            refine ⟨m2 + 1, done2 ++ rest2.take 8, rest2.drop 8, ?_, by omega, HE3.out, by go_num, ?_, ?_, ?_⟩
            · show _ = _
              rw [List.length_drop, HG.out]; omega
            · show _ = _
              rw [List.length_drop, HG.out, show q + 8 - 8 = q by omega]
              exact HRS.out
            · rw [HGR.out]
              simpa using hO5
            · exact (HB2.out.alloc HB2.out.size _).trans hc5
        · have hg7 : gk ≤ 7 := by omega
          have hp := pow7 hg7
          have hs1 := shl_one gk (by omega)
          have HMK := Lib.hid (mask_small' (V := V) (n := gk) hV40 (by omega))
          go_wp2_with fail
          rw [HMK.out]
          go_roundg (zs.length - (k + 1))
          case measure => have := HKG.out; omega
          case rel =>
            refine ⟨k + 1, m2, done2, rest2, by omega, by go_num, HE2.out, by rw [HG.out]; omega, ?_, by rw [HG.out], HO2.out, HB2.out⟩
            rw [← HMV.out, HG.out]
    · obtain rfl : k = zs.length := by omega
      have HBT : Hid (bitsT zs = done ++ rest) := by
        show _ = _
        have := HE.out.1
        rwa [List.take_length] at this
      have HMB := Lib.hid (HE.out.bound hfit)
      have HCT := Lib.hid HE.out.count
      have hct : (grp done).length ≤ 30000000 := by rw [HCT.out]; have := HMB.out; omega
      have HB2 := Lib.hid hB2
      clear hB2
      by_cases h0 : 0 < r
      · obtain ⟨q, hq⟩ : ∃ q : Nat, 8 - r = q := ⟨_, rfl⟩
        have HL := Lib.hid (enc_last HBT.out HE.out.2.1 (by rw [HR.out]; exact h0) (by rw [HR.out]; exact hr7))
        rw [HR.out, HX.out, hq] at HL
        have he : 8 - (r : Int) = (q : Int) := by omega
        have hq8 : q ≤ 7 := by omega
        clear hq
        go_wp2_with fail
        have hq64 : (q : Int) ≤ 64 := by omega
        have hs1 := shl_small (x := x) (L := q) (by omega) (by omega)
        have hs2 := shl_one q (by omega)
        have hp7 := pow7 (n := q) (by omega)
        have hor := last_or (x := x) (q := q) (by omega) (by omega)
        have hm1 : IntKind.i64.wrap ((2 : Int) ^ q - 1) = 2 ^ q - 1 := wrap_i64_small (by omega) (by omega)
        obtain ⟨LV, hLV⟩ : ∃ LV, x * 2 ^ q + (2 ^ q - 1) = LV := ⟨_, rfl⟩
        rw [hLV] at hor HL
        have hor2 : bits .or .i64 ((x : Int) * 2 ^ q) ((2 : Int) ^ q - 1) = (LV : Int) := by rw [← hor]; push_cast; rfl
        clear hor
        have hl255 : LV ≤ 255 := by
          rw [← hLV]
          exact last_le HXB.out (by omega)
        have hw8 : IntKind.u8.wrap (LV : Int) = LV := by simp [IntKind.wrap, IntKind.bits, IntKind.signed]; omega
        clear hLV
        refine wp_region_table 10 [56, 57, 58, 59, 60, 61, 62, 63, 64, 65] [[], [], [], [(1, 57), (2, 58)], [], [(4, 60)], [(5, 61)], [(3, 59), (6, 62)], [(7, 63)], [(8, 64)]]
          (fun i v w' => match i with
            | 0 => v = .slice ao (grp done).length cp
            | 1 => v = .int .i64 x
            | 2 => v = .int .i64 q
            | 3 => v = .int .i64 ((x * 2 ^ q : Nat) : Int)
            | 4 => v = .int .i64 q
            | 5 => v = .int .i64 (2 ^ q)
            | 6 => v = .int .i64 (2 ^ q - 1)
            | 7 => v = .int .i64 LV
            | 8 => v = .int .u8 LV
            | 9 => Sl .u8 w' v [(LV : Int)]
            | _ => True) (by kernel_rfl) (by kernel_rfl) ?tStab ?tOps ?tRest
        case tStab =>
          intro i v w3 w4 h hb
          match i, h with
          | 0, h | 1, h | 2, h | 3, h | 4, h | 5, h | 6, h | 7, h | 8, h => exact h
          | 9, h => exact Sl.below h hb
          | i + 10, _ => trivial
        case tOps =>
          simp only [List.take_succ_cons, List.take_zero, opsOk]
          refine ⟨?_, ?_, ?_, ?_, ?_, ?_, ?_, ?_, ?_, ?_, trivial⟩
          · intro ρ w3 hc hf ho hB2 hj
            have x0 : ρ (.tmp 4) = .slice ao (grp done).length cp := ho 4 (by decide)
            simp [gives, go_sem, x0, Below.refl]
          · intro ρ w3 hc hf ho hB2 hj
            have x0 : ρ (.tmp 5) = .int .i64 x := ho 5 (by decide)
            simp [gives, go_sem, x0, Below.refl]
          · intro ρ w3 hc hf ho hB2 hj
            have x0 : ρ (.tmp 9) = .int .i64 q := ho 9 (by decide)
            simp [gives, go_sem, x0, Below.refl]
          · intro ρ w3 hc hf ho hB2 hj
            have x0 : ρ (.tmp 57) = .int .i64 x := hj (1, 57) (by simp)
            have x1 : ρ (.tmp 58) = .int .i64 q := hj (2, 58) (by simp)
            simp [gives, go_sem, x0, x1, hs1, Below.refl]
          · intro ρ w3 hc hf ho hB2 hj
            have x0 : ρ (.tmp 9) = .int .i64 q := ho 9 (by decide)
            simp [gives, go_sem, x0, Below.refl]
          · intro ρ w3 hc hf ho hB2 hj
            have x0 : ρ (.tmp 60) = .int .i64 q := hj (4, 60) (by simp)
            simp [gives, go_sem, hc, x0, hs2, Below.refl]
          · intro ρ w3 hc hf ho hB2 hj
            have x0 : ρ (.tmp 61) = .int .i64 (2 ^ q) := hj (5, 61) (by simp)
            simp [gives, go_sem, hc, x0, hm1, Below.refl]
          · intro ρ w3 hc hf ho hB2 hj
            have x0 : ρ (.tmp 59) = .int .i64 ((x * 2 ^ q : Nat) : Int) := hj (3, 59) (by simp)
            have x1 : ρ (.tmp 62) = .int .i64 (2 ^ q - 1) := hj (6, 62) (by simp)
            simp [gives, go_sem, x0, x1, hor2, Below.refl]
          · intro ρ w3 hc hf ho hB2 hj
            have x0 : ρ (.tmp 63) = .int .i64 LV := hj (7, 63) (by simp)
            simp [gives, go_sem, x0, hw8, Below.refl]
          · intro ρ w3 hc hf ho hB2 hj
            have x0 : ρ (.tmp 64) = .int .u8 LV := hj (8, 64) (by simp)
            simp [gives, go_sem, x0]
            exact ⟨Sl.lit' [(LV : Int)] rfl rfl rfl (by intro z hz; rw [List.mem_singleton] at hz; subst hz; exact WalkArith.wf_u8 (by omega)) (by simp [maxLen]), (Below.refl _ _).alloc (Nat.le_refl _) _⟩
        case tRest =>
          intro X w3 hBw hX
          have x0 : X 0 = .slice ao (grp done).length cp := hX 0 (by decide)
          have x9 : Sl .u8 w3 (X 9) [(LV : Int)] := hX 9 (by decide)
          simp only [putAll, List.getD_cons_zero, List.getD_cons_succ, Act.put, List.setIfInBounds_toArray, List.set_cons_zero, List.set_cons_succ, List.drop_succ_cons, List.drop_zero]
          have hO3 := owned_below HO.out hBw
          have HB3 := Lib.hid (HB.out.trans (hBw.mono HB.out.size))
          obtain ⟨av, cv, hXe, _⟩ := id x9
          rw [x0, hXe]
          rw [hXe] at x9
          clear hX hBw hO
          go_wp2_with (at_builtin; refine app_ints rfl (.tmp 56) (.tmp 65) 24 rfl W2.heap.size 5 .u8 1 Tryd.underlying24 Tryd.info5' _ (grp done).length (grp done) rfl hO3 _ [(LV : Int)] rfl x9 (by simp; omega) (by simp [maxLen]; omega) HB3.out.size ?_; intro v5 w5 hO5 hc5 hg5)
          go_ret
          rw [HL.out]
          exact ⟨_, rfl, owned_mono (by simpa using hO5) HB2.out.size, HB2.out.trans ((HB3.out.trans hc5).mono HB2.out.size)⟩
      · obtain rfl : r = 0 := by omega
        have HL := Lib.hid (enc_done HBT.out HE.out.2.1 HR.out)
        go_wp2_with fail
        go_ret
        rw [HL.out]
        exact ⟨_, rfl, owned_mono HO.out HB2.out.size, HB2.out.trans (HB.out.mono HB2.out.size)⟩
end Go.Proofs.YtimggejonppegaaDoor
