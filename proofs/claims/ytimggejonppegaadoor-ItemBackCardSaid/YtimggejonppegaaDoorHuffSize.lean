
/-
  huff.Size.
-/
import Derived.Test.YtimggejonppegaaDoorHuffPaths
namespace Go.Proofs.YtimggejonppegaaDoor
open Go.RowKit

theorem bitsT_take {zs : List Int} {k : Nat} (h : k < zs.length) : bitsT (zs.take (k + 1)) = bitsT (zs.take k) ++ bitsOf (len (at0 zs k).toNat) (code (at0 zs k).toNat) := by
  rw [take_at0 zs k h, bitsT_snoc]
theorem bitsT_take_len {zs : List Int} {k : Nat} (h : k < zs.length) : (bitsT (zs.take (k + 1))).length = (bitsT (zs.take k)).length + len (at0 zs k).toNat := by
  rw [bitsT_take h, List.length_append, bitsOf_length]
theorem bitsT_take_le {zs : List Int} (hf : Fit .u8 zs) (k : Nat) : (bitsT (zs.take k)).length ≤ 30 * zs.length := by
  have := bitsT_length (zs.take k) (hf.take k)
  have h2 : (zs.take k).length ≤ zs.length := List.length_take_le' k zs
  omega

theorem ret_i64 {a b : Int} (h : a = b) : Ending.returned (.int .i64 a) = .returned (.int .i64 b) := by rw [h]
theorem Size_any (v : Value) (zs : List Int) (w : World) (hv : Sl .u8 w v zs) (hz : zs.length ≤ 1000000) :
    Calls Tryd.prog 35 #[v] w fun e w' => e = .returned (.int .i64 (sizeT zs)) ∧ ∃ n, w' = w.drewN n := by
  have hfit := hv.fit
  rcases hv.parts with ⟨rfl, a, cap, rfl⟩ | ⟨hp, b, off, cap, rfl, hlc, hcm, hb, hc⟩
  · clear hv
    go_enter Tryd.func35, Tryd.ntmps35
    go_wp2
    refine wp_loop_rounds 1 ?_
    rw [rounds_succ]
    go_wp2
    go_ret
    exact ⟨rfl, 0, rfl⟩
  · have HT := Lib.hid (fun k => bitsT_take_le hfit k)
    clear hv
    go_enter Tryd.func35, Tryd.ntmps35
    go_wp2
    go_loopw [3, 8] (fun s i wr => ∃ k n : Nat, k ≤ zs.length ∧ i = .int .i64 k ∧ s = .int .i64 (bitsT (zs.take k)).length ∧ wr = w.drewN n) (fun _ i _ => zs.length - (intOf i).toNat)
    case atStart => exact ⟨0, 0, Nat.zero_le _, rfl, rfl, rfl⟩
    case round =>
      obtain ⟨k, n, hk, rfl, rfl, rfl⟩ := hrel
      have hle := HT.out k
      obtain ⟨x, hx⟩ : ∃ x, (bitsT (zs.take k)).length = x := ⟨_, rfl⟩
      have HX := Lib.hid hx
      rw [hx] at hle ⊢
      clear hx
      by_cases hlt : k < zs.length
      · have hcx := hc k hlt
        have hbz := hfit.byte k
        obtain ⟨c, hcc⟩ : ∃ c : Nat, at0 zs k = (c : Int) := ⟨(at0 zs k).toNat, by omega⟩
        have HN := Lib.hid (bitsT_take_len hlt)
        have hc2 : c < 257 := by omega
        rw [hcc] at hcx hbz HN
        have HC := Lib.hid hcc
        have hl := len_bd hc2
        clear hc hcc
        go_wp2_with fail
        refine (length_any c _ hc2).mono ?_
        rintro e w' ⟨rfl, n1, rfl⟩
        go_wp2_with fail
        go_roundw
        case rel =>
          refine ⟨k + 1, n + n1, by omega, by go_num, ?_, rfl⟩
          rw [HN.out, HX.out, Int.toNat_natCast]
          go_num
        case measure => simp [intOf]; omega
      · obtain rfl : k = zs.length := by omega
        have HS := Lib.hid (show sizeT zs = (x + 7) / 8 by rw [sizeT, ← HX.out, List.take_length])
        go_wp2_with fail
        go_ret
        exact ⟨Eq.trans (b := Ending.returned (.int .i64 (((x : Int) + 8 - 1) / 8))) rfl (ret_i64 (by rw [HS.out]; omega)), _, rfl⟩
end Go.Proofs.YtimggejonppegaaDoor
