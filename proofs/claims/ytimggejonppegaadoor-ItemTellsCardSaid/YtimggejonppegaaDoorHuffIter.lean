
/-
  huff.eachBit: what it ranges over.
-/
import Derived.Test.YtimggejonppegaaDoorHuffEncMath
import Derived.Test.YtimggejonppegaaDoorProg
import Derived.Test.YtimggejonppegaaDoorRange
import Derived.Test.YtimggejonppegaaDoorSame
import Derived.WalkKit
import Derived.OwnWalkIn
import Derived.TacticsInMore
import Derived.LoopNIn
import Derived.LoopIn
namespace Go.Proofs.YtimggejonppegaaDoor
open Go.RowKit
attribute [local go_sem] Oper.semAt_some

theorem eachBit_any (v : Value) (w : World) (ao : Option Addr) (n c : Nat) (hv : v = .slice ao n c) :
    Calls Tryd.prog 58 #[v] w fun e w' => e = .returned (.func (.func 61) #[] #[.pointer (some ⟨w.heap.size, 0, none⟩)]) ∧ w' = w.alloc (.cells #[v] 24) := by
  subst hv
  go_enter Tryd.func58, Tryd.ntmps58
  go_wp2
  go_ret
  exact ⟨rfl, rfl⟩

/-- all bits have come; or some of them -/
def AllBits (zs : List Int) (xs : List Nat) : Prop := xs = bitsB zs
def SomeBits (zs : List Int) (xs : List Nat) : Prop := ∃ m, m < 8 * zs.length ∧ xs = (bitsB zs).take (m + 1)
theorem bit_and {c p : Nat} (hc : c < 256) : bits .and .i64 ((c : Int) / 2 ^ p) 1 = ((c / 2 ^ p % 2 : Nat) : Int) := by
  have e : (c : Int) / 2 ^ p = ((c / 2 ^ p : Nat) : Int) := by push_cast; rfl
  have hle : c / 2 ^ p ≤ c := Nat.div_le_self _ _
  rw [e]
  generalize c / 2 ^ p = q at *
  rw [i64_and _ _ (by omega) (by omega) (by omega) (by omega), Int.toNat_natCast, show (1 : Int).toNat = 2 ^ 1 - 1 from rfl, Nat.and_two_pow_sub_one_eq_mod]
theorem div_bd {c p : Nat} (hc : c < 256) : 0 ≤ (c : Int) / 2 ^ p ∧ (c : Int) / 2 ^ p ≤ 255 := by
  have e : (c : Int) / 2 ^ p = ((c / 2 ^ p : Nat) : Int) := by push_cast; rfl
  have hle : c / 2 ^ p ≤ c := Nat.div_le_self _ _
  rw [e]
  generalize c / 2 ^ p = q at *
  omega
theorem bit_at {zs : List Int} {k p c : Nat} (hk : k < zs.length) (hp : p < 8) (hc : at0 zs k = (c : Int)) : (bitsB zs).getD (8 * k + (7 - p)) 0 = c / 2 ^ p % 2 := by
  rw [bitsB_at hk (by omega), hc, Int.toNat_natCast, bitsOf_get (by omega), show 8 - 1 - (7 - p) = p by omega]

set_option maxHeartbeats 1000000 in
theorem bits_iter (n : Nat) (l Bb n₀ : Nat) (v : Value) (zs : List Int) (J Jx : List Nat → World → Prop)
    (hY : ∀ (pre : List Nat) (x : Nat) (W1 : World), J pre W1 → x < 2 → pre.length < 8 * zs.length → YieldAt Fence.wide (n - 1) Tryd.prog l #[.int .i64 (x : Int)] W1 fun e W' =>
      (e = .returned (.bool true) ∧ J (pre ++ [x]) W' ∧ (Below n₀ W1 W' ∧ W'.heap[Bb]? = W1.heap[Bb]?)) ∨ (e = .returned (.bool false) ∧ Jx (pre ++ [x]) W'))
    (W0 W : World) (hn0 : W0.heap.size = n₀) (hv : Sl .u8 W0 v zs) (hz : zs.length ≤ 1000000) (hW0 : Below n₀ W0 W) (hb : W.heap[Bb]? = some (.cells #[v] 24 (0, 0))) (h0 : J [] W) :
    CallsIn Fence.wide n Tryd.prog 61 #[.func (.yield l) #[] #[], .pointer (some ⟨Bb, 0, none⟩)] W fun e W' => (∃ v, e = .returned v) ∧ ((∃ xs, AllBits zs xs ∧ J xs W') ∨ ∃ pre, SomeBits zs pre ∧ Jx pre W') := by
  subst hn0
  have hfit := hv.fit
  obtain ⟨a, cap, rfl, _⟩ := id hv
  refine callsIn_of_wp Tryd.func61 rfl trivial ?_ rfl
  simp only [Tryd.ntmps61, List.size_toArray, List.length_cons, List.length_nil, Nat.reduceAdd, Nat.reduceSub, Array.replicate_succ, Array.replicate_zero, List.push_toArray, List.append_toArray, List.nil_append, List.cons_append]
  have cb := blk_cell (j := 0) hb rfl
  gi_wp2
  gi_loopw [8] (fun i wr => ∃ k : Nat, i = .int .i64 k ∧ k ≤ zs.length ∧ J ((bitsB zs).take (8 * k)) wr ∧ Below W0.heap.size W0 wr ∧ wr.heap[Bb]? = some (.cells #[.slice a zs.length cap] 24 (0, 0)))
    (fun i _ => zs.length - (intOf i).toNat)
  case atStart => exact ⟨0, rfl, Nat.zero_le _, by simpa using h0, hW0, hb⟩
  case round =>
    clear hb hW0 h0 cb
    obtain ⟨k, rfl, hk, hJ, hB, hbb⟩ := hrel
    by_cases hlt : k < zs.length
    · obtain ⟨b, off, rfl, hbs, hcx⟩ : ∃ b off, a = some ⟨b, off, none⟩ ∧ b < W0.heap.size ∧ W0.cell? ⟨b, off + k, none⟩ = some (.int .u8 (at0 zs k)) := by
        rcases hv.parts with ⟨h0, _⟩ | ⟨_, b, off, c2, he, _, _, h1, h2⟩
        · rw [h0] at hlt; simp at hlt
        · simp only [Value.slice.injEq] at he
          exact ⟨b, off, he.1, h1, h2 k hlt⟩
      have hcx2 := (hB.cell (p := ⟨b, off + k, none⟩) hbs).trans hcx
      have hbz := hfit.byte k
      obtain ⟨c, hcc⟩ : ∃ c : Nat, at0 zs k = (c : Int) := ⟨(at0 zs k).toNat, by omega⟩
      rw [hcc] at hcx2 hbz
      have HC := Lib.hid hcc
      have hc256 : c < 256 := by omega
      clear hcx hcc
      gi_wp2
      gi_loopw [5] (fun i wr => ∃ q : Nat, i = .int .i64 ((q : Int) - 1) ∧ q ≤ 8 ∧ J ((bitsB zs).take (8 * k + (8 - q))) wr ∧ Below W0.heap.size W0 wr ∧ wr.heap[Bb]? = some (.cells #[.slice (some ⟨b, off, none⟩) zs.length cap] 24 (0, 0)))
        (fun i _ => (intOf i + 1).toNat)
      case atStart => exact ⟨8, rfl, Nat.le_refl _, hJ, hB, hbb⟩
      case round =>
        clear hJ hB hbb hcx2
        obtain ⟨q, rfl, hq8, hJ, hB, hbb⟩ := hrel
        cases q with
        | zero =>
          gi_wp2
          go_roundw
          case rel => exact ⟨k + 1, by go_num, by omega, hJ, hB, hbb⟩
          case measure => simp [intOf]; omega
        | succ p =>
          have e1 : ((p + 1 : Nat) : Int) - 1 = (p : Int) := by omega
          rw [e1]
          have hp7 : p ≤ 7 := by omega
          have hbit := bit_and (c := c) (p := p) hc256
          have hx2 : c / 2 ^ p % 2 < 2 := Nat.mod_lt _ (by omega)
          have hbl : 8 * k + (7 - p) < (bitsB zs).length := by rw [bitsB_length]; omega
          have hget := bit_at hlt (by omega : p < 8) HC.out
          have htk : Hid ((bitsB zs).take (8 * k + (8 - p)) = (bitsB zs).take (8 * k + (8 - (p + 1))) ++ [c / 2 ^ p % 2]) := by
            show _ = _
            rw [show 8 * k + (8 - p) = 8 * k + (7 - p) + 1 by omega, show 8 * k + (8 - (p + 1)) = 8 * k + (7 - p) by omega, List.take_succ_eq_append_getElem hbl, ← hget]
            simp [hbl]
          have hll : ((bitsB zs).take (8 * k + (8 - (p + 1)))).length < 8 * zs.length := by rw [List.length_take, bitsB_length]; omega
          obtain ⟨fn, tmps, assign, body, hy, hR⟩ := hY _ _ wr hJ hx2 hll
          rw [← hbit] at hy
          have hq := div_bd (c := c) (p := p) hc256
          clear hbit hget hx2 hJ
          gi_wp2
          refine ⟨fun h => by simp [Fence.wide] at h, ?_⟩
          refine hR.mono ?_
          rintro e W5 (⟨rfl, hJ5, hk5⟩ | ⟨rfl, hJx5⟩)
          · gi_wp2
            go_roundw
            case rel => exact ⟨p, by go_num, by omega, by rw [htk.out]; exact hJ5, hB.trans hk5.1, hk5.2.trans hbb⟩
            case measure => simp [intOf]
          · gi_wp2
            refine bodyPost_ret (results_none rfl _ _ _) rfl ?_
            refine ⟨⟨_, rfl⟩, .inr ⟨_, ⟨8 * k + (7 - p), by omega, ?_⟩, hJx5⟩⟩
            rw [← htk.out, show 8 * k + (8 - p) = 8 * k + (7 - p) + 1 by omega]
    · obtain rfl : k = zs.length := by omega
      gi_wp2
      go_end0
      refine ⟨⟨_, rfl⟩, .inl ⟨_, ?_, hJ⟩⟩
      show _ = _
      rw [List.take_of_length_le (by rw [bitsB_length]; omega)]

theorem bits_seq (n Bb : Nat) (v : Value) (zs : List Int) (W0 w : World) (hv : Sl .u8 W0 v zs) (hz : zs.length ≤ 1000000) (hW0 : Below W0.heap.size W0 w) (hb : w.heap[Bb]? = some (.cells #[v] 24 (0, 0))) :
    SeqY Tryd.prog n 61 #[.pointer (some ⟨Bb, 0, none⟩)] (fun x : Nat => #[.int .i64 (x : Int)]) (fun x _ => x < 2)
      (fun A B => Below W0.heap.size A B ∧ B.heap[Bb]? = A.heap[Bb]?) (AllBits zs) (SomeBits zs) (8 * zs.length) w := fun l J Jx W hW _ _ hY h0 =>
  bits_iter n l Bb _ v zs J Jx hY W0 W rfl hv hz (hW0.trans (hW.mono hW0.size)) ((hW.block Bb (Array.getElem?_eq_some_iff.1 hb).1).trans hb) h0

end Go.Proofs.YtimggejonppegaaDoor
