
/-
  The document's own answers of layer 4: a code's bits, how many bytes, which code.
-/
import Derived.Test.YtimggejonppegaaDoorRef04
import Derived.Test.YtimggejonppegaaDoorSame
namespace Go.Proofs.YtimggejonppegaaDoor
open Go.RowKit

/-- bits as bytes -/
def bitI (l : List Nat) : List Int := l.map (fun (x : Nat) => (x : Int))
theorem bitI_length (l : List Nat) : (bitI l).length = l.length := by simp [bitI]
theorem bitI_append (l m : List Nat) : bitI (l ++ m) = bitI l ++ bitI m := by simp [bitI]
theorem bitI_at (l : List Nat) (i : Nat) : at0 (bitI l) i = ((l.getD i 0 : Nat) : Int) := by
  by_cases h : i < l.length
  · simp [at0, bitI, h]
  · simp [at0, bitI, List.getElem?_eq_none (by omega : l.length ≤ i)]
theorem bitI_fit {l : List Nat} (h : Bits l) : Fit .u8 (bitI l) := by
  intro x hx
  obtain ⟨b, hb, rfl⟩ := List.mem_map.1 hx
  have := h b hb
  exact WalkArith.wf_u8 (by omega)
/-- the last ones of a number's bits, zeros ahead of them -/
def rowB (n c k : Nat) : List Int := List.replicate (n - k) 0 ++ bitI ((bitsOf n c).drop (n - k))
theorem rowB_zero (n c : Nat) : rowB n c 0 = List.replicate n 0 := by
  rw [rowB, List.drop_of_length_le (by rw [bitsOf_length]; omega)]; simp [bitI]
theorem rowB_whole (n c : Nat) : rowB n c n = bitI (bitsOf n c) := by simp [rowB]
theorem rowB_set {n c k : Nat} (h : k < n) : (rowB n c k).set (n - 1 - k) ((c / 2 ^ k % 2 : Nat) : Int) = rowB n c (k + 1) := by
  have hl := bitsOf_length n c
  have hg := bitsOf_get (n := n) (k := c) (i := n - 1 - k) (by omega)
  rw [show n - 1 - (n - 1 - k) = k by omega] at hg
  have e1 : (bitsOf n c).drop (n - (k + 1)) = (c / 2 ^ k % 2) :: (bitsOf n c).drop (n - k) := by
    rw [List.drop_eq_getElem_cons (by omega : n - (k + 1) < (bitsOf n c).length), show n - (k + 1) + 1 = n - k by omega]
    congr 1
    rw [← hg]
    simp [show n - 1 - k < (bitsOf n c).length by omega, show n - (k + 1) = n - 1 - k by omega]
  have e2 : List.replicate (n - k) (0 : Int) = List.replicate (n - (k + 1)) 0 ++ [0] := by
    rw [← List.replicate_succ', show n - (k + 1) + 1 = n - k by omega]
  rw [rowB, rowB, e1, e2, List.append_assoc, List.set_append_right _ _ (by simp; omega), List.length_replicate, show n - 1 - k - (n - (k + 1)) = 0 by omega]
  rfl

theorem spell_own (c n : Nat) (w : World) (hn : n ≤ 30) (hc : c < 2147483648) :
    Calls Tryd.prog 50 #[.int .i64 c, .int .i64 n] w fun e w' => ∃ v, e = .returned v ∧ w'.ownsRow w.heap.size 5 1 v n ((bitI (bitsOf n c)).map (Value.int .u8)) ∧ Below w.heap.size w w' := by
  obtain ⟨i0, hi, hz0, hz1, hz2⟩ := info_parts Tryd.info5'
  go_enter Tryd.func50, Tryd.ntmps50
  go_wp2_with (at_make; refine wpList_make_full _ rfl _ _ 24 rfl w.heap.size 5 i0 (.int .u8 0) 1 Tryd.underlying24 hi hz0 hz1 .i64 .i64 _ _ n rfl rfl rfl rfl (by rw [hz2]; omega) (by unfold maxLen; omega) (Nat.le_refl _) ?_; intro w1 hown hgrow)
  have hbel : Below w.heap.size w w1 := (Below.refl _ _).grown hgrow (Nat.le_refl _) (fun k h => by simp at h)
  have hown0 : w1.ownsRow w.heap.size 5 1 (.slice (some ⟨w.heap.size, 0, none⟩) n n) n ((rowB n c 0).map (Value.int .u8)) := by
    rw [rowB_zero]; exact made_zeros hown
  clear hown hgrow
  go_loopw [6, 7] (fun l i wr => ∃ k : Nat, k ≤ n ∧ i = .int .i64 ((n : Int) - 1 - k) ∧ l = .int .i64 ((c / 2 ^ k : Nat) : Int) ∧ wr.ownsRow w.heap.size 5 1 (.slice (some ⟨w.heap.size, 0, none⟩) n n) n ((rowB n c k).map (Value.int .u8)) ∧ Below w.heap.size w wr)
      (fun _ i _ => (intOf i + 1).toNat)
  case atStart => exact ⟨0, Nat.zero_le _, by simp, by simp, hown0, hbel⟩
  case round =>
    clear hown0 hbel
    obtain ⟨k, hk, rfl, rfl, hown, hbel⟩ := hrel
    have hq0 : c / 2 ^ k ≤ c := Nat.div_le_self _ _
    obtain ⟨q, hq⟩ : ∃ q, c / 2 ^ k = q := ⟨_, rfl⟩
    have HQ := Lib.hid hq
    by_cases hlt : k < n
    · have hset := rowB_set (c := c) hlt
      have hnext : c / 2 ^ (k + 1) = q / 2 := by rw [Nat.pow_succ, ← Nat.div_div_eq_div_mul, hq]
      have HNX := Lib.hid hnext
      rw [hq] at hq0 hset ⊢
      have hcell := owned_cell hown (n - 1 - k) (by omega)
      have hfr := hown.frozenAt (n - 1 - k)
      have hown' := owned_store hown (n - 1 - k) ((q % 2 : Nat) : Int)
      rw [hset] at hown'
      have eq2 : ((q % 2 : Nat) : Int) = (q : Int) % 2 := by omega
      rw [eq2] at hown'
      have HO := Lib.hid hown'
      clear hq hset hnext hown' eq2 hown
      go_wp2
      go_roundw
      case rel => exact ⟨k + 1, by omega, by go_num, (by rw [HNX.out]; go_num), HO.out, hbel.setCell (Nat.le_refl _) _⟩
      case measure => simp [intOf]; omega
    · obtain rfl : k = n := by omega
      clear hq
      go_wp2
      go_ret
      rw [rowB_whole] at hown
      exact ⟨_, rfl, hown, hbel⟩

/-- which code these are, from one byte on -/
def findC (n k : Nat) : Int := match look n k with | none => -1 | some c => (c : Int)
theorem find_any (bl bc cl cc n k : Nat) (tl tc : TypeId) (w : World) (hl : w.heap[bl]? = some (.cells (intsA lenL) tl (0, 0))) (hc : w.heap[bc]? = some (.cells (intsA codeL) tc (0, 0))) :
    Calls Tryd.prog 51 #[.slice (some ⟨bl, 0, none⟩) 257 cl, .slice (some ⟨bc, 0, none⟩) 257 cc, .int .i64 k, .int .i64 n] w fun e w' => e = .returned (.int .i64 (findC n k)) ∧ w = w' := by
  have HL := Lib.hid hl
  have HC := Lib.hid hc
  clear hl hc
  go_enter Tryd.func51, Tryd.ntmps51
  go_wp2_with fail
  go_loop [9] (fun i => ∃ c : Nat, c ≤ 257 ∧ i = .int .i64 c ∧ Hid (∀ d, d < c → ¬ (len d = n ∧ code d = k))) (fun i => 257 - (intOf i).toNat)
  case atStart => exact ⟨0, Nat.zero_le _, rfl, fun d hd => absurd hd (Nat.not_lt_zero _)⟩
  case round =>
    obtain ⟨c, hc257, rfl, HN⟩ := hrel
    by_cases hlt : c < 257
    · have h1 := lenL_cell HL.out hlt
      have h2 := codeL_cell HC.out hlt
      by_cases hln : len c = n
      · have hd : (((len c : Nat) : Int) == (n : Int)) = true := by rw [hln]; simp
        by_cases hcn : code c = k
        · have hd2 : (((code c : Nat) : Int) == (k : Int)) = true := by rw [hcn]; simp
          have HF := Lib.hid (show findC n k = (c : Int) by rw [findC, ← hln, ← hcn, look_is hlt])
          clear hln hcn
          go_wp2_with fail
          go_ret
          exact ⟨by rw [HF.out]; rfl, rfl⟩
        · have hd2 : (((code c : Nat) : Int) == (k : Int)) = false := by rw [beq_eq_false_iff_ne]; omega
          have HD := Lib.hid (show ¬ (len c = n ∧ code c = k) from fun h => hcn h.2)
          clear hln hcn
          go_wp2_with fail
          go_round
          case rel => exact ⟨c + 1, by omega, by go_num, fun d hd => if h : d = c then by rw [h]; exact HD.out else HN.out d (by omega)⟩
          case measure => simp [intOf]; omega
      · have hd : (((len c : Nat) : Int) == (n : Int)) = false := by rw [beq_eq_false_iff_ne]; omega
        have HD := Lib.hid (show ¬ (len c = n ∧ code c = k) from fun h => hln h.1)
        clear hln
        go_wp2_with fail
        go_round
        case rel => exact ⟨c + 1, by omega, by go_num, fun d hd => if h : d = c then by rw [h]; exact HD.out else HN.out d (by omega)⟩
        case measure => simp [intOf]; omega
    · obtain rfl : c = 257 := by omega
      have HF := Lib.hid (show findC n k = -1 by
        rw [findC]
        cases e : look n k with
        | none => rfl
        | some d =>
          obtain ⟨h1, h2⟩ := look_of e
          exact absurd h2 (HN.out d h1))
      go_wp2_with fail
      go_ret
      exact ⟨by rw [HF.out]; rfl, rfl⟩
end Go.Proofs.YtimggejonppegaaDoor
