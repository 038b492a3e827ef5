
/-
  The document's own answer of layer 4: the text of bytes.
-/
import Derived.Test.YtimggejonppegaaDoorRef04Enc
namespace Go.Proofs.YtimggejonppegaaDoor
open Go.RowKit

theorem spell8 (z : Nat) (w : World) (hz : z < 2147483648) : Calls Tryd.prog 50 #[.int .i64 z, .int .i64 8] w fun e w' => ∃ v, e = .returned v ∧ Sl .u8 w' v (bitI (bitsOf 8 z)) ∧ Below w.heap.size w w' :=
  (spell_own z 8 w (by omega) hz).mono fun _ _ ⟨v, he, hO, hb⟩ => ⟨v, he, Sl.of_own hO (bitI_fit (bitsOf_bits _ _)) (by rw [bitI_length, bitsOf_length]; unfold maxLen; omega), hb⟩
theorem find_step (bl bc cl cc n k b : Nat) (tl tc : TypeId) (w : World) (hl : w.heap[bl]? = some (.cells (intsA lenL) tl (0, 0))) (hc : w.heap[bc]? = some (.cells (intsA codeL) tc (0, 0))) :
    Calls Tryd.prog 51 #[.slice (some ⟨bl, 0, none⟩) 257 cl, .slice (some ⟨bc, 0, none⟩) 257 cc, .int .i64 (2 * (k : Int) + b), .int .i64 ((n : Int) + 1)] w fun e w' => e = .returned (.int .i64 (findC (n + 1) (2 * k + b))) ∧ w = w' := by
  have h := find_any bl bc cl cc (n + 1) (2 * k + b) tl tc w hl hc
  have e1 : ((2 * k + b : Nat) : Int) = 2 * (k : Int) + b := by omega
  have e2 : ((n + 1 : Nat) : Int) = (n : Int) + 1 := by omega
  rw [e1, e2] at h
  exact h
theorem drop_bit {l : List Nat} {i : Nat} (h : i < l.length) : l.drop i = l.getD i 0 :: l.drop (i + 1) := by
  rw [List.drop_eq_getElem_cons h]
  simp [h]
theorem dec_end {most : Int} {out : List Int} {n k : Nat} : dec most [] out n k = if n ≤ 7 ∧ k + 1 = 2 ^ n then (out, 0) else ([], 3) := by rw [dec]
theorem pend_bd {n k : Nat} (h : Pend n k) : n < 30 ∧ k < 1073741824 := by
  have hn := pend_lt h
  exact ⟨hn, Nat.lt_of_lt_of_le h.1 (Nat.pow_le_pow_right (by omega : 2 > 0) (by omega : n ≤ 30))⟩
/-- what a call of Decode leaves -/
def DecOut (w : World) (d : List Int × Int) (e : Ending) (w' : World) : Prop := ∃ v', e = .returned (.tuple #[v', .int .i64 d.2]) ∧ Sl .u8 w' v' d.1 ∧ Below w.heap.size w w'
theorem DecOut.err {w w' : World} {d : List Int × Int} {z : Int} (h : d = ([], z)) (hb : Below w.heap.size w w') : DecOut w d (.returned (.tuple #[.slice none 0 0, .int .i64 z])) w' := by
  subst h
  exact ⟨_, rfl, Sl.nil _ _, hb⟩
/-- how the loop stands -/
def DecSt (most : Int) (zs out : List Int) (i n k : Nat) : Prop := Pend n k ∧ dec most ((bitsB zs).drop i) out n k = decB most zs ∧ out.length ≤ i ∧ Fit .u8 out

set_option maxHeartbeats 1000000 in
set_option maxRecDepth 20000 in
theorem refDec_any (v : Value) (zs : List Int) (most : Int) (w : World) (hv : Sl .u8 w v zs) (hz : zs.length ≤ 1000000) :
    Calls Tryd.prog 40 #[v, .int .i64 most] w (DecOut w (decB most zs)) := by
  have hfit := hv.fit
  obtain ⟨a, cap, rfl, _⟩ := id hv
  have hl0 := heap_alloc_new w (.cells (intsA lenL) 3)
  have hB0 := (Below.refl w.heap.size w).alloc (Nat.le_refl _) (.cells (intsA lenL) 3)
  have hs0 : w.heap.size < (w.alloc (.cells (intsA lenL) 3)).heap.size := by simp
  obtain ⟨W1, hW1⟩ : ∃ W1, w.alloc (.cells (intsA lenL) 3) = W1 := ⟨_, rfl⟩
  have HW1 := Lib.hid hW1
  rw [hW1] at hl0 hB0 hs0
  clear hW1
  go_enter Tryd.func40, Tryd.ntmps40
  go_wp2_with fail
  refine (lengths_any _).mono ?_
  rintro e w' ⟨rfl, rfl⟩
  rw [HW1.out]
  go_wp2_with fail
  refine (refCodes_any _).mono ?_
  rintro e W2 ⟨gc, rfl, hgc, hcd, hb2⟩
  have hl2 := (hb2.block _ hs0).trans hl0
  have hB2 := hB0.trans (hb2.mono hB0.size)
  have hv2 := hv.below hB2
  have hgc2 := (Array.getElem?_eq_some_iff.1 hcd).1
  have hgl2 := (Array.getElem?_eq_some_iff.1 hl2).1
  obtain ⟨gl, hgl⟩ : ∃ gl, w.heap.size = gl := ⟨_, rfl⟩
  rw [hgl] at hl2 hgl2 ⊢
  have HGL := Lib.hid hgl
  have HL2 := Lib.hid hl2
  have HC2 := Lib.hid hcd
  have HV := Lib.hid hv2
  have HB0 := Lib.hid hB2
  clear hb2 hB0 hl0 hs0 hgc hv hgl hl2 hcd hv2 hB2
  go_wp2_with fail
  go_loopg [8, 9, 10, 11, 12] (8 * zs.length) (fun g s8 s9 s10 s11 s12 wr => ∃ (i n k : Nat) (out : List Int), Hid (i + g = 8 * zs.length) ∧ i ≤ 8 * zs.length ∧ s12 = .int .i64 i ∧ s9 = .int .i64 k ∧ s10 = .int .i64 n ∧ s11 = .bool (decide (k + 1 = 2 ^ n)) ∧ Hid (DecSt most zs out i n k) ∧ wr.ownsRow W2.heap.size 5 1 s8 out.length (out.map (Value.int .u8)) ∧ Below W2.heap.size W2 wr)
  case atStart => exact ⟨0, 0, 0, [], Nat.zero_add _, by omega, rfl, rfl, rfl, rfl, ⟨pend0, rfl, by simp, fun x hx => by simp at hx⟩, World.ownsRow_nil _ _ _ _, Below.refl _ _⟩
  case round =>
    obtain ⟨i, n, k, out, HI, hi8, rfl, rfl, rfl, rfl, HS, hO, hB⟩ := hrel
    obtain ⟨ao, cp, rfl, _⟩ := owned_shape hO
    obtain ⟨hn30, hk30⟩ := pend_bd HS.out.1
    have hol := HS.out.2.2.1
    have HO := Lib.hid hO
    have HB := Lib.hid hB
    by_cases hlt : i < 8 * zs.length
    · obtain ⟨b, off, rfl, hbs, hcx⟩ : ∃ b off, a = some ⟨b, off, none⟩ ∧ b < W2.heap.size ∧ W2.cell? ⟨b, off + i / 8, none⟩ = some (.int .u8 (at0 zs (i / 8))) := by
        rcases HV.out.parts with ⟨h0, _⟩ | ⟨_, b, off, c2, he, _, _, h1, h2⟩
        · rw [h0] at hlt; simp at hlt
        · simp only [Value.slice.injEq] at he
          exact ⟨b, off, he.1, h1, h2 (i / 8) (by omega)⟩
      replace hcx := (hB.cell (p := ⟨b, off + i / 8, none⟩) hbs).trans hcx
      have hbz := hfit.byte (i / 8)
      obtain ⟨c, hcc⟩ : ∃ c : Nat, at0 zs (i / 8) = (c : Int) := ⟨(at0 zs (i / 8)).toNat, by omega⟩
      have HBT := Lib.hid (bitsB_at (zs := zs) (q := i / 8) (r := i % 8) (by omega) (by omega))
      rw [hcc, Int.toNat_natCast, show 8 * (i / 8) + i % 8 = i by omega] at HBT
      rw [hcc] at hcx hbz
      have hix := fun (W : World) => sl_index Tryd.slice22 Tryd.size22 b off zs.length cap (i / 8) (by omega) .i64 W
      have e8 : ((i / 8 : Nat) : Int) = (i : Int) / 8 := by omega
      rw [e8] at hix
      clear hcc e8 hO hB
      go_wp2_with fail
      refine (spell8 c _ (by omega)).mono ?_
      rintro e w4 ⟨v4, rfl, hS4, hb4⟩
      clear hcx hix
      rcases hS4.parts with ⟨h0, _⟩ | ⟨_, b4, off4, c4, rfl, _, _, _, h2⟩
      · exact absurd (congrArg List.length h0) (by rw [bitI_length, bitsOf_length]; simp)
      have hl8 : (bitI (bitsOf 8 c)).length = 8 := by rw [bitI_length, bitsOf_length]
      rw [hl8] at h2 ⊢
      have hcell := h2 (i % 8) (by omega)
      rw [bitI_at, ← HBT.out] at hcell
      have hix := fun (W : World) => sl_index Tryd.slice22 Tryd.size22 b4 off4 8 c4 (i % 8) (by omega) .i64 W
      have e8 : ((i % 8 : Nat) : Int) = (i : Int) % 8 := by omega
      rw [e8] at hix
      have hbl : i < (bitsB zs).length := by rw [bitsB_length]; exact hlt
      have hbit : (bitsB zs).getD i 0 < 2 := bitsB_bits zs _ (by simp [hbl])
      have HDB := Lib.hid (drop_bit hbl)
      obtain ⟨bt, hbt⟩ : ∃ bt, (bitsB zs).getD i 0 = bt := ⟨_, rfl⟩
      rw [hbt] at hcell hbit HDB
      have hO4 := owned_below HO.out hb4
      have hB4 := HB.out.trans (hb4.mono HB.out.size)
      have hl4 := (hB4.block _ hgl2).trans HL2.out
      have hc4 := (hB4.block _ hgc2).trans HC2.out
      have HO4 := Lib.hid hO4
      have HB4 := Lib.hid hB4
      have HFS := Lib.hid (find_step gl gc 257 257 n k bt _ _ w4 hl4 hc4)
      clear h2 hl8 e8 hbt hO4 hB4 hl4 hc4 hS4 hb4
      cases e : look (n + 1) (2 * k + bt) with
      | none =>
        have HFC : Hid (findC (n + 1) (2 * k + bt) = -1) := by show _ = _; rw [findC, e]
        have HST : Hid (DecSt most zs out (i + 1) (n + 1) (2 * k + bt)) := by
          obtain ⟨h1, h2, h3, h4⟩ := HS.out
          rw [HDB.out, dec_none e] at h2
          exact ⟨pend_step h1 hbit e, h2, by omega, h4⟩
        clear e
        by_cases hk1 : k + 1 = 2 ^ n
        · have d1 := decide_eq_true hk1
          have HD : Hid (decide (2 * k + bt + 1 = 2 ^ (n + 1)) = ((bt : Int) == 1)) := by
            show _ = _
            rw [Nat.pow_succ, ← hk1, Bool.eq_iff_iff]
            simp
            omega
          rw [d1]
          clear hk1 d1
          go_wp2_with fail
          refine HFS.out.mono ?_
          rintro e w' ⟨rfl, rfl⟩
          rw [HFC.out]
          go_wp2_with fail
          go_roundg (8 * zs.length - (i + 1))
          case measure => have := HI.out; omega
          case rel => exact ⟨i + 1, n + 1, 2 * k + bt, out, by show _ = _; omega, by omega, by go_num, by go_num, by go_num, by rw [HD.out], HST.out, HO4.out, HB4.out⟩
        · have d1 := decide_eq_false hk1
          have HD : Hid (decide (2 * k + bt + 1 = 2 ^ (n + 1)) = false) := by
            show _ = _
            rw [decide_eq_false_iff_not, Nat.pow_succ]
            have := HS.out.1.1
            omega
          rw [d1]
          clear hk1 d1
          go_wp2_with fail
          refine HFS.out.mono ?_
          rintro e w' ⟨rfl, rfl⟩
          rw [HFC.out]
          go_wp2_with fail
          go_roundg (8 * zs.length - (i + 1))
          case measure => have := HI.out; omega
          case rel => exact ⟨i + 1, n + 1, 2 * k + bt, out, by show _ = _; omega, by omega, by go_num, by go_num, by go_num, by rw [HD.out], HST.out, HO4.out, HB4.out⟩
      | some c2 =>
        obtain ⟨hc257, _, _⟩ := look_of e
        have HDS : Hid (decB most zs = if c2 = 256 then ([], 3) else if most ≤ out.length then ([], 4) else dec most ((bitsB zs).drop (i + 1)) (out ++ [(c2 : Int)]) 0 0) := by
          show _ = _
          rw [← HS.out.2.1, HDB.out, dec_some e]
        by_cases h256 : c2 = 256
        · have HFC : Hid (findC (n + 1) (2 * k + bt) = 256) := by show _ = _; rw [findC, e, h256]; rfl
          have HDE : Hid (decB most zs = ([], 3)) := by show _ = _; rw [HDS.out, if_pos h256]
          clear e h256
          go_wp2_with (go_at_call 51; refine HFS.out.mono ?_; rintro e w' ⟨rfl, rfl⟩; rw [HFC.out])
          all_goals
            go_ret2
            exact DecOut.err HDE.out (HB0.out.trans (HB4.out.mono HB0.out.size))
        · have HFC : Hid (findC (n + 1) (2 * k + bt) = (c2 : Int)) := by show _ = _; rw [findC, e]
          have d256 : ((c2 : Int) == 256) = false := by rw [beq_eq_false_iff_ne]; omega
          have hc256 : c2 < 256 := by omega
          by_cases hmo : most ≤ out.length
          · have HDE : Hid (decB most zs = ([], 4)) := by show _ = _; rw [HDS.out, if_neg h256, if_pos hmo]
            clear e h256
            go_wp2_with (go_at_call 51; refine HFS.out.mono ?_; rintro e w' ⟨rfl, rfl⟩; rw [HFC.out])
            all_goals
              go_ret2
              exact DecOut.err HDE.out (HB0.out.trans (HB4.out.mono HB0.out.size))
          · have hmo2 : ¬ most ≤ (out.length : Int) := hmo
            have HST : Hid (DecSt most zs (out ++ [(c2 : Int)]) (i + 1) 0 0) := by
              obtain ⟨h1, h2, h3, h4⟩ := HS.out
              refine ⟨pend0, by rw [HDS.out, if_neg h256, if_neg hmo], by simp; omega, ?_⟩
              exact h4.append (by intro z hz; rw [List.mem_singleton] at hz; subst hz; exact WalkArith.wf_u8 (by omega))
            have hO4 := HO4.out
            clear e h256 hmo2
            go_wp2_with (first
              | (go_at_call 51; refine HFS.out.mono ?_; rintro e w' ⟨rfl, rfl⟩; rw [HFC.out])
              | (at_builtin; refine app_ints rfl (.tmp 60) (.tmp 63) 24 rfl W2.heap.size 5 .u8 1 Tryd.underlying24 Tryd.info5' _ out.length out rfl (hO4.alloc _) _ [(c2 : Int)] rfl (Sl.lit' [(c2 : Int)] rfl rfl rfl (by intro z hz; rw [List.mem_singleton] at hz; subst hz; exact WalkArith.wf_u8 (by omega)) (by simp [maxLen])) (by simp; omega) (by simp [maxLen]; omega) (by have := HB4.out.size; simp; omega) ?_; intro v5 w5 hO5 hc5 hg5))
            all_goals
              go_roundg (8 * zs.length - (i + 1))
              case measure => have := HI.out; omega
              case rel =>
                refine ⟨i + 1, 0, 0, out ++ [(c2 : Int)], by show _ = _; have := HI.out; omega, by omega, by go_num, rfl, rfl, rfl, HST.out, ?_, (HB4.out.alloc HB4.out.size _).trans hc5⟩
                rw [List.length_append]
                exact hO5
    · obtain rfl : i = 8 * zs.length := by omega
      have HDD : Hid (decB most zs = if n ≤ 7 ∧ k + 1 = 2 ^ n then (out, 0) else ([], 3)) := by
        show _ = _
        rw [← HS.out.2.1, List.drop_of_length_le (by rw [bitsB_length]; omega), dec_end]
      by_cases h7 : n ≤ 7
      · have dn : decide (7 < (n : Int)) = false := decide_eq_false (by omega)
        by_cases hk1 : k + 1 = 2 ^ n
        · have d1 := decide_eq_true hk1
          have HDE : Hid (decB most zs = (out, 0)) := by show _ = _; rw [HDD.out, if_pos ⟨h7, hk1⟩]
          have HSO := Lib.hid (Sl.of_own hO HS.out.2.2.2 (by unfold maxLen; omega))
          rw [d1]
          clear hk1 d1 hO hB
          go_wp2_with fail
          go_ret2
          rw [HDE.out]
          exact ⟨_, rfl, HSO.out, HB0.out.trans (HB.out.mono HB0.out.size)⟩
        · have d1 := decide_eq_false hk1
          have HDE : Hid (decB most zs = ([], 3)) := by show _ = _; rw [HDD.out, if_neg (fun h => hk1 h.2)]
          rw [d1]
          clear hk1 d1 hO hB
          go_wp2_with fail
          go_ret2
          exact DecOut.err HDE.out (HB0.out.trans (HB.out.mono HB0.out.size))
      · have dn : decide (7 < (n : Int)) = true := decide_eq_true (by omega)
        have HDE : Hid (decB most zs = ([], 3)) := by show _ = _; rw [HDD.out, if_neg (fun h => h7 h.1)]
        clear hO hB
        go_wp2_with fail
        all_goals
          go_ret2
          exact DecOut.err HDE.out (HB0.out.trans (HB.out.mono HB0.out.size))
end Go.Proofs.YtimggejonppegaaDoor
