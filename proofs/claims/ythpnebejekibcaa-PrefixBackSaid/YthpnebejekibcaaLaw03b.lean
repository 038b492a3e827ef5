/-
  The second statement of layer 3: its walk.
-/
import Derived.Test.YthpnebejekibcaaLaw03
namespace Go.Proofs.Ythpnebejekibcaa
open Go.RowKit

/-- the boxes of the two arrays that came in, as they are read -/
structure Boxes (W : World) (g : Nat) (p q c0 c1 c2 : Int) : Prop where
  lt : g + 1 < W.heap.size
  p : W.cell? ⟨g, 0, none⟩ = some (.int .i64 p)
  q : W.cell? ⟨g, 1, none⟩ = some (.int .i64 q)
  c0 : W.cell? ⟨g + 1, 0, none⟩ = some (.int .u8 c0)
  c1 : W.cell? ⟨g + 1, 1, none⟩ = some (.int .u8 c1)
  c2 : W.cell? ⟨g + 1, 2, none⟩ = some (.int .u8 c2)
theorem Boxes.below {W W' : World} {g : Nat} {p q c0 c1 c2 : Int} (h : Boxes W g p q c0 c1 c2) (hb : Below W.heap.size W W') : Boxes W' g p q c0 c1 c2 :=
  ⟨Nat.lt_of_lt_of_le h.lt hb.size, (hb.cell (p := ⟨g, 0, none⟩) (by have := h.lt; simp; omega)).trans h.p, (hb.cell (p := ⟨g, 1, none⟩) (by have := h.lt; simp; omega)).trans h.q,
    (hb.cell (p := ⟨g + 1, 0, none⟩) h.lt).trans h.c0, (hb.cell (p := ⟨g + 1, 1, none⟩) h.lt).trans h.c1, (hb.cell (p := ⟨g + 1, 2, none⟩) h.lt).trans h.c2⟩

theorem back3_long (p q c0 c1 c2 : Int) (v : Value) (zs : List Int) (w : World) (hv : Sl .u8 w v zs) (h : 300 < zs.length) :
    Calls Try.prog 4 #[.agg #[.int .i64 p, .int .i64 q], .agg #[.int .u8 c0, .int .u8 c1, .int .u8 c2], v] w fun e w' => e = .returned (.bool true) ∧ Below w.heap.size w w' := by
  obtain ⟨a, cap, rfl, _⟩ := hv
  have hb0 := ((Below.refl w.heap.size w).alloc (Nat.le_refl _) (.cells #[.int .i64 p, .int .i64 q] 22)).alloc (by simp) (.cells #[.int .u8 c0, .int .u8 c1, .int .u8 c2] 32)
  go_enter Try.func4, Try.ntmps4
  go_wp2_with (go_at_call 5; refine (alive03 _).mono ?_; rintro e w' ⟨rfl, hb⟩)
  go_ret
  exact ⟨rfl, hb0.trans (hb.mono (by simp; omega))⟩

theorem encE_ok {n b a : Int} (h : encOk n b a) : encE n b a = 0 := if_pos h
theorem encE_no {n b a : Int} (h : ¬ encOk n b a) : encE n b a = 1 := if_neg h
theorem encR_ok {n b a : Int} (h : encOk n b a) : encR n b a = encP (fullP b) a n := if_pos h
theorem above_of (c : Int) (S : Nat) (h1 : 1 ≤ S) (h8 : S ≤ 8) (c0 : 0 ≤ c) (c5 : c ≤ 255) : 0 ≤ c / (fullP S + 1) * (fullP S + 1) ∧ c / (fullP S + 1) * (fullP S + 1) ≤ 255 ∧ c / (fullP S + 1) * (fullP S + 1) % (fullP S + 1) = 0 := by
  have hm := fullP_bound (b := S) (by omega) (by omega)
  have := Int.ediv_mul_le c (b := fullP S + 1) (by omega)
  have h0 : 0 ≤ c / (fullP S + 1) := Int.ediv_nonneg c0 (by omega)
  exact ⟨Int.mul_nonneg h0 (by omega), by omega, Int.mul_emod_left _ _⟩

set_option maxHeartbeats 1000000 in
theorem back3_short (p q c0 c1 c2 : Int) (v : Value) (zs : List Int) (w : World) (hv : Sl .u8 w v zs) (hl : zs.length ≤ 300)
    (h00 : 0 ≤ c0) (h01 : c0 ≤ 255) (h10 : 0 ≤ c1) (h11 : c1 ≤ 255) (h20 : 0 ≤ c2) (h21 : c2 ≤ 255) :
    Calls Try.prog 4 #[.agg #[.int .i64 p, .int .i64 q], .agg #[.int .u8 c0, .int .u8 c1, .int .u8 c2], v] w fun e w' => e = .returned (.bool true) ∧ Below w.heap.size w w' := by
  obtain ⟨a, cap, rfl, _⟩ := id hv
  have hb0 := ((Below.refl w.heap.size w).alloc (Nat.le_refl _) (.cells #[.int .i64 p, .int .i64 q] 22)).alloc (by simp) (.cells #[.int .u8 c0, .int .u8 c1, .int .u8 c2] 32)
  have hv0 := (hv.alloc (.cells #[.int .i64 p, .int .i64 q] 22)).alloc (.cells #[.int .u8 c0, .int .u8 c1, .int .u8 c2] 32)
  have hx0 : Boxes ((w.alloc (.cells #[.int .i64 p, .int .i64 q] 22)).alloc (.cells #[.int .u8 c0, .int .u8 c1, .int .u8 c2] 32)) w.heap.size p q c0 c1 c2 :=
    ⟨by simp, by simp, by simp, by simp, by simp, by simp⟩
  obtain ⟨S, hS⟩ : ∃ S : Nat, c0 % 8 + 1 = S := Int.eq_ofNat_of_zero_le (by omega)
  have hS1 : 1 ≤ S := by omega
  have hS8 : S ≤ 8 := by omega
  have HS := Lib.hid hS
  clear hS
  go_enter Try.func4, Try.ntmps4
  go_wp2_with fail
  obtain ⟨W0, hW0⟩ : ∃ W0, (w.alloc (.cells #[.int .i64 p, .int .i64 q] 22)).alloc (.cells #[.int .u8 c0, .int .u8 c1, .int .u8 c2] 32) = W0 := ⟨_, rfl⟩
  rw [hW0] at hb0 hv0 hx0 ⊢
  clear hW0
  have k0 := hx0.c0
  go_wp2_with fail
  rw [HS.out]
  clear k0
  go_loop [8, 9] (fun n i => ∃ k : Nat, k ≤ S ∧ i = .int .i64 k ∧ n = .int .i64 (2 ^ k)) (fun _ i => S - (intOf i).toNat)
  case atStart => exact ⟨0, Nat.zero_le _, rfl, rfl⟩
  case round =>
    obtain ⟨k, hk, rfl, rfl⟩ := hrel
    by_cases hlt : k < S
    · obtain ⟨p, hp⟩ : ∃ p : Int, p = 2 ^ k := ⟨_, rfl⟩
      have hb : 1 ≤ p ∧ p ≤ 128 := by
        rw [hp]
        rcases (show k = 0 ∨ k = 1 ∨ k = 2 ∨ k = 3 ∨ k = 4 ∨ k = 5 ∨ k = 6 ∨ k = 7 by omega) with rfl | rfl | rfl | rfl | rfl | rfl | rfl | rfl <;> decide
      have HP := Lib.hid hp
      rw [← hp]
      clear hp
      go_wp2_with fail
      go_round
      case rel => exact ⟨k + 1, by omega, by go_num, by rw [Int.pow_succ, ← HP.out, Int.mul_comm]⟩
      case measure => simp [intOf]; omega
    · obtain rfl : k = S := by omega
      have hab := above_of c1 k hS1 hS8 h10 h11
      have hm := fullP_bound (b := k) (by omega) (by omega)
      rw [show (2 : Int) ^ k = fullP k + 1 by simp [fullP]]
      obtain ⟨m, hM⟩ : ∃ m, fullP k = m := ⟨_, rfl⟩
      rw [hM] at hab hm ⊢
      have HM := Lib.hid hM
      clear hM
      obtain ⟨ha0, ha1, ha2⟩ := hab
      have HA := Lib.hid ha2
      clear ha2
      have hm1 : 0 < m + 1 := by omega
      have k1 := hx0.c1
      have kp := hx0.p
      go_wp2_with fail
      obtain ⟨ab, hab⟩ : ∃ ab, c1 / (m + 1) * (m + 1) = ab := ⟨_, rfl⟩
      rw [hab] at ha0 ha1 HA ⊢
      clear hab k1 kp
      have hok : ∀ n : Int, encOk n k ab ↔ (0 ≤ n ∧ n ≤ 16777215) := fun n => ⟨fun h => h.1, fun h => ⟨h, ⟨by omega, by omega⟩, ha0, ha1, by rw [HM.out]; exact HA.out⟩⟩
      have HO := Lib.hid hok
      clear hok
      refine (prefEnc_any p k ab _).mono ?_
      rintro e w1 ⟨x, rfl, hx, hb1⟩
      have hx1 := hx0.below hb1
      have hv1 := hv0.below hb1
      have hB1 := hb0.trans (hb1.mono hb0.size)
      clear hx0 hv0 hb0 hb1
      have kq := hx1.q
      go_wp2_with fail
      refine (prefEnc_any q k ab _).mono ?_
      rintro e w2 ⟨y, rfl, hy, hb2⟩
      have hx2 := hx1.below hb2
      have hv2 := hv1.below hb2
      have hxs := hx.below hb2
      have hB2 := hB1.trans (hb2.mono hB1.size)
      clear kq hx1 hv1 hx hB1 hb2
      have kp := hx2.p
      by_cases hp : 0 ≤ p ∧ p ≤ 16777215
      · have hokp := (HO.out p).2 hp
        rw [encE_ok hokp]
        rw [encR_ok hokp, HM.out] at hxs
        obtain ⟨p0, p1⟩ := hp
        have hlen1 := (encP_length m ab p).1
        have hlen5 := encP_five m ab p (by omega) p0 p1
        have HB := Lib.hid (decP_encP m ab p zs (by omega) HA.out p0 p1)
        have HC := Lib.hid (fun j => decP_cut m ab p j (by omega) HA.out p0 p1)
        have HF := Lib.hid hokp.fit
        clear hokp
        obtain ⟨xs, hxs'⟩ : ∃ xs, encP m ab p = xs := ⟨_, rfl⟩
        have HX := Lib.hid hxs'
        rw [hxs'] at hxs hlen1 hlen5 HB HC
        clear hxs'
        obtain ⟨ax, capx, rfl, _⟩ := id hxs
        have hlx : ((xs.length : Int) == 0) = false := by simp; intro e; subst e; simp at hlen1
        have hl5 : ((0 : Nat) + xs.length) ≤ 5 := by omega
        have hemp : (w2.alloc (.cells #[] 5)).ownsRow w2.heap.size 5 1 (.slice (some ⟨w2.heap.size, 0, none⟩) 0 0) 0 (([] : List Int).map (Value.int .u8)) := by
          have := World.ownsRow_made (base := w2.heap.size) (e := 5) (size := 1) w2 #[] 0 (by simp) (by decide) rfl
          simpa using this
        have hzz := hB2.size
        go_wp2_with (first
          | (at_builtin; refine app_ints rfl (.tmp 85) (.tmp 86) 23 rfl w2.heap.size 5 .u8 1 Try.underlying23 Try.info5' _ 0 [] rfl hemp _ xs rfl (hxs.alloc _) (by simp; omega) (by simp [maxLen]; omega) (by simp) ?_; intro v4 w4 hO4 hc4 hg4; simp only [List.length_nil, Nat.zero_add, List.nil_append] at hO4; obtain ⟨a4, cp4, rfl, _⟩ := owned_shape hO4; have hb4 := ((Below.refl w2.heap.size w2).alloc (Nat.le_refl _) (.cells #[] 5)).trans hc4; have hz4 := hb4.size)
          | (at_builtin; refine app_ints rfl (.tmp 87) (.tmp 88) 23 rfl w2.heap.size 5 .u8 1 Try.underlying23 Try.info5' _ xs.length xs rfl hO4 _ zs rfl (hv2.below hb4) (by omega) (by unfold maxLen; omega) hz4 ?_; intro v5 w5 hO5 hc5 hg5; have hb5 := hb4.trans hc5))
        have hS5 := Sl.of_own hO5 (Fit.append hxs.fit hv2.fit) (by unfold maxLen; simp; omega)
        have hx5 := hx2.below hb5
        have hxs5 := hxs.below hb5
        have hy5 := hy.below hb5
        have hB5 := hB2.trans (hb5.mono hzz)
        clear hO5 hb5 hc5 hg5 hO4 hb4 hz4 hc4 hg4 hemp hx2 hxs hy hv2 hB2 hl5 kp hzz
        refine (prefDec_is v5 (xs ++ zs) k _ hS5 p xs.length 0 (by rw [decA, if_pos ⟨by omega, by omega⟩, HM.out]; exact HB.out)).mono ?_
        rintro e w6 ⟨rfl, hw6⟩
        have hb6 : Below w5.heap.size w5 w6 := by obtain ⟨n6, rfl⟩ := hw6; exact below_drewN (Below.refl _ _) n6
        have hx6 := hx5.below hb6
        have hxs6 := hxs5.below hb6
        have hy6 := hy5.below hb6
        have hB6 := hB5.trans (hb6.mono hB5.size)
        clear hw6 hb6 hx5 hxs5 hy5 hB5 hS5
        have hr0 : 0 ≤ c2 % (xs.length : Int) := Int.emod_nonneg _ (by omega)
        have hr1 : c2 % (xs.length : Int) < xs.length := Int.emod_lt_of_pos _ (by omega)
        have hlp : (0 : Int) < xs.length := by omega
        have k2 := hx6.c2
        obtain ⟨vt, hrt, hvt⟩ := hxs6.upto Try.slice22 Try.size22 (c2 % (xs.length : Int)) hr0 (by omega)
        go_wp2_with fail
        refine (prefDec_is vt _ k _ hvt 0 0 2 (by rw [decA, if_pos ⟨by omega, by omega⟩, HM.out]; exact HC.out _ (by omega))).mono ?_
        clear hrt hvt
        rintro e w7 ⟨rfl, hw7⟩
        have hb7 : Below w6.heap.size w6 w7 := by obtain ⟨n7, rfl⟩ := hw7; exact below_drewN (Below.refl _ _) n7
        have hx7 := hx6.below hb7
        have hxs7 := hxs6.below hb7
        have hy7 := hy6.below hb7
        have hB7 := hB6.trans (hb7.mono hB6.size)
        clear hw7 hb7 hx6 hxs6 hy6 hB6 k2
        have kp := hx7.p
        go_wp2_with fail
        have HI := Lib.hid (fun hq : 0 ≤ q ∧ q ≤ 16777215 => encP_inj (m := m) (above := ab) (n := p) (n' := q) (by omega) HA.out p0 p1 hq.1 hq.2)
        refine (same_any _ y xs _ w7 hxs7 hy7).mono ?_
        rintro e w8 ⟨rfl, hw8⟩
        have hb8 : Below w7.heap.size w7 w8 := by obtain ⟨n8, rfl⟩ := hw8; exact below_drewN (Below.refl _ _) n8
        have hx8 := hx7.below hb8
        have hB8 := hB7.trans (hb8.mono hB7.size)
        have hz8 := hB8.size
        clear hw8 hb8 hx7 hxs7 hy7 hB7 kp
        by_cases hq : 0 ≤ q ∧ q ≤ 16777215
        · have hokq := (HO.out q).2 hq
          rw [encE_ok hokq, encR_ok hokq, HM.out]
          have hiff := HI.out hq
          rw [HX.out] at hiff
          obtain ⟨t, ht⟩ : ∃ t, decide (xs = encP m ab q) = t := ⟨_, rfl⟩
          have ht2 : (p == q) = t := by rw [← ht, Bool.eq_iff_iff, beq_iff_eq, decide_eq_true_iff]; exact hiff.symm
          rw [ht]
          have HT := Lib.hid ht2
          clear ht ht2 hiff hokq hq
          go_wp2_with fail
          refine (alive03 _).mono ?_
          rintro e w9 ⟨rfl, hb9⟩
          have kp := (hx8.below hb9).p
          have kq := (hx8.below hb9).q
          have hpq := HT.out
          go_wp2_with fail
          go_ret
          exact ⟨rfl, hB8.trans (hb9.mono hz8)⟩
        · rw [encE_no (fun h => hq ((HO.out q).1 h))]
          clear hq
          go_wp2_with fail
          refine (alive03 _).mono ?_
          rintro e w9 ⟨rfl, hb9⟩
          go_wp2_with fail
          go_ret
          exact ⟨rfl, hB8.trans (hb9.mono hz8)⟩
      · rw [encE_no (fun h => hp ((HO.out p).1 h))]
        have hp' : p < 0 ∨ 16777215 < p := by omega
        have HP := Lib.hid hp'
        clear hp hp'
        have hz := hB2.size
        by_cases hpn : 0 ≤ p
        · have hpm : decide (p ≤ 16777215) = false := decide_eq_false (by have := HP.out; omega)
          go_wp2_with fail
          refine (alive03 _).mono ?_
          rintro e w3 ⟨rfl, hb3⟩
          go_wp2_with fail
          go_ret
          exact ⟨rfl, hB2.trans (hb3.mono hz)⟩
        · go_wp2_with fail
          refine (alive03 _).mono ?_
          rintro e w3 ⟨rfl, hb3⟩
          go_wp2_with fail
          go_ret
          exact ⟨rfl, hB2.trans (hb3.mono hz)⟩

theorem back3_any (p q c0 c1 c2 : Int) (v : Value) (zs : List Int) (w : World) (hv : Sl .u8 w v zs)
    (h00 : 0 ≤ c0) (h01 : c0 ≤ 255) (h10 : 0 ≤ c1) (h11 : c1 ≤ 255) (h20 : 0 ≤ c2) (h21 : c2 ≤ 255) :
    Calls Try.prog 4 #[.agg #[.int .i64 p, .int .i64 q], .agg #[.int .u8 c0, .int .u8 c1, .int .u8 c2], v] w fun e w' => e = .returned (.bool true) ∧ Below w.heap.size w w' := by
  by_cases h : 300 < zs.length
  · exact back3_long p q c0 c1 c2 v zs w hv h
  · exact back3_short p q c0 c1 c2 v zs w hv (by omega) h00 h01 h10 h11 h20 h21

end Go.Proofs.Ythpnebejekibcaa
