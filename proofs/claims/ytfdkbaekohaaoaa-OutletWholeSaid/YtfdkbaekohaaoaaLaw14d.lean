
/-
  Layer 14: the law OutletWhole.
-/
import Derived.Test.YtfdkbaekohaaoaaLaw14c
import Derived.Test.YtfdkbaekohaaoaaRef02All
import Derived.Test.YtfdkbaekohaaoaaRef02List
namespace Go.Proofs.Ytfdkbaekohaaoaa
set_option maxRecDepth 20000
open Go.RowKit

set_option maxHeartbeats 8000000 in
theorem whole14_any (v : Value) (ys : List A14) (w : World) (h : SlA14 w v ys) :
    Calls Try.prog 4 #[v] w fun e w' => e = .returned (.bool true) ∧ Below w.heap.size w w' := by
  obtain ⟨a, c, rfl, hc1, hc2⟩ := h.1.shape
  unfold maxLen at hc2
  obtain ⟨i0, hi, hz0, hz1, hz2⟩ := info_parts Try.infoF
  go_enter Try.func4, Try.ntmps4
  go_wp2_with fail
  refine (fits14_any _ ys _ h).mono ?_
  rintro e w1 ⟨rfl, rfl⟩
  cases hft : fits14 ys
  · go_wp2_with fail
    refine (alive14 _).mono ?_
    rintro e w2 ⟨rfl, hb2⟩
    have HB2 := Lib.hid hb2
    clear hb2
    go_wp2_with fail
    go_ret
    exact ⟨rfl, HB2.out⟩
  obtain ⟨hy30, hyx⟩ := fits14_yes hft
  have HFX := Lib.hid hyx
  obtain ⟨N, hN⟩ : ∃ N, ys.length = N := ⟨_, rfl⟩
  rw [hN] at h hc1 hy30 ⊢
  have HN := Lib.hid hN
  have HS := Lib.hid h
  clear hN h hft hyx
  go_wp2_with fail
  refine (pNew14 _).mono ?_
  rintro e w2 ⟨T, O, rfl, hT, hO, ha, hb2⟩
  have HP0 := Lib.hid (show WhW w1 w2 T O [] (.slice none 0 0) [] (.slice none 0 0) [] from WhW.new hT hO ha hb2)
  clear hT hO ha hb2
  go_wp2_with fail
  go_loopg [5, 6, 7] N (fun q s5 s6 s7 wr => ∃ k : Nat, k + q = N ∧ s7 = .int .i64 k ∧ ∃ wv ov ps xs out O, s5 = wv ∧ s6 = ov ∧ Hid (WhW w1 wr T O xs wv ps ov out ∧ Whole14 (ps.map (·.1)) xs out ∧ ps.length ≤ k * 30))
  case atStart => exact ⟨0, by omega, rfl, _, _, [], [], [], O, rfl, rfl, Lib.hid ⟨HP0.out, Whole14.new, by simp⟩⟩
  case round =>
    obtain ⟨k, hkq, rfl, wv, ov, ps, xs, out, O, rfl, rfl, HP⟩ := hrel
    have HKQ := Lib.hid hkq
    have hk : k ≤ N := by omega
    clear hkq HP0
    obtain ⟨aw, cw, rfl, _⟩ := owned_shape HP.out.1.want
    obtain ⟨ao, co, rfl, _⟩ := owned_shape HP.out.1.out_
    by_cases hlt : k < N
    · obtain ⟨x, hx⟩ : ∃ x, ys[k]? = some x := ⟨ys[k]'(by rw [HN.out]; exact hlt), List.getElem?_eq_getElem (by rw [HN.out]; exact hlt)⟩
      have hmem := List.mem_of_getElem? hx
      obtain ⟨hsf, hk0, hk1⟩ := HS.out.2 x hmem
      obtain ⟨hl30, hpl⟩ := HFX.out x hmem
      obtain ⟨b, off, rfl, hbl, hcell⟩ := HS.out.1.at_ (i := k) (by rw [HN.out]; exact hlt)
      have c1 := hcell x hx 1 (by omega)
      have c2 := hcell x hx 2 (by omega)
      simp only [a14C, List.getElem?_cons_succ, List.getElem?_cons_zero] at c1 c2
      obtain ⟨hfp, al, cl, hlv, hl1, hl2, hl3⟩ := id hsf
      rw [hlv] at c2
      obtain ⟨M, hM⟩ : ∃ M, x.l.length = M := ⟨_, rfl⟩
      rw [hM] at c2 hl1 hl30 hl3
      have HM := Lib.hid hM
      have HF := Lib.hid (And.intro hfp (And.intro hl3 hpl))
      have HCB := Lib.hid (fun (W' : World) (hB : Below w1.heap.size w1 W') => (show W'.cell? ⟨b, off + k * 3 + 1, none⟩ = some (.int .i64 x.n) ∧ W'.cell? ⟨b, off + k * 3 + 2, none⟩ = some (.slice al M cl) ∧ b < W'.heap.size from ⟨(hB.cell (p := ⟨b, off + k * 3 + 1, none⟩) hbl).trans c1, (hB.cell (p := ⟨b, off + k * 3 + 2, none⟩) hbl).trans c2, Nat.lt_of_lt_of_le hbl hB.size⟩))
      unfold maxLen at hl2
      clear hcell hmem hx hsf hfp hlv hl3 hM hpl c1 c2 hbl
      go_wp2_with fail
      go_loopg [5, 8] M (fun q s5 s8 wx => ∃ j : Nat, j + q = M ∧ s8 = .int .i64 j ∧ ∃ wv ps xs O, s5 = wv ∧ Hid (WhW w1 wx T O xs wv ps (.slice ao out.length co) out ∧ Whole14 (ps.map (·.1)) xs out ∧ ps.length ≤ k * 30 + j))
      case atStart => exact ⟨0, by omega, rfl, _, ps, xs, O, rfl, Lib.hid ⟨HP.out.1, HP.out.2.1, by have := HP.out.2.2; omega⟩⟩
      case round =>
        obtain ⟨j, hjq, rfl, wv, ps, xs, O, rfl, HQ⟩ := hrel
        have HJQ := Lib.hid hjq
        have hj : j ≤ M := by omega
        clear hjq
        obtain ⟨aw, cw, rfl, _⟩ := owned_shape HQ.out.1.want
        obtain ⟨c1, c2, cz⟩ := HCB.out wr HQ.out.1.bel
        by_cases hjt : j < M
        · obtain ⟨⟨F, pv⟩, hp⟩ : ∃ p, x.l[j]? = some p := ⟨x.l[j]'(by rw [HM.out]; exact hjt), List.getElem?_eq_getElem (by rw [HM.out]; exact hjt)⟩
          have hpm := List.mem_of_getElem? hp
          have hpa := HF.out.1 _ hpm
          have hp5 := HF.out.2.2 _ hpm
          obtain ⟨ap, cp, hpv, _⟩ := id hpa
          simp only at hpv hpa hp5
          subst hpv
          rcases HF.out.2.1 with ⟨h3, _⟩ | ⟨lb, lo, rfl, hlb, hlc⟩
          · exfalso; omega
          have HFr := Lib.hid (And.intro (hlc j _ hp) hlb)
          have HPa := Lib.hid (And.intro hpa hp5)
          have hxl : xs.length ≤ 458100 ∧ ps.length ≤ 900 := by
            have h1 := HQ.out.2.1.le
            have h2 := HQ.out.2.2
            rw [List.length_map] at h1
            have h3 : ps.length ≤ 900 := by omega
            omega
          have HXL := Lib.hid hxl
          obtain ⟨x0, x1, x2, x3⟩ := HFr.out.1.below HQ.out.1.bel HFr.out.2
          have x4 := Nat.lt_of_lt_of_le HFr.out.2 HQ.out.1.bel.size
          dsimp only at x0 x1 x2 x3
          clear hp hpm hpa hp5 hlb hlc hxl
          go_wp2_with fail
          refine (pPush14_any T O xs _ F wr HQ.out.1.a ⟨_, rfl, HPa.out.1.below HQ.out.1.bel⟩ (by have := HXL.out; omega) (by have := HPa.out.2; omega)).mono ?_
          rintro e w3 ⟨O3, rfl, ha3, ht3, ho3⟩
          have HW3 := Lib.hid (HQ.out.1.stepQ ht3 ha3 ho3)
          clear ha3 ht3 ho3 x0 x1 x2 x3 x4 c1 c2 cz
          obtain ⟨c1, c2, cz⟩ := HCB.out w3 HW3.out.bel
          obtain ⟨x0, x1, x2, x3⟩ := HFr.out.1.below HW3.out.bel HFr.out.2
          have x4 := Nat.lt_of_lt_of_le HFr.out.2 HW3.out.bel.size
          by_cases hr : F.right
          · rw [show pushE F = 0 from by unfold pushE; rw [if_pos hr]]
            have HWh := Lib.hid (HQ.out.2.1.push F HPa.out.1.fit HPa.out.2 hr)
            have hown := HW3.out.want
            have hsz3 := HW3.out.bel.size
            have hpl := HXL.out.2
            have HN' := Lib.hid HQ.out.2.2
            clear hr
            go_wp2_with (at_builtin; refine app_row_at rfl (.tmp 50) (.tmp 59) 28 rfl w1.heap.size 40 i0 _ 4 48 Try.underlying28 hi hz0 hz1 hz2 rfl (by decide) _ ps.length (flat ps) rfl (hown.alloc _) _ 1 1 (frCells F (.slice ap F.pay.length cp)) rfl (fun h => by cases h) (by simp [frCells]) (fun ad h => by cases h; exact frCells_laid _ F _ _ _ rfl) (frCells_one F) (by unfold maxLen; omega) (by omega) (by simp; omega) ?_; intro v4 w4 own4 _ hg4 hat4)
            have HW4 := Lib.hid ((HW3.out.grown ((Below.refl w3.heap.size w3).alloc (Nat.le_refl _) (.cells #[.int .i64 F.kind, .int .i64 F.flags, .int .i64 F.stream, .slice ap F.pay.length cp] 40))).stepWant (qs := ps ++ [(F, .slice ap F.pay.length cp)]) hg4 (by rw [List.length_append, flat_append, flat_one]; exact own4) (fun p hp => by
              rcases List.mem_append.1 hp with hp | hp
              · exact HW3.out.pay p hp
              · rw [List.mem_singleton.1 hp]; exact HPa.out.1) hat4)
            go_roundg (M - (j + 1))
            case measure => have := HJQ.out; omega
            case rel => exact ⟨j + 1, by omega, by go_num, _, ps ++ [(F, .slice ap F.pay.length cp)], _, _, rfl, Lib.hid ⟨HW4.out, by rw [List.map_append]; exact HWh.out, by have := HN'.out; rw [List.length_append, List.length_singleton]; omega⟩⟩
          · rw [show pushE F = 1 from by unfold pushE; rw [if_neg hr]]
            have HWh := Lib.hid (show Whole14 (ps.map (·.1)) (pushL xs F) out from by unfold pushL; rw [if_neg hr]; exact HQ.out.2.1)
            have HN' := Lib.hid HQ.out.2.2
            clear hr
            go_wp2_with fail
            go_roundg (M - (j + 1))
            case measure => have := HJQ.out; omega
            case rel => exact ⟨j + 1, by omega, by go_num, _, ps, _, _, rfl, Lib.hid ⟨HW3.out, HWh.out, by have := HN'.out; omega⟩⟩
        · obtain rfl : j = M := by omega
          have hxl : xs.length + out.length ≤ 458100 ∧ ps.length ≤ (k + 1) * 30 := by
            have h1 := HQ.out.2.1.le
            have h2 := HQ.out.2.2
            rw [List.length_map] at h1
            have h3 : ps.length ≤ 900 := by omega
            omega
          have HXL := Lib.hid hxl
          clear hjt hj hxl
          go_wp2_with fail
          refine (pLen14_any T O xs wr HQ.out.1.a (by have := HXL.out; omega)).mono ?_
          rintro e w3 ⟨rfl, hb3⟩
          have HW3 := Lib.hid (HQ.out.1.grown hb3)
          clear hb3 c1 c2 cz
          obtain ⟨c1, c2, cz⟩ := HCB.out w3 HW3.out.bel
          go_wp2_with fail
          refine (pDrain14_any T O xs x.n w3 HW3.out.a (by have := HXL.out; omega)).mono ?_
          rintro e w4 ⟨v4, O4, rfl, hv4, ha4, ht4, ho4, _⟩
          obtain ⟨d, hd⟩ : ∃ d, drainN x.n xs.length = d := ⟨_, rfl⟩
          have HD := Lib.hid (show d ≤ xs.length ∧ (0 < d → (d : Int) ≤ x.n) from by rw [← hd]; exact ⟨drainN_le _ _, drainN_le'⟩)
          rw [hd] at hv4 ha4
          have HW4 := Lib.hid (HW3.out.stepQ ht4 ha4 ho4)
          have HWh := Lib.hid (HQ.out.2.1.drain d)
          obtain ⟨tk, htk⟩ : ∃ tk, xs.take d = tk := ⟨_, rfl⟩
          have HTK := Lib.hid (show tk.length = d from by rw [← htk, List.length_take]; have := HD.out.1; omega)
          rw [htk] at hv4 HWh
          have HV4 := Lib.hid hv4
          obtain ⟨a4, k4, rfl, _⟩ := id hv4
          have hown := HW4.out.out_
          have hol : out.length ≤ 458100 ∧ d ≤ 458100 := by have := HXL.out; have := HD.out.1; omega
          have HOl := Lib.hid hol
          clear hv4 ha4 ht4 ho4 hd htk c1 c2 cz hol
          rw [HTK.out] at HV4 ⊢
          go_wp2_with (at_builtin; refine app_ints_at rfl (.tmp 70) (.tmp 71) 27 rfl w1.heap.size 5 .u8 1 Try.underlying27 Try.info5' _ _ out rfl hown _ tk rfl HV4.out (by have := HOl.out; rw [HTK.out]; omega) (by have := HOl.out; unfold maxLen; rw [HTK.out]; omega) HW4.out.bel.size ?_; intro v5 w5 own5 _ hg5 hat5; rw [HTK.out] at own5; have HW5 := Lib.hid (HW4.out.stepOut (out' := out ++ tk) hg5 (by rw [List.length_append, HTK.out]; exact own5) hat5); obtain ⟨a5, k5, rfl, _⟩ := owned_shape own5; clear own5 hg5 hat5)
          refine (pLen14_any T O4 (xs.drop d) w5 HW5.out.a (by rw [List.length_drop]; have := HXL.out; omega)).mono ?_
          rintro e w6 ⟨rfl, hb6⟩
          obtain ⟨L5, hL5⟩ : ∃ L5, (xs.drop d).length = L5 := ⟨_, rfl⟩
          have HL5 := Lib.hid hL5
          have hxs : xs.length ≤ 458100 := by have := HXL.out; omega
          have hld : L5 + d = xs.length := by rw [← hL5, List.length_drop]; have := HD.out.1; omega
          rw [hL5]
          have HW6 := Lib.hid (HW5.out.grown hb6)
          clear hb6 hL5
          obtain ⟨c1, c2, cz⟩ := HCB.out w6 HW6.out.bel
          obtain ⟨lx, hlx⟩ : ∃ lx, xs.length = lx := ⟨_, rfl⟩
          rw [hlx] at hld hxs ⊢
          have t1 : (((L5 : Int) + (d : Int)) != (lx : Int)) = false := by rw [bne_eq_false_iff_eq]; omega
          have hd' : d ≤ 458100 := by omega
          have hL5b : L5 ≤ 458100 := by omega
          clear hlx
          by_cases hd0 : 0 < d
          · have t2 : decide (0 < d) = true := decide_eq_true hd0
            have t3 : decide (x.n < (d : Int)) = false := decide_eq_false (by have := HD.out.2 hd0; omega)
            have t4 : (0 : Int) < (d : Int) := by omega
            have t5 : ¬ (x.n < (d : Int)) := by have := HD.out.2 hd0; omega
            clear hld
            go_wp2_with fail
            go_roundg (N - (k + 1))
            case measure => have := HKQ.out; omega
            case rel => exact ⟨k + 1, by omega, by go_num, _, _, ps, xs.drop d, out ++ tk, O4, rfl, rfl, Lib.hid ⟨HW6.out, HWh.out, HXL.out.2⟩⟩
          · have t2 : decide (0 < d) = false := decide_eq_false hd0
            have t4 : ¬ (0 : Int) < (d : Int) := by omega
            clear hld
            go_wp2_with fail
            go_roundg (N - (k + 1))
            case measure => have := HKQ.out; omega
            case rel => exact ⟨k + 1, by omega, by go_num, _, _, ps, xs.drop d, out ++ tk, O4, rfl, rfl, Lib.hid ⟨HW6.out, HWh.out, HXL.out.2⟩⟩
    · obtain rfl : k = N := by omega
      have hxl : xs.length + out.length ≤ 458100 ∧ ps.length ≤ 900 := by
        have h1 := HP.out.2.1.le
        have h2 := HP.out.2.2
        rw [List.length_map] at h1
        have h3 : ps.length ≤ 900 := by omega
        omega
      have HXL := Lib.hid hxl
      clear hlt hk hxl
      go_wp2_with fail
      refine (pLen14_any T O xs wr HP.out.1.a (by have := HXL.out; omega)).mono ?_
      rintro e w3 ⟨rfl, hb3⟩
      have HW3 := Lib.hid (HP.out.1.grown hb3)
      clear hb3
      go_wp2_with fail
      refine (pDrain14_any T O xs (xs.length : Nat) w3 HW3.out.a (by have := HXL.out; omega)).mono ?_
      rintro e w4 ⟨v4, O4, rfl, hv4, ha4, ht4, ho4, _⟩
      have hdn : drainN (xs.length : Nat) xs.length = xs.length := by unfold drainN; rw [if_neg (by omega), if_neg (by omega)]; simp
      rw [hdn, List.take_length] at hv4
      rw [hdn, List.drop_length] at ha4
      have HW4 := Lib.hid (HW3.out.stepQ ht4 ha4 ho4)
      have HWh := Lib.hid (show Whole14 (ps.map (·.1)) [] (out ++ xs) from by have := HP.out.2.1.drain xs.length; rwa [List.take_length, List.drop_length] at this)
      have HV4 := Lib.hid hv4
      obtain ⟨a4, k4, rfl, _⟩ := id hv4
      have hown := HW4.out.out_
      clear hv4 ha4 ht4 ho4 hdn
      go_wp2_with (at_builtin; refine app_ints_at rfl (.tmp 95) (.tmp 99) 27 rfl w1.heap.size 5 .u8 1 Try.underlying27 Try.info5' _ _ out rfl hown _ xs rfl HV4.out (by have := HXL.out; omega) (by have := HXL.out; unfold maxLen; omega) HW4.out.bel.size ?_; intro v5 w5 own5 _ hg5 hat5; have HW5 := Lib.hid (HW4.out.stepOut (out' := out ++ xs) hg5 (by rw [List.length_append]; exact own5) hat5); obtain ⟨a5, k5, rfl, _⟩ := owned_shape own5; clear own5 hg5 hat5)
      obtain ⟨all, hall⟩ : ∃ all, out ++ xs = all := ⟨_, rfl⟩
      have HAl := Lib.hid (show all.length = out.length + xs.length from by rw [← hall, List.length_append])
      rw [hall] at HWh HW5
      rw [← HAl.out] at HW5 ⊢
      clear hall hown
      have HS5 := Lib.hid (Sl.of_own HW5.out.out_ HWh.out.fit (by have := HXL.out; have := HAl.out; unfold maxLen; omega))
      refine (refAll_any _ all 500 w5 HS5.out (by have := HXL.out; have := HAl.out; omega)).mono ?_
      rintro e w6 ⟨v6, pw, rfl, hm6, hs6, hb6⟩
      rw [HWh.out.all] at hm6 ⊢
      dsimp only at hm6 ⊢
      have HW6 := Lib.hid (HW5.out.grown hb6)
      have HS6 := Lib.hid (And.intro hm6 hs6)
      obtain ⟨hq6, a6, k6, rfl, _⟩ := id hs6
      clear hm6 hs6 hb6 hq6
      have hal : all.length ≤ 458100 := by have := HXL.out; have := HAl.out; omega
      go_wp2_with fail
      refine (refList_any _ _ pw ps w6 HS6.out.2 (SlF.of_own HW6.out.want (fun p hp => (HW6.out.pay p hp).below HW6.out.bel))).mono ?_
      rintro e w7 ⟨rfl, hb7⟩
      rw [decide_eq_true HS6.out.1]
      have HW7 := Lib.hid (HW6.out.grown hb7)
      clear hb7
      go_wp2_with fail
      refine (alive14 _).mono ?_
      rintro e w8 ⟨rfl, hb8⟩
      have HW8 := Lib.hid (HW7.out.grown hb8)
      clear hb8
      go_wp2_with fail
      refine (pLen14_any T O4 [] w8 HW8.out.a (by simp)).mono ?_
      rintro e w9 ⟨rfl, hb9⟩
      have HW9 := Lib.hid (HW8.out.grown hb9)
      clear hb9
      go_wp2_with fail
      go_ret
      exact ⟨rfl, HW9.out.bel⟩
end Go.Proofs.Ytfdkbaekohaaoaa
