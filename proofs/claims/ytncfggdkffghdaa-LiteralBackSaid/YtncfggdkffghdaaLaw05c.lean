
/-
  The statement LiteralBack: its walk.
-/
import Derived.Test.YtncfggdkffghdaaLaw05
namespace Go.Proofs.Ytncfggdkffghdaa
open Go.RowKit

/-- the three rows of bytes that the statement goes through -/
def three (zs : List Int) : Nat → List Int
  | 0 => lit false zs
  | 1 => lit true zs
  | _ => litS zs
theorem three_is (zs : List Int) (i : Nat) : ∃ sq, three zs i = lit sq zs := by
  match i with
  | 0 => exact ⟨_, rfl⟩
  | 1 => exact ⟨_, rfl⟩
  | i + 2 => exact litS_sq zs

theorem Try.sliceRows : Try.prog.underlying 33 = some (.slice (Try.prog.elem 33)) := by kernel_rfl
theorem Try.sizeRows (w : World) : (sizeOf (Try.prog.elem 33)).run Try.prog w = .ok 1 w := by kernel_rfl

set_option maxHeartbeats 2000000 in
set_option maxRecDepth 20000 in
theorem back5_any (s : ByteArray) (v : Value) (bs : List Int) (c : Int) (w : World) (hv : Sl .u8 w v bs) (hsm : s.size ≤ maxLen) (hc0 : 0 ≤ c) (hc1 : c ≤ 65535) :
    Calls Try.prog 4 #[.string s, v, .int .u16 c] w fun e w' => e = .returned (.bool true) ∧ Below w.heap.size w w' := by
  obtain ⟨a, cap, rfl, _⟩ := id hv
  have hmax := hv.len
  unfold maxLen at hmax hsm
  by_cases hs : 300 < s.size
  · go_enter Try.func4, Try.ntmps4
    go_wp2_with (go_at_call 5; refine (alive05 _).mono ?_; rintro e w' ⟨rfl, hb⟩)
    go_ret
    exact ⟨rfl, hb⟩
  by_cases h : 300 < bs.length
  · go_enter Try.func4, Try.ntmps4
    go_wp2_with (go_at_call 5; refine (alive05 _).mono ?_; rintro e w' ⟨rfl, hb⟩)
    go_ret
    exact ⟨rfl, hb⟩
  have HV := Lib.hid hv
  clear hv
  obtain ⟨zs, hzs⟩ : ∃ zs, nums s = zs := ⟨_, rfl⟩
  have HF := Lib.hid (show encL false s = (lit false zs, 0) by rw [encL, if_pos (by omega), hzs])
  have HT := Lib.hid (show encL true s = (lit true zs, 0) by rw [encL, if_pos (by omega), hzs])
  have hfz : Fit .u8 zs := hzs ▸ nums_fit s
  have hlz : zs.length = s.size := hzs ▸ nums_length s
  have HZS := Lib.hid hzs
  have hlF := lit_length false hfz (by omega)
  have hlT := lit_length true hfz (by omega)
  clear hzs
  go_enter Try.func4, Try.ntmps4
  go_wp2_with fail
  refine (litEnc_any false s _).mono ?_
  rintro e w1 ⟨x, rfl, hx, hb1⟩
  rw [HF.out] at hx ⊢
  have H1 := Lib.hid (And.intro hx (And.intro (HV.out.below hb1) hb1))
  obtain ⟨ax, cx, rfl, _⟩ := id hx
  clear hx hb1 HV
  go_wp2_with fail
  refine (litEnc_any true s _).mono ?_
  rintro e w2 ⟨y, rfl, hy, hb2⟩
  rw [HT.out] at hy ⊢
  have H2 := Lib.hid (And.intro hy (And.intro (H1.out.1.below hb2) (And.intro (H1.out.2.1.below hb2) (H1.out.2.2.trans (hb2.mono H1.out.2.2.size)))))
  obtain ⟨ay, cy, rfl, _⟩ := id hy
  clear hy hb2 H1
  go_wp2_with fail
  refine (short_any s _ (by omega)).mono ?_
  rintro e w3 ⟨u, rfl, hu, hb3⟩
  rw [HZS.out] at hu
  have H3 := Lib.hid (And.intro hu (And.intro (H2.out.1.below hb3) (And.intro (H2.out.2.1.below hb3) (And.intro (H2.out.2.2.1.below hb3) (H2.out.2.2.2.trans (hb3.mono H2.out.2.2.2.size))))))
  obtain ⟨au, cu, rfl, _⟩ := id hu
  clear hu hb3 H2
  have hSF := litS_le false zs
  have hST := litS_le true zs
  obtain ⟨NF, hNF⟩ : ∃ N, (lit false zs).length = N := ⟨_, rfl⟩
  obtain ⟨NT, hNT⟩ : ∃ N, (lit true zs).length = N := ⟨_, rfl⟩
  obtain ⟨NS, hNS⟩ : ∃ N, (litS zs).length = N := ⟨_, rfl⟩
  simp only [hNF, hNT, hNS] at H3 hSF hST hlF hlT ⊢
  have HNF := Lib.hid hNF
  have HNT := Lib.hid hNT
  have HNS := Lib.hid hNS
  clear hNF hNT hNS
  have dSF : decide ((NF : Int) < (NS : Int)) = false := decide_eq_false (by omega)
  have dST : decide ((NT : Int) < (NS : Int)) = false := decide_eq_false (by omega)
  go_wp2_with fail
  have eSF : decide (NF < NS) = false := decide_eq_false (by omega)
  have eST : decide (NT < NS) = false := decide_eq_false (by omega)
  simp only [eSF, eST, Bool.or_false]
  have hrow : Hid (∀ i, i < 3 → ∃ ar cr, (w3.alloc (.cells #[.slice ax NF cx, .slice ay NT cy, .slice au NS cu] 22)).cell? ⟨w3.heap.size, i, none⟩ = some (.slice ar (three zs i).length cr) ∧ Sl .u8 (w3.alloc (.cells #[.slice ax NF cx, .slice ay NT cy, .slice au NS cu] 22)) (.slice ar (three zs i).length cr) (three zs i)) := by
    intro i hi
    have hblk := heap_alloc_new w3 (.cells #[.slice ax NF cx, .slice ay NT cy, .slice au NS cu] 22)
    match i, hi with
    | 0, _ =>
      refine ⟨ax, cx, ?_⟩
      rw [show three zs 0 = lit false zs from rfl, HNF.out]
      exact ⟨blk_cell hblk rfl, H3.out.2.2.1.alloc _⟩
    | 1, _ =>
      refine ⟨ay, cy, ?_⟩
      rw [show three zs 1 = lit true zs from rfl, HNT.out]
      exact ⟨blk_cell hblk rfl, H3.out.2.1.alloc _⟩
    | 2, _ =>
      refine ⟨au, cu, ?_⟩
      rw [show three zs 2 = litS zs from rfl, HNS.out]
      exact ⟨blk_cell hblk rfl, H3.out.1.alloc _⟩
  have HV4 := Lib.hid (H3.out.2.2.2.1.alloc (.cells #[.slice ax NF cx, .slice ay NT cy, .slice au NS cu] 22))
  have HB4 := Lib.hid (H3.out.2.2.2.2.alloc H3.out.2.2.2.2.size (.cells #[.slice ax NF cx, .slice ay NT cy, .slice au NS cu] 22))
  have hg4 : w3.heap.size < (w3.alloc (.cells #[.slice ax NF cx, .slice ay NT cy, .slice au NS cu] 22)).heap.size := by simp
  obtain ⟨W4, hW4⟩ : ∃ W4, w3.alloc (.cells #[.slice ax NF cx, .slice ay NT cy, .slice au NS cu] 22) = W4 := ⟨_, rfl⟩
  rw [hW4] at hrow HV4 HB4 hg4 ⊢
  obtain ⟨g, hg⟩ : ∃ g, w3.heap.size = g := ⟨_, rfl⟩
  rw [hg] at hrow hg4 ⊢
  clear hW4 hg H3 HF HT HNF HNT HNS hlF hlT hSF hST dSF dST
  go_loopg [12] 3 (fun q s12 wr => ∃ i : Nat, Hid (i + q = 3) ∧ s12 = .int .i64 i ∧ Below W4.heap.size W4 wr)
  case atStart => exact ⟨0, rfl, rfl, Below.refl _ _⟩
  case round =>
    obtain ⟨i, HIQ, rfl, hB⟩ := hrel
    have HB := Lib.hid hB
    clear hB
    by_cases hi : i < 3
    · obtain ⟨ar, cr, hcr, hsr⟩ := hrow.out i hi
      obtain ⟨sq, hsq⟩ := three_is zs i
      obtain ⟨xs, hxs⟩ : ∃ xs, three zs i = xs := ⟨_, rfl⟩
      rw [hxs] at hcr hsr hsq
      have hlx := lit_length sq hfz (by omega)
      have hfx := lit_fit sq hfz (by omega)
      rw [← hsq] at hlx hfx
      have hX := HB.out.cell (p := ⟨g, i, none⟩) hg4
      have hix : ∀ (k : IntKind) (W : World), (Instr.indexAt 33 (.slice (some ⟨g, 0, none⟩) 3 3) (.int k i)).run Try.prog W = .ok (.pointer (some ⟨g, i, none⟩)) W := fun k W => by
        have := sl_index Try.sliceRows Try.sizeRows g 0 3 3 i hi k W
        rwa [Nat.zero_add] at this
      have hcell := hX.trans hcr
      have HSR := Lib.hid (hsr.below HB.out)
      have HVR := Lib.hid (HV4.out.below HB.out)
      have hD1 := decL_lit sq hfz (by omega) bs (most := s.size) (by omega)
      rw [← hsq] at hD1
      obtain ⟨N, hN⟩ : ∃ N, xs.length = N := ⟨_, rfl⟩
      rw [hN] at hcell HSR hlx hD1
      have HN := Lib.hid hN
      have HD1 := Lib.hid (show tupL (decL s.size (xs ++ bs)) = .tuple #[.string s, .int .i64 N, .int .i64 0] by rw [hD1, tupL, ← HZS.out, str_nums])
      have HSQ := Lib.hid hsq
      have hN0 : ((N : Int) == 0) = false := by simp; omega
      have d3 : decide ((i : Int) < 3) = true := decide_eq_true (by omega)
      clear hX hcr hsr hsq hxs hD1 hN
      have hwz : wr.heap.size < (wr.alloc (.cells #[] 5)).heap.size := by simp
      have hemp : (wr.alloc (.cells #[] 5)).ownsRow wr.heap.size 5 1 (.slice (some ⟨wr.heap.size, 0, none⟩) 0 0) 0 (([] : List Int).map (Value.int .u8)) := by
        have := World.ownsRow_made (base := wr.heap.size) (e := 5) (size := 1) wr #[] 0 (by simp) (by decide) rfl
        simpa using this
      go_wp2_with (first
        | (at_builtin; refine app_ints rfl (.tmp 83) (.tmp 84) 22 rfl wr.heap.size 5 .u8 1 Try.underlying22 Try.info5' _ 0 [] rfl hemp _ xs rfl (HSR.out.alloc _) (by rw [HN.out]; simp; omega) (by rw [HN.out]; simp [maxLen]; omega) (by simp) ?_; intro v5 w5 hO5 hb5 hg5; simp only [List.length_nil, Nat.zero_add, List.nil_append] at hO5; obtain ⟨a5, cp5, rfl, _⟩ := owned_shape hO5; have hz5 : wr.heap.size ≤ w5.heap.size := by (have := hb5.size; simp at this; omega))
        | (at_builtin; refine app_ints rfl (.tmp 85) (.tmp 86) 22 rfl wr.heap.size 5 .u8 1 Try.underlying22 Try.info5' _ _ xs rfl hO5 _ bs rfl (HVR.out.below (((Below.refl _ _).alloc (Nat.le_refl _) _).trans hb5)) (by rw [HN.out]; omega) (by rw [HN.out]; unfold maxLen; omega) hz5 ?_; intro v6 w6 hO6 hb6 hg6; obtain ⟨a6, cp6, rfl, _⟩ := owned_shape hO6))
      have hB6 : Below wr.heap.size wr w6 := (((Below.refl _ _).alloc (Nat.le_refl _) _).trans hb5).trans hb6
      have hA6 : Sl .u8 w6 (.slice a6 (xs.length + bs.length) cp6) (xs ++ bs) := Sl.of_own hO6 (hfx.append HVR.out.fit) (by rw [List.length_append, HN.out]; unfold maxLen; omega)
      have H6 := Lib.hid (And.intro hA6 (And.intro (HSR.out.below hB6) hB6))
      clear hB6 hA6 hO6 hb6 hg6 hO5 hb5 hg5 hz5 hemp hwz
      refine (litDec_any _ (xs ++ bs) s.size _ H6.out.1 (by rw [List.length_append, HN.out]; omega)).mono ?_
      rintro e w7 ⟨rfl, hb7⟩
      rw [HD1.out]
      have H7 := Lib.hid (And.intro (H6.out.2.1.below hb7) (H6.out.2.2.trans (hb7.mono H6.out.2.2.size)))
      clear hb7 H6
      have hr0 : 0 ≤ c % (N : Int) := Int.emod_nonneg _ (by omega)
      have hr1 : c % (N : Int) < N := Int.emod_lt_of_pos _ (by omega)
      obtain ⟨vt, hrt, hvt⟩ := H7.out.1.upto Try.slice22 Try.size22 (c % (N : Int)) hr0 (by rw [HN.out]; omega)
      have hcut : decL s.size (xs.take (c % (N : Int)).toNat) = ([], 0, 2) := by
        rw [HSQ.out]
        exact decL_cut sq hfz (by omega) (by rw [← HSQ.out, HN.out]; omega)
      have HVT := Lib.hid (And.intro hvt hcut)
      clear hvt hcut hr0 hr1
      go_wp2_with fail
      refine (litDec_any _ _ s.size _ HVT.out.1 (by rw [List.length_take, HN.out]; omega)).mono ?_
      rintro e w8 ⟨rfl, hb8⟩
      rw [HVT.out.2, tupL]
      have H8 := Lib.hid (And.intro (H7.out.1.below hb8) (H7.out.2.trans (hb8.mono H7.out.2.size)))
      clear hb8 H7 HVT hrt
      go_wp2_with fail
      refine (litDec_any _ xs (s.size - 1) _ H8.out.1 (by rw [HN.out]; omega)).mono ?_
      rintro e w9 ⟨rfl, hb9⟩
      have H9 := Lib.hid (H8.out.2.trans (hb9.mono H8.out.2.size))
      clear hb9 H8
      by_cases h0 : s.size = 0
      · have d0 : decide (0 < (s.size : Int)) = false := decide_eq_false (by omega)
        obtain ⟨t, p, e, hq⟩ : ∃ t p e, decL ((s.size : Int) - 1) xs = (t, p, e) := ⟨_, _, _, rfl⟩
        rw [hq, tupL]
        have HH := Lib.hid h0
        clear hq h0
        go_wp2_with fail
        all_goals first | (exfalso; have h9 := HH.out; omega) | skip
        go_roundg (3 - (i + 1))
        case measure => have := HIQ.out; omega
        case rel => exact ⟨i + 1, by show _ = _; omega, by go_num, HB.out.trans (H9.out.mono HB.out.size)⟩
      · have d0 : decide (0 < (s.size : Int)) = true := decide_eq_true (by omega)
        have hq : decL ((s.size : Int) - 1) xs = ([], 0, 4) := by
          rw [HSQ.out, ← hlz]
          exact decL_full sq hfz (by omega) (by omega)
        rw [hq, tupL]
        have HH := Lib.hid h0
        clear hq h0
        go_wp2_with fail
        all_goals first | (exfalso; have h9 := HH.out; omega) | skip
        go_roundg (3 - (i + 1))
        case measure => have := HIQ.out; omega
        case rel => exact ⟨i + 1, by show _ = _; omega, by go_num, HB.out.trans (H9.out.mono HB.out.size)⟩
    · have d3 : decide ((i : Int) < 3) = false := decide_eq_false (by omega)
      go_wp2_with fail
      refine (alive05 _).mono ?_
      rintro e w9 ⟨rfl, hb9⟩
      have H9 := Lib.hid (HB4.out.trans ((HB.out.mono HB4.out.size).trans (hb9.mono (Nat.le_trans HB4.out.size HB.out.size))))
      clear hb9
      go_wp2_with fail
      go_ret
      exact ⟨rfl, H9.out⟩
theorem back5_wf (s : ByteArray) (v : Value) (bs : List Int) (c : Int) (w : World) (hv : Sl .u8 w v bs) (hsm : s.size ≤ maxLen) (hc : (Lit.int .u16 c).wf = true) :
    Calls Try.prog 4 #[.string s, v, .int .u16 c] w fun e w' => e = .returned (.bool true) ∧ Below w.heap.size w w' := by
  have h := bounds_u16 hc
  exact back5_any s v bs c w hv hsm (by omega) (by omega)
end Go.Proofs.Ytncfggdkffghdaa
