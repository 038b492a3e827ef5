
/-
  The document's own answer for layer 5: the text that bytes begin with.
-/
import Derived.Test.YtimggejonppegaaDoorRef03
import Derived.Test.YtimggejonppegaaDoorRef04Dec
import Derived.Test.YtimggejonppegaaDoorLitDec
namespace Go.Proofs.YtimggejonppegaaDoor
open Go.RowKit

set_option maxHeartbeats 2000000 in
set_option maxRecDepth 20000 in
theorem refDec5_any (v : Value) (zs : List Int) (most : Int) (w : World) (hv : Sl .u8 w v zs) (hz : zs.length ≤ 1000000) :
    Calls Tryd.prog 26 #[v, .int .i64 most] w fun e w' => e = .returned (tupL (decL most zs)) ∧ Below w.heap.size w w' := by
  have hfit := hv.fit
  obtain ⟨a, cap, rfl, _⟩ := id hv
  have HV := Lib.hid hv
  clear hv
  obtain ⟨n, p, e, hd⟩ : ∃ n p e, decP (fullP 7) zs = (n, p, e) := ⟨_, _, _, rfl⟩
  by_cases h0 : e = 0
  · subst h0
    have hok := decP_ok hfit (by rw [hd])
    rw [hd] at hok
    simp only [] at hok
    obtain ⟨n0, n1, p1, p2⟩ := hok
    by_cases hm : zs.length - p < n
    · have HE := Lib.hid (decL_more (most := most) hd hm)
      have HD := Lib.hid hd
      have d1 : decide ((zs.length : Int) - p < n) = true := decide_eq_true hm
      clear hm hd
      go_enter Tryd.func26, Tryd.ntmps26
      go_wp2_with fail
      refine (refDec3_yes _ zs 7 _ HV.out (by decide)).mono ?_
      rintro e w' ⟨rfl, rfl⟩
      rw [HD.out, tup3]
      go_wp2_with fail
      go_ret3
      rw [HE.out]
      exact ⟨rfl, Below.refl _ _⟩
    · have hl := cutL_length hd n0 (by omega) (by omega)
      have HR := Lib.hid (decL_read (most := most) hd n0 (by omega) hm)
      have HC := Lib.hid (show cutL zs = (zs.take (p + n).toNat).drop p.toNat by rw [cutL, hd])
      have HD := Lib.hid hd
      have d1 : decide ((zs.length : Int) - p < n) = false := decide_eq_false hm
      clear hd
      obtain ⟨ov, hov, hos⟩ := Sl.range Tryd.slice22 Tryd.size22 HV.out p (p + n) (by omega) (by omega) (by omega)
      rw [← HC.out] at hos
      have HO := Lib.hid hos
      have hcl : (cutL zs).length ≤ 1000000 := by omega
      obtain ⟨b, off, rfl, hbs, hcx⟩ : ∃ b off, a = some ⟨b, off, none⟩ ∧ b < w.heap.size ∧ w.cell? ⟨b, off, none⟩ = some (.int .u8 (at0 zs 0)) := by
        rcases HV.out.parts with ⟨h0, _⟩ | ⟨hp, b, off, c2, he, _, _, h1, h2⟩
        · rw [h0] at p2; simp at p2; omega
        · simp only [Value.slice.injEq] at he
          exact ⟨b, off, he.1, h1, by simpa using h2 0 hp⟩
      have hix : ∀ (q : IntKind) (W : World), (Instr.indexAt 24 (.slice (some ⟨b, off, none⟩) zs.length cap) (.int q 0)).run Tryd.prog W = .ok (.pointer (some ⟨b, off, none⟩)) W := fun q W => sl_index Tryd.slice22 Tryd.size22 b off _ _ 0 (by omega) q W
      have hb0 := hfit.byte 0
      obtain ⟨z, hz0⟩ : ∃ z, at0 zs 0 = z := ⟨_, rfl⟩
      rw [hz0] at hcx hb0 HR
      clear hm
      by_cases hs : 128 ≤ z
      · rw [decide_eq_true hs] at HR
        have d2 : decide (128 ≤ z) = true := decide_eq_true hs
        have e2 : readL true most (cutL zs) = decB most (cutL zs) := rfl
        rw [e2] at HR
        clear e2
        obtain ⟨dt, de, hdd⟩ : ∃ dt de, decB most (cutL zs) = (dt, de) := ⟨_, _, rfl⟩
        rw [hdd] at HR
        have HDD := Lib.hid hdd
        clear hdd hos
        by_cases hde : de = 0
        · have HE : Hid (decL most zs = (dt, p + n, 0)) := by show _ = _; rw [HR.out, if_neg (by simp [hde])]
          subst hde
          go_enter Tryd.func26, Tryd.ntmps26
          go_wp2_with fail
          refine (refDec3_yes _ zs 7 _ HV.out (by decide)).mono ?_
          rintro e w' ⟨rfl, rfl⟩
          rw [HD.out, tup3]
          go_wp2_with fail
          refine (refDec_any ov (cutL zs) most _ HO.out hcl).mono ?_
          rintro e w1 ⟨x, rfl, hx, hb1⟩
          rw [HDD.out] at hx ⊢
          have hc1 := hx.run_str (P := Tryd.prog) 24 9 5 Tryd.underlying24 Tryd.underlying5 Tryd.underlying9
          have HB := Lib.hid hb1
          clear hx hb1
          go_wp2_with fail
          go_ret3
          rw [HE.out]
          exact ⟨rfl, HB.out⟩
        · have HE : Hid (decL most zs = ([], 0, de)) := by show _ = _; rw [HR.out, if_pos hde]
          have d3 : (de != 0) = true := by simp [hde]
          go_enter Tryd.func26, Tryd.ntmps26
          go_wp2_with fail
          refine (refDec3_yes _ zs 7 _ HV.out (by decide)).mono ?_
          rintro e w' ⟨rfl, rfl⟩
          rw [HD.out, tup3]
          go_wp2_with fail
          refine (refDec_any ov (cutL zs) most _ HO.out hcl).mono ?_
          rintro e w1 ⟨x, rfl, hx, hb1⟩
          rw [HDD.out]
          have HB := Lib.hid hb1
          clear hx hb1
          go_wp2_with fail
          go_ret3
          rw [HE.out]
          exact ⟨rfl, HB.out⟩
      · rw [decide_eq_false hs] at HR
        have d2 : decide (128 ≤ z) = false := decide_eq_false hs
        have e2 : readL false most (cutL zs) = if max most 0 < n then ([], 4) else (cutL zs, 0) := by simp only [readL, Bool.false_eq_true, if_false]; rw [hl]
        rw [e2] at HR
        clear e2
        have hc1 := hos.run_str (P := Tryd.prog) 24 9 5 Tryd.underlying24 Tryd.underlying5 Tryd.underlying9
        clear hos
        by_cases hf : max most 0 < n
        · have HE : Hid (decL most zs = ([], 0, 4)) := by show _ = _; rw [HR.out, if_pos hf]; rfl
          have HH := Lib.hid hf
          clear hf
          go_enter Tryd.func26, Tryd.ntmps26
          go_wp2_with fail
          refine (refDec3_yes _ zs 7 _ HV.out (by decide)).mono ?_
          rintro e w' ⟨rfl, rfl⟩
          rw [HD.out, tup3]
          go_wp2_with fail
          all_goals first
            | (exfalso; have h9 := HH.out; rename _ ≤ ite _ _ _ => h7; split at h7 <;> omega)
            | (go_ret3; rw [HE.out]; exact ⟨rfl, Below.refl _ _⟩)
        · have HE : Hid (decL most zs = (cutL zs, p + n, 0)) := by show _ = _; rw [HR.out, if_neg hf]; rfl
          have HH := Lib.hid hf
          clear hf
          go_enter Tryd.func26, Tryd.ntmps26
          go_wp2_with fail
          refine (refDec3_yes _ zs 7 _ HV.out (by decide)).mono ?_
          rintro e w' ⟨rfl, rfl⟩
          rw [HD.out, tup3]
          go_wp2_with fail
          all_goals first
            | (exfalso; have h9 := HH.out; rename ite _ _ _ < _ => h7; split at h7 <;> omega)
            | (go_ret3; rw [HE.out]; exact ⟨rfl, Below.refl _ _⟩)
  · have HE := Lib.hid (decL_err (most := most) hd h0)
    have HD := Lib.hid hd
    have d1 : decide (e = 0) = false := decide_eq_false h0
    clear hd
    go_enter Tryd.func26, Tryd.ntmps26
    go_wp2_with fail
    refine (refDec3_yes _ zs 7 _ HV.out (by decide)).mono ?_
    rintro e w' ⟨rfl, rfl⟩
    rw [HD.out, tup3]
    go_wp2_with fail
    go_ret3
    rw [HE.out]
    exact ⟨rfl, Below.refl _ _⟩
end Go.Proofs.YtimggejonppegaaDoor
