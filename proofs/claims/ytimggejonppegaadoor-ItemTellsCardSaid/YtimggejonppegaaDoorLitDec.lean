
/-
  Package literal: the text that bytes begin with.
-/
import Derived.Test.YtimggejonppegaaDoorPrefDec
import Derived.Test.YtimggejonppegaaDoorHuffDec
import Derived.Test.YtimggejonppegaaDoorRef04Enc
import Derived.Test.YtimggejonppegaaDoorStr
import Derived.Test.YtimggejonppegaaDoorLitMath
namespace Go.Proofs.YtimggejonppegaaDoor
open Go.RowKit

/-- the text of what stands behind a count -/
def readL (sq : Bool) (most : Int) (own : List Int) : List Int × Int := if sq then decB most own else if max most 0 < own.length then ([], 4) else (own, 0)
def readV (d : List Int × Int) : Value := .tuple #[.string (strOfNums d.1), .int .i64 d.2]
def tupL (d : List Int × Int × Int) : Value := .tuple #[.string (strOfNums d.1), .int .i64 d.2.1, .int .i64 d.2.2]
def cutL (zs : List Int) : List Int := (zs.take ((decP (fullP 7) zs).2.1 + (decP (fullP 7) zs).1).toNat).drop (decP (fullP 7) zs).2.1.toNat
theorem cutL_length {zs : List Int} {n p : Int} (hd : decP (fullP 7) zs = (n, p, 0)) (h0 : 0 ≤ n) (h1 : 0 ≤ p) (h : p + n ≤ zs.length) : ((cutL zs).length : Int) = n := by
  rw [cutL, hd]
  simp; omega
theorem decL_err {most : Int} {zs : List Int} {n p e : Int} (hd : decP (fullP 7) zs = (n, p, e)) (h : e ≠ 0) : decL most zs = ([], 0, e) := by
  rw [decL, hd, if_pos h]
theorem decL_more {most : Int} {zs : List Int} {n p : Int} (hd : decP (fullP 7) zs = (n, p, 0)) (h : zs.length - p < n) : decL most zs = ([], 0, 2) := by
  rw [decL, hd, if_neg (by simp), if_pos h]
theorem decL_read {most : Int} {zs : List Int} {n p : Int} (hd : decP (fullP 7) zs = (n, p, 0)) (h0 : 0 ≤ n) (h1 : 0 ≤ p) (h : ¬ zs.length - p < n) :
    decL most zs = if (readL (decide (128 ≤ at0 zs 0)) most (cutL zs)).2 ≠ 0 then ([], 0, (readL (decide (128 ≤ at0 zs 0)) most (cutL zs)).2) else ((readL (decide (128 ≤ at0 zs 0)) most (cutL zs)).1, p + n, 0) := by
  have hl := cutL_length hd h0 h1 (by omega)
  have hc : cutL zs = (zs.take (p + n).toNat).drop p.toNat := by rw [cutL, hd]
  rw [decL, hd, if_neg (by simp), if_neg h]
  simp only []
  rw [← hc]
  by_cases hm : 128 ≤ at0 zs 0
  · rw [if_pos hm, decide_eq_true hm]
    simp only [readL, if_true]
  · rw [if_neg hm, decide_eq_false hm]
    simp only [readL, Bool.false_eq_true, if_false]
    rw [hl]
    split <;> simp

theorem read1_any (most : Int) (p : Nat) (v : Value) (own : List Int) (w : World) (hv : Sl .u8 w v own) (hz : own.length ≤ 1000000) (hc : w.cell? ⟨p, 0, none⟩ = some (.int .i64 most)) :
    Calls Tryd.prog 54 #[v, .pointer (some ⟨p, 0, none⟩)] w fun e w' => e = .returned (readV (readL true most own)) ∧ Below w.heap.size w w' := by
  have HE : Hid (readL true most own = decB most own) := rfl
  go_enter Tryd.func54, Tryd.ntmps54
  go_wp2_with fail
  refine (dec_any v own most _ hv hz).mono ?_
  rintro e w1 ⟨x, rfl, hx, hb⟩
  have hc1 := hx.run_str (P := Tryd.prog) 24 9 5 Tryd.underlying24 Tryd.underlying5 Tryd.underlying9
  have HB := Lib.hid hb
  clear hx hb
  go_wp2_with fail
  go_ret2
  rw [HE.out]
  exact ⟨rfl, HB.out⟩
theorem read2_any (most : Int) (p : Nat) (v : Value) (own : List Int) (w : World) (hv : Sl .u8 w v own) (hc : w.cell? ⟨p, 0, none⟩ = some (.int .i64 most)) :
    Calls Tryd.prog 56 #[v, .pointer (some ⟨p, 0, none⟩)] w fun e w' => e = .returned (readV (readL false most own)) ∧ Below w.heap.size w w' := by
  have hc1 := hv.run_str (P := Tryd.prog) 24 9 5 Tryd.underlying24 Tryd.underlying5 Tryd.underlying9
  obtain ⟨a, cap, rfl, _⟩ := id hv
  obtain ⟨N, hN⟩ : ∃ N, own.length = N := ⟨_, rfl⟩
  have HN := Lib.hid hN
  rw [hN] at hc1 ⊢
  clear hN hv
  by_cases h : max most 0 < (N : Int)
  · have HE := Lib.hid (show readL false most own = ([], 4) by simp only [readL, Bool.false_eq_true, if_false]; rw [HN.out, if_pos h])
    have HH := Lib.hid h
    clear h
    go_enter Tryd.func56, Tryd.ntmps56
    go_wp2_with fail
    all_goals first
      | (exfalso; have h9 := HH.out; rename _ ≤ ite _ _ _ => h7; split at h7 <;> omega)
      | (go_ret2; rw [HE.out]; exact ⟨rfl, Below.refl _ _⟩)
  · have HE := Lib.hid (show readL false most own = (own, 0) by simp only [readL, Bool.false_eq_true, if_false]; rw [HN.out, if_neg h])
    have HH := Lib.hid h
    clear h
    go_enter Tryd.func56, Tryd.ntmps56
    go_wp2_with fail
    all_goals first
      | (exfalso; have h9 := HH.out; rename ite _ _ _ < _ => h7; split at h7 <;> omega)
      | (go_ret2; rw [HE.out]; exact ⟨rfl, Below.refl _ _⟩)

/-- what reads a text back, as a value -/
def readFn (sq : Bool) : Nat := if sq then 54 else 56
def Read (sq : Bool) (most : Int) (w : World) (v : Value) : Prop := ∃ p, v = .func (.func (readFn sq)) #[] #[.pointer (some ⟨p, 0, none⟩)] ∧ p < w.heap.size ∧ w.cell? ⟨p, 0, none⟩ = some (.int .i64 most)
theorem Read.below {sq : Bool} {most : Int} {w w' : World} {v : Value} (h : Read sq most w v) (hb : Below w.heap.size w w') : Read sq most w' v := by
  obtain ⟨p, h1, h2, h3⟩ := h
  exact ⟨p, h1, Nat.lt_of_lt_of_le h2 hb.size, (hb.cell (p := ⟨p, 0, none⟩) h2).trans h3⟩
theorem readBack_any (sq : Bool) (most : Int) (w : World) :
    Calls Tryd.prog 47 #[.bool sq, .int .i64 most] w fun e w' => ∃ v, e = .returned v ∧ Read sq most w' v ∧ Below w.heap.size w w' := by
  have hmf : ∀ (fn : Fn) (first cap : Array Value) (w : World), (Instr.makeFunc fn first cap).run Tryd.prog w = .ok (.func fn first cap) w := fun _ _ _ _ => rfl
  cases sq
  all_goals
    go_enter Tryd.func47, Tryd.ntmps47
    go_wp2_with fail
    go_ret
    refine ⟨_, rfl, ⟨w.heap.size, rfl, by simp, ?_⟩, (Below.refl _ _).alloc (Nat.le_refl _) _⟩
    rw [World.cell?_alloc_at _ _ _ _ rfl]; rfl
/-- the call of what reads a text back -/
theorem read_gives (sq : Bool) (most : Int) (f v : Value) (own : List Int) (w : World) (hf : Read sq most w f) (hv : Sl .u8 w v own) (hz : own.length ≤ 1000000) :
    ∃ p, f = .func (.func (readFn sq)) #[] #[.pointer (some ⟨p, 0, none⟩)] ∧ Calls Tryd.prog (readFn sq) #[v, .pointer (some ⟨p, 0, none⟩)] w fun e w' => e = .returned (readV (readL sq most own)) ∧ Below w.heap.size w w' := by
  obtain ⟨p, h1, _, h3⟩ := hf
  refine ⟨p, h1, ?_⟩
  cases sq
  · exact read2_any most p v own w hv h3
  · exact read1_any most p v own w hv hz h3

set_option maxHeartbeats 2000000 in
set_option maxRecDepth 20000 in
theorem litDec_any (v : Value) (zs : List Int) (most : Int) (w : World) (hv : Sl .u8 w v zs) (hz : zs.length ≤ 1000000) :
    Calls Tryd.prog 39 #[v, .int .i64 most] w fun e w' => e = .returned (tupL (decL most zs)) ∧ Below w.heap.size w w' := by
  have hfit := hv.fit
  obtain ⟨a, cap, rfl, _⟩ := id hv
  have HV := Lib.hid hv
  clear hv
  obtain ⟨n, p, e, hd⟩ : ∃ n p e, decP (fullP 7) zs = (n, p, e) := ⟨_, _, _, rfl⟩
  by_cases h0 : e = 0
  · subst h0
    have hok := decP_ok hfit (by rw [hd])
    rw [hd] at hok
    simp only [] at hok
    obtain ⟨n0, n1, p1, p2⟩ := hok
    by_cases hm : zs.length - p < n
    · have HE := Lib.hid (decL_more (most := most) hd hm)
      have HD := Lib.hid hd
      have d1 : decide ((zs.length : Int) - p < n) = true := decide_eq_true hm
      clear hm hd
      go_enter Tryd.func39, Tryd.ntmps39
      go_wp2_with fail
      refine (prefDec_yes _ zs 7 _ HV.out (by decide)).mono ?_
      rintro e w' ⟨rfl, k, rfl⟩
      rw [HD.out, tup3]
      go_wp2_with fail
      go_ret3
      rw [HE.out]
      exact ⟨rfl, below_drewN (Below.refl _ _) k⟩
    · have hl := cutL_length hd n0 (by omega) (by omega)
      have HR := Lib.hid (decL_read (most := most) hd n0 (by omega) hm)
      have HC := Lib.hid (show cutL zs = (zs.take (p + n).toNat).drop p.toNat by rw [cutL, hd])
      have HD := Lib.hid hd
      have d1 : decide ((zs.length : Int) - p < n) = false := decide_eq_false hm
      clear hd
      obtain ⟨ov, hov, hos⟩ := Sl.range Tryd.slice22 Tryd.size22 HV.out p (p + n) (by omega) (by omega) (by omega)
      rw [← HC.out] at hos
      have HO := Lib.hid hos
      have hcl : (cutL zs).length ≤ 1000000 := by omega
      obtain ⟨b, off, rfl, hbs, hcx⟩ : ∃ b off, a = some ⟨b, off, none⟩ ∧ b < w.heap.size ∧ w.cell? ⟨b, off, none⟩ = some (.int .u8 (at0 zs 0)) := by
        rcases HV.out.parts with ⟨h0, _⟩ | ⟨hp, b, off, c2, he, _, _, h1, h2⟩
        · rw [h0] at p2; simp at p2; omega
        · simp only [Value.slice.injEq] at he
          exact ⟨b, off, he.1, h1, by simpa using h2 0 hp⟩
      have hb0 := hfit.byte 0
      obtain ⟨z, hz0⟩ : ∃ z, at0 zs 0 = z := ⟨_, rfl⟩
      rw [hz0] at hcx hb0 HR
      obtain ⟨sq, hsq⟩ : ∃ sq, decide (128 ≤ z) = sq := ⟨_, rfl⟩
      rw [hsq] at HR
      have HSQ := Lib.hid hsq
      obtain ⟨d, hdd⟩ : ∃ d, readL sq most (cutL zs) = d := ⟨_, rfl⟩
      rw [hdd] at HR
      have HDD := Lib.hid hdd
      have HCX := Lib.hid hcx
      clear hsq hdd hos hcx hm
      go_enter Tryd.func39, Tryd.ntmps39
      go_wp2_with fail
      refine (prefDec_yes _ zs 7 _ HV.out (by decide)).mono ?_
      rintro e w' ⟨rfl, k, rfl⟩
      rw [HD.out, tup3]
      go_wp2_with fail
      have HB0 := Lib.hid (below_drewN (Below.refl w.heap.size w) k)
      have HV1 := Lib.hid (HO.out.drewN k)
      have HC1 : Hid ((w.drewN k).cell? ⟨b, off, none⟩ = some (.int .u8 z)) := HCX.out
      have hbs1 : b < (w.drewN k).heap.size := hbs
      refine wp_region_late 14 [31, 32, 33, 34, 35, 36, 37, 38, 39, 40, 41, 30, 42, 43]
        [[], [(0, 31)], [(1, 32)], [(2, 33)], [], [(3, 34), (4, 35)], [], [], [], [(6, 37), (7, 38), (8, 39)], [(5, 36), (9, 40)], [(10, 41)], [(11, 30)], [(11, 30)]] [13]
        (fun i v w' => match i with
          | 0 => v = .slice (some ⟨b, off, none⟩) zs.length cap
          | 1 => v = .pointer (some ⟨b, off, none⟩)
          | 2 => v = .int .u8 z
          | 3 => v = .bool sq
          | 4 => v = .int .i64 most
          | 5 => Read sq most w' v
          | 6 => v = .slice (some ⟨b, off, none⟩) zs.length cap
          | 7 => v = .int .i64 p
          | 8 => v = .int .i64 (p + n)
          | 9 => v = ov
          | 10 => v = readV d
          | 11 => v = readV d
          | 12 => v = .string (strOfNums d.1)
          | 13 => v = .int .i64 d.2
          | _ => True) (by kernel_rfl) (by kernel_rfl) ?tStab ?tOps ?tLate ?tRest
      case tStab =>
        intro i v w3 w4 h hb
        match i, h with
        | 0, h | 1, h | 2, h | 3, h | 4, h | 6, h | 7, h | 8, h | 9, h | 10, h | 11, h | 12, h | 13, h => exact h
        | 5, h => exact Read.below h hb
        | i + 14, _ => trivial
      case tOps =>
        have ix : ∀ (q : IntKind) (W : World), (Instr.indexAt 24 (.slice (some ⟨b, off, none⟩) zs.length cap) (.int q 0)).run Tryd.prog W = .ok (.pointer (some ⟨b, off, none⟩)) W := fun q W => sl_index Tryd.slice22 Tryd.size22 b off _ _ 0 (by omega) q W
        have hcx3 : ∀ {W3 : World}, Below (w.drewN k).heap.size (w.drewN k) W3 → W3.cell? ⟨b, off, none⟩ = some (.int .u8 z) := fun h => (h.cell (p := ⟨b, off, none⟩) hbs1).trans HC1.out
        simp only [List.take_succ_cons, List.take_zero, opsOk]
        refine ⟨?_, ?_, ?_, ?_, ?_, ?_, ?_, ?_, ?_, ?_, ?_, ?_, ?_, ?_, trivial⟩
        · intro ρ w3 hc hf ho hB2 hj
          have x0 : ρ (.tmp 0) = .slice (some ⟨b, off, none⟩) zs.length cap := ho 0 (by decide)
          simp [gives, go_sem, x0, Below.refl]
        · intro ρ w3 hc hf ho hB2 hj
          have x0 : ρ (.tmp 31) = .slice (some ⟨b, off, none⟩) zs.length cap := hj (0, 31) (by simp)
          simp [gives, go_sem, x0, hc, ix, Below.refl]
        · intro ρ w3 hc hf ho hB2 hj
          have x0 : ρ (.tmp 32) = .pointer (some ⟨b, off, none⟩) := hj (1, 32) (by simp)
          have cc := hcx3 hB2
          simp [gives, go_sem, x0, cc, Below.refl]
        · intro ρ w3 hc hf ho hB2 hj
          have x0 : ρ (.tmp 33) = .int .u8 z := hj (2, 33) (by simp)
          simp [gives, go_sem, x0, hc, Below.refl, HSQ.out]
        · intro ρ w3 hc hf ho hB2 hj
          have x0 : ρ (.tmp 1) = .int .i64 most := ho 1 (by decide)
          simp [gives, go_sem, x0, Below.refl]
        · intro ρ w3 hc hf ho hB2 hj
          have x0 : ρ (.tmp 34) = .bool sq := hj (3, 34) (by simp)
          have x1 : ρ (.tmp 35) = .int .i64 most := hj (4, 35) (by simp)
          simp [gives, go_sem, x0, x1, hf]
          exact readBack_any sq most _
        · intro ρ w3 hc hf ho hB2 hj
          have x0 : ρ (.tmp 0) = .slice (some ⟨b, off, none⟩) zs.length cap := ho 0 (by decide)
          simp [gives, go_sem, x0, Below.refl]
        · intro ρ w3 hc hf ho hB2 hj
          have x0 : ρ (.tmp 8) = .int .i64 p := ho 8 (by decide)
          simp [gives, go_sem, x0, Below.refl]
        · intro ρ w3 hc hf ho hB2 hj
          have x0 : ρ (.tmp 10) = .int .i64 (p + n) := ho 10 (by decide)
          simp [gives, go_sem, x0, Below.refl]
        · intro ρ w3 hc hf ho hB2 hj
          have x0 : ρ (.tmp 37) = .slice (some ⟨b, off, none⟩) zs.length cap := hj (6, 37) (by simp)
          have x1 : ρ (.tmp 38) = .int .i64 p := hj (7, 38) (by simp)
          have x2 : ρ (.tmp 39) = .int .i64 (p + n) := hj (8, 39) (by simp)
          simp [gives, go_sem, x0, x1, x2, hov, Below.refl]
        · intro ρ w3 hc hf ho hB2 hj
          have x0 : Read sq most w3 (ρ (.tmp 36)) := hj (5, 36) (by simp)
          have x1 : ρ (.tmp 40) = ov := hj (9, 40) (by simp)
          obtain ⟨q, hq, hcall⟩ := read_gives sq most _ ov (cutL zs) w3 x0 (HV1.out.below hB2) hcl
          rw [HDD.out] at hcall
          cases sq
          · simp only [readFn, Bool.false_eq_true, if_false] at hq hcall
            simp [gives, go_sem, hq, x1]
            refine hcall.mono ?_
            rintro e w4 ⟨rfl, hb4⟩
            exact ⟨_, rfl, rfl, hb4⟩
          · simp only [readFn, if_true] at hq hcall
            simp [gives, go_sem, hq, x1]
            refine hcall.mono ?_
            rintro e w4 ⟨rfl, hb4⟩
            exact ⟨_, rfl, rfl, hb4⟩
        · intro ρ w3 hc hf ho hB2 hj
          have x0 : ρ (.tmp 41) = readV d := hj (10, 41) (by simp)
          simp [gives, go_sem, x0, Below.refl]
        · intro ρ w3 hc hf ho hB2 hj
          have x0 : ρ (.tmp 30) = readV d := hj (11, 30) (by simp)
          rw [readV] at x0
          simp [gives, go_sem, x0, Below.refl]
        · intro ρ w3 hc hf ho hB2 hj
          have x0 : ρ (.tmp 30) = readV d := hj (11, 30) (by simp)
          rw [readV] at x0
          simp [gives, go_sem, x0, Below.refl]
      case tLate =>
        intro i hi _ o ho
        simp only [List.mem_cons, List.not_mem_nil, or_false] at hi
        subst hi
        obtain rfl := Option.some.inj ho
        intro ρ w3 hc _ _ hj
        have x0 : ρ (.tmp 30) = readV d := hj (11, 30) (by simp)
        rw [readV] at x0
        exact ⟨_, fun w' => by simp [go_sem, x0], rfl⟩
      case tRest =>
        intro X w3 hBw hX
        have x10 : X 10 = readV d := hX 10 (by decide)
        have x11 : X 11 = readV d := hX 11 (by decide)
        have x12 : X 12 = .string (strOfNums d.1) := hX 12 (by decide)
        have x13 : X 13 = .int .i64 d.2 := hX 13 (by decide)
        simp only [putAll, List.getD_cons_zero, List.getD_cons_succ, Act.put, List.setIfInBounds_toArray, List.set_cons_zero, List.set_cons_succ, List.drop_succ_cons, List.drop_zero]
        rw [x10, x11, x12, x13, readV]
        have HB3 := Lib.hid (HB0.out.trans hBw)
        obtain ⟨dt, de⟩ := d
        clear hX hBw
        by_cases hde : de = 0
        · have HE : Hid (decL most zs = (dt, p + n, 0)) := by show _ = _; rw [HR.out, hde, if_neg (by simp)]
          subst hde
          go_wp2_with fail
          refine Calm.intro ?_
          go_wp2_with fail
          go_ret3
          rw [HE.out]
          exact ⟨rfl, HB3.out⟩
        · have HE : Hid (decL most zs = ([], 0, de)) := by show _ = _; rw [HR.out, if_pos hde]
          have d2 : (de != 0) = true := by simp [hde]
          go_wp2_with fail
          refine Calm.intro ?_
          go_wp2_with fail
          go_ret3
          rw [HE.out]
          exact ⟨rfl, HB3.out⟩
  · have HE := Lib.hid (decL_err (most := most) hd h0)
    have HD := Lib.hid hd
    have d1 : decide (e = 0) = false := decide_eq_false h0
    clear hd
    go_enter Tryd.func39, Tryd.ntmps39
    go_wp2_with fail
    refine (prefDec_yes _ zs 7 _ HV.out (by decide)).mono ?_
    rintro e w' ⟨rfl, k, rfl⟩
    rw [HD.out, tup3]
    go_wp2_with fail
    go_ret3
    rw [HE.out]
    exact ⟨rfl, below_drewN (Below.refl _ _) k⟩
end Go.Proofs.YtimggejonppegaaDoor
