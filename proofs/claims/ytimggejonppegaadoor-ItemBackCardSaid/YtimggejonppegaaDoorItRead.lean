
/-
  item.readTexts: the texts behind an item's number, into their places.
-/
import Derived.Test.YtimggejonppegaaDoorItEnc
namespace Go.Proofs.YtimggejonppegaaDoor
open Go.RowKit

/-- so many texts, one behind the other, from a place on: they, the place behind them, the error -/
def rd (most : Int) (zs : List Int) : Nat → Int → List (List Int) × Int × Int
  | 0, p => ([], p, 0)
  | m + 1, p => if (decL most (zs.drop p.toNat)).2.2 ≠ 0 then ([], 0, (decL most (zs.drop p.toNat)).2.2)
      else ((decL most (zs.drop p.toNat)).1 :: (rd most zs m (p + (decL most (zs.drop p.toNat)).2.1)).1, (rd most zs m (p + (decL most (zs.drop p.toNat)).2.1)).2)
theorem rd_err {most : Int} {zs : List Int} {m : Nat} {p : Int} {a : List Int} {u e : Int} (h : decL most (zs.drop p.toNat) = (a, u, e)) (he : e ≠ 0) : rd most zs (m + 1) p = ([], 0, e) := by
  rw [rd, h, if_pos he]
theorem rd_ok {most : Int} {zs : List Int} {m : Nat} {p : Int} {a : List Int} {u : Int} (h : decL most (zs.drop p.toNat) = (a, u, 0)) : rd most zs (m + 1) p = (a :: (rd most zs m (p + u)).1, (rd most zs m (p + u)).2) := by
  rw [rd, h, if_neg (by simp)]
/-- the name and the value among them -/
def nmOf (n : Int) (l : List (List Int)) : ByteArray := strOfNums (if n = 0 then l.getD 0 [] else [])
def vlOf (n : Int) (l : List (List Int)) : ByteArray := strOfNums (if n = 0 then l.getD 1 [] else l.getD 0 [])
theorem decL_used {most : Int} {zs : List Int} (hf : Fit .u8 zs) {a : List Int} {u : Int} (h : decL most zs = (a, u, 0)) : 0 ≤ u ∧ u ≤ zs.length := by
  by_cases h0 : (decP (fullP 7) zs).2.2 = 0
  · obtain ⟨h1, h2, h3, h4⟩ := decP_ok hf h0
    rw [decL, if_neg (by simp [h0])] at h
    split at h
    · cases h
    · have hx : u = (decP (fullP 7) zs).2.1 + (decP (fullP 7) zs).1 := by
        split at h
        · split at h
          · rename_i e
            simp only [Prod.mk.injEq] at h
            exact absurd h.2.2 e
          · simp only [Prod.mk.injEq] at h
            exact h.2.1.symm
        · split at h
          · cases h
          · simp only [Prod.mk.injEq] at h
            exact h.2.1.symm
      omega
  · rw [decL, if_pos h0] at h
    simp only [Prod.mk.injEq] at h
    exact absurd h.2.2 h0
theorem Gone.place {w W : World} {N B o : Nat} {k n : Int} {l : List (List Int)} (h : Gone w N B (offsI k n) k n W (nmOf n l) (vlOf n l)) (hN : w.heap.size ≤ N) (ho : (offsI k n)[l.length]? = some o) (s : List Int) :
    Gone w N B (offsI k n) k n (W.setCell ⟨N, o, none⟩ (.string (strOfNums s))) (nmOf n (l ++ [s])) (vlOf n (l ++ [s])) := by
  have ho' := ho
  unfold offsI at ho'
  split at ho'
  · split at ho'
    · rename_i h0
      match l, ho' with
      | [], ho' =>
        obtain rfl := Option.some.inj ho'
        have := h.put2 hN (strOfNums s)
        simp only [nmOf, vlOf, h0, if_true] at this ⊢
        exact this
      | [x], ho' =>
        obtain rfl := Option.some.inj ho'
        have := h.put3 hN (strOfNums s)
        simp only [nmOf, vlOf, h0, if_true] at this ⊢
        exact this
      | x :: y :: r, ho' => simp at ho'
    · rename_i h0
      match l, ho' with
      | [], ho' =>
        obtain rfl := Option.some.inj ho'
        have := h.put3 hN (strOfNums s)
        simp only [nmOf, vlOf, h0, if_false] at this ⊢
        exact this
      | x :: r, ho' => simp at ho'
  · simp at ho'
theorem Gone.cellAt {w W : World} {N B o i : Nat} {k n : Int} {a b : ByteArray} (h : Gone w N B (offsI k n) k n W a b) (ho : (offsI k n)[i]? = some o) : ∃ s, W.cell? ⟨N, o, none⟩ = some (.string s) := by
  obtain ⟨s, _, hc⟩ := h.1.txt ho
  exact ⟨s, hc⟩

set_option maxHeartbeats 2000000 in
theorem readTexts_any (W0 : World) (g : Nat) (k n : Int) (v : Value) (zs : List Int) (most : Int) (w : World) (h0 : 0 ≤ k) (h4 : k < 5) (hv : Sl .u8 W0 v zs) (hz : zs.length ≤ 1000000) (hT : ShT W0)
    (hb : Below W0.heap.size W0 w) (hg : W0.heap.size ≤ g) (hI : ItAt w g 23 k n ⟨#[]⟩ ⟨#[]⟩) :
    Calls Tryd.prog 23 #[.pointer (some ⟨g, 0, none⟩), v, .int .i64 most] w fun e w' =>
      e = .returned (.tuple #[.int .i64 (rd most zs (offsI k n).length 0).2.1, .int .i64 (rd most zs (offsI k n).length 0).2.2]) ∧ Below W0.heap.size W0 w' ∧
      ((rd most zs (offsI k n).length 0).2.2 = 0 → ItAt w' g 23 k n (nmOf n (rd most zs (offsI k n).length 0).1) (vlOf n (rd most zs (offsI k n).length 0).1)) := by
  have HH := Lib.hid (And.intro hv (And.intro hT (And.intro hb (And.intro hg hI))))
  have HF := Lib.hid hv.fit
  obtain ⟨R, hR⟩ : ∃ R, rd most zs (offsI k n).length 0 = R := ⟨_, rfl⟩
  have HRD := Lib.hid hR
  rw [hR]
  clear hR
  obtain ⟨av, cv, rfl, _⟩ := id hv
  clear hv hT hb hg hI
  go_enter Tryd.func23, Tryd.ntmps23
  go_wp2_with fail
  refine Calls.mono (places_any g 23 k n ⟨#[]⟩ ⟨#[]⟩ _ ?hi ?ht h0 h4) ?_
  case hi => exact HH.out.2.2.2.2
  case ht => exact HH.out.2.1.low HH.out.2.2.1 HH.out.2.1.lt
  rintro e w1 ⟨vp, rfl, hp, hb1⟩
  have hI1 := HH.out.2.2.2.2.grown hb1
  have hB1 : Below W0.heap.size W0 w1 := HH.out.2.2.1.trans (hb1.mono HH.out.2.2.1.size)
  have H1 := Lib.hid (And.intro hI1 hB1)
  clear hI1 hB1 hb1
  obtain ⟨ad, cap, rfl, hp | ⟨B, rfl, hBl, hBg, hBc⟩⟩ := hp
  · have HR : Hid (R = ([], 0, 0)) := by show _ = _; rw [← HRD.out, hp]; rfl
    have HE : Hid (nmOf n [] = ⟨#[]⟩ ∧ vlOf n [] = ⟨#[]⟩) := by
      constructor <;> (simp only [nmOf, vlOf]; split <;> rfl)
    have hlen : (offsI k n).length = 0 := by rw [hp]; rfl
    rw [hlen]
    clear hp hlen HRD
    go_wp2_with fail
    go_loopg [8, 17] 0 (fun g s8 s17 wr => s8 = .int .i64 0 ∧ s17 = .int .i64 0 ∧ wr = w1)
    case atStart => exact ⟨rfl, rfl, rfl⟩
    case round =>
      obtain ⟨rfl, rfl, rfl⟩ := hrel
      go_wp2_with fail
      go_ret2
      exact ⟨by rw [HR.out]; rfl, H1.out.2, fun _ => by rw [HR.out, HE.out.1, HE.out.2]; exact H1.out.1⟩
  · have HG : Hid (Gone W0 g B (offsI k n) k n w1 (nmOf n []) (vlOf n [])) := by
      have e1 : nmOf n [] = ⟨#[]⟩ := by simp only [nmOf]; split <;> rfl
      have e2 : vlOf n [] = ⟨#[]⟩ := by simp only [vlOf]; split <;> rfl
      rw [e1, e2]
      exact ⟨H1.out.1, H1.out.2, hBg, hBc⟩
    obtain ⟨l, hl⟩ : ∃ l, (offsI k n).length = l := ⟨_, rfl⟩
    have hl2 := offsI_two k n
    rw [hl] at hl2 HRD ⊢
    have HLO := Lib.hid hl
    clear hl hBl hBg hBc
    go_wp2_with fail
    go_loopg [8, 17] l (fun gg s8 s17 wr => ∃ (j : Nat) (p : Int) (done : List (List Int)), j + gg = l ∧ s17 = .int .i64 j ∧ s8 = .int .i64 p ∧ 0 ≤ p ∧ p ≤ zs.length ∧ done.length = j ∧ Hid (Gone W0 g B (offsI k n) k n wr (nmOf n done) (vlOf n done)) ∧
      Hid (R.2 = (rd most zs (l - j) p).2 ∧ (R.2.2 = 0 → R.1 = done ++ (rd most zs (l - j) p).1)))
    case atStart => exact ⟨0, 0, [], by omega, rfl, rfl, by omega, by omega, rfl, HG, Lib.hid ⟨by rw [← HRD.out]; rfl, fun _ => by rw [← HRD.out]; rfl⟩⟩
    case round =>
      clear HG HRD
      obtain ⟨j, p, done, hjg, rfl, rfl, hp0, hp1, hdl, HG, HR⟩ := hrel
      by_cases hj : j < l
      · have d1 : decide ((j : Int) < (l : Int)) = true := decide_eq_true (by omega)
        obtain ⟨m, hm⟩ : ∃ m, l - j = m + 1 := ⟨l - j - 1, by omega⟩
        rw [hm] at HR
        obtain ⟨o, ho⟩ : ∃ o, (offsI k n)[j]? = some o := ⟨(offsI k n)[j]'(by rw [HLO.out]; exact hj), List.getElem?_eq_getElem _⟩
        have q0 := HG.out.2.2.2 j o ho
        have hix : ∀ (q : IntKind) (W : World), (Instr.indexAt 46 (.slice (some ⟨B, 0, none⟩) l cap) (.int q j)).run Tryd.prog W = .ok (.pointer (some ⟨B, j, none⟩)) W := by
          intro q W
          have := sl_index Tryd.sliceP Tryd.sizeP B 0 l cap j hj q W
          rwa [Nat.zero_add] at this
        obtain ⟨v', hrv, hsv⟩ := HH.out.1.from_ Tryd.slice22 Tryd.size22 p hp0 hp1
        have hsv4 := hsv.below HG.out.2.1
        obtain ⟨da, du, de, hd⟩ : ∃ a u e, decL most (zs.drop p.toNat) = (a, u, e) := ⟨_, _, _, rfl⟩
        have HD := Lib.hid hd
        have HO := Lib.hid ho
        have HDL := Lib.hid hdl
        clear ho hsv hd hdl
        go_wp2_with fail
        refine (litDec_any v' (zs.drop p.toNat) most _ hsv4 (by rw [List.length_drop]; omega)).mono ?_
        rintro e w4 ⟨rfl, hb4⟩
        rw [HD.out, tupL]
        have HG4 := Lib.hid (HG.out.grown hb4)
        clear hb4 HG hsv4
        by_cases h0 : de = 0
        · subst h0
          obtain ⟨hu0, hu1⟩ := decL_used (HF.out.drop _) HD.out
          rw [List.length_drop] at hu1
          obtain ⟨so, hc⟩ := HG4.out.cellAt HO.out
          have hf : w4.frozen? ⟨g, o, none⟩ = false := HG4.out.1.free o
          have hl4 := HG4.out.1.lt
          go_wp2_with fail
          go_roundg (l - (j + 1))
          case measure => omega
          case rel =>
            refine ⟨j + 1, p + du, done ++ [da], by omega, by go_num, rfl, by omega, by omega, by rw [List.length_append, HDL.out]; rfl, ?_, ?_⟩
            · exact HG4.out.place HH.out.2.2.2.1 (by rw [HDL.out]; exact HO.out) da
            · have hr := rd_ok (m := m) HD.out
              have hm' : l - (j + 1) = m := by omega
              rw [hm']
              refine Lib.hid ⟨?_, fun h => ?_⟩
              · rw [HR.out.1, hr]
              · rw [HR.out.2 h, hr, List.append_assoc]; rfl
        · have d2 : (de != 0) = true := by simp [h0]
          have hr := rd_err (m := m) HD.out h0
          have HE : Hid (R.2 = (0, de)) := by show _ = _; rw [HR.out.1, hr]
          have H0 := Lib.hid h0
          clear hr
          go_wp2_with fail
          go_ret2
          exact ⟨by rw [HE.out]; rfl, HG4.out.2.1, fun h => by rw [HE.out] at h; exact absurd h H0.out⟩
      · obtain rfl : j = l := by omega
        have d1 : decide ((j : Int) < (j : Int)) = false := decide_eq_false (by omega)
        rw [Nat.sub_self] at HR
        have HE : Hid (R.2 = (p, 0)) := HR.out.1
        have HF1 : Hid (R.1 = done) := by
          show _ = _
          rw [HR.out.2 (by rw [HE.out]), rd, List.append_nil]
        go_wp2_with fail
        go_ret2
        exact ⟨by rw [HE.out]; rfl, HG.out.2.1, fun _ => by rw [HF1.out]; exact HG.out.1⟩
end Go.Proofs.YtimggejonppegaaDoor
