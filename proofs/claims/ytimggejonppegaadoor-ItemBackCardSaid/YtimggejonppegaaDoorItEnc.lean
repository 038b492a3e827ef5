
/-
  item.Right and item.Encode.
-/
import Derived.Test.YtimggejonppegaaDoorItMath
import Derived.Test.YtimggejonppegaaDoorLit
namespace Go.Proofs.YtimggejonppegaaDoor
open Go.RowKit

theorem right_any (k n : Int) (a b : ByteArray) (w : World) (hT : ShT w) :
    Calls Tryd.prog 12 #[itV k n a b] w fun e w' => e = .returned (.bool (decide (rightI k n a b))) ∧ Below w.heap.size w w' := by
  by_cases h : 0 ≤ k ∧ k < 5
  · by_cases h2 : leastI k ≤ n ∧ n ≤ 16777215
    · exact right_yes k n a b w hT h h2
    · rw [decide_eq_false (fun x : rightI k n a b => h2 ⟨x.2.1, x.2.2.1⟩)]
      exact right_noNum k n a b w hT h (by omega)
  · rw [decide_eq_false (fun x : rightI k n a b => h x.1)]
    exact right_noKind k n a b w h

/-- what Encode answers -/
def encT (k n : Int) (a b : ByteArray) : List Int × Int := if rightI k n a b then (encI k n a b, 0) else ([], 1)
theorem iEnc_no (k n : Int) (a b : ByteArray) (w : World) (hT : ShT w) (h : ¬ rightI k n a b) :
    Calls Tryd.prog 6 #[itV k n a b] w fun e w' => e = .returned (.tuple #[.slice none 0 0, .int .i64 1]) ∧ Below w.heap.size w w' := by
  have D := Lib.hid (decide_eq_false h)
  have HT := Lib.hid hT
  clear h hT
  unfold itV
  go_enter Tryd.func6, Tryd.ntmps6
  go_wp2_with fail
  refine (right_any k n a b _ (HT.out.below ((Below.refl _ w).alloc (Nat.le_refl _) _))).mono ?_
  rintro e w1 ⟨rfl, hb⟩
  rw [D.out]
  go_wp2_with fail
  go_ret2
  exact ⟨rfl, ((Below.refl _ _).alloc (Nat.le_refl _) _).trans (hb.mono (by simp))⟩

/-- the texts behind an item's number, in their order -/
def txtI (k n : Int) (a b : ByteArray) : List ByteArray := if textsI k then if n = 0 then [a, b] else [b] else []
theorem txtI_length (k n : Int) (a b : ByteArray) : (txtI k n a b).length = (offsI k n).length := by
  unfold txtI offsI
  split <;> (try split) <;> rfl
theorem offsI_two (k n : Int) : (offsI k n).length ≤ 2 := by
  unfold offsI
  split <;> (try split) <;> simp
theorem ItAt.txt {W : World} {N : Nat} {t : TypeId} {k n : Int} {a b : ByteArray} (h : ItAt W N t k n a b) {i o : Nat} (hi : (offsI k n)[i]? = some o) : ∃ s, (txtI k n a b)[i]? = some s ∧ W.cell? ⟨N, o, none⟩ = some (.string s) := by
  have c2 := h.c2
  have c3 := h.c3
  unfold offsI at hi
  unfold txtI
  split at hi
  · rename_i h1
    rw [if_pos h1]
    split at hi
    · rename_i h2
      rw [if_pos h2]
      match i, hi with
      | 0, hi => obtain rfl := Option.some.inj hi; exact ⟨_, rfl, c2⟩
      | 1, hi => obtain rfl := Option.some.inj hi; exact ⟨_, rfl, c3⟩
      | i + 2, hi => cases hi
    · rename_i h2
      rw [if_neg h2]
      match i, hi with
      | 0, hi => obtain rfl := Option.some.inj hi; exact ⟨_, rfl, c3⟩
      | i + 1, hi => cases hi
  · cases hi
/-- the bytes of such texts -/
def litsI (ts : List ByteArray) : List Int := ts.flatMap (fun s => litS (nums s))
theorem encI_txt (k n : Int) (a b : ByteArray) : encI k n a b = encP (fullP (bitsI k)) (aboveI k) n ++ litsI (txtI k n a b) := by
  unfold encI nameI valI txtI litsI
  split <;> (try split) <;> simp
theorem rightI.txt {k n : Int} {a b : ByteArray} (h : rightI k n a b) {i : Nat} {s : ByteArray} (hi : (txtI k n a b)[i]? = some s) : s.size ≤ 65536 := by
  unfold txtI at hi
  split at hi
  · rename_i h1
    have h2 := h.2.2.2.1 h1
    split at hi
    · match i, hi with
      | 0, hi => obtain rfl := Option.some.inj hi; exact h2.1
      | 1, hi => obtain rfl := Option.some.inj hi; exact h2.2.1
      | i + 2, hi => cases hi
    · match i, hi with
      | 0, hi => obtain rfl := Option.some.inj hi; exact h2.2.1
      | i + 1, hi => cases hi
  · cases hi
theorem litsI_step {ts : List ByteArray} {j : Nat} {s : ByteArray} (h : ts[j]? = some s) : litsI (ts.take (j + 1)) = litsI (ts.take j) ++ litS (nums s) := by
  rw [List.take_add_one, h, litsI, List.flatMap_append]
  simp [litsI]

theorem Gone.grown {w W W1 : World} {N B : Nat} {offs : List Nat} {k n : Int} {a b : ByteArray} (h : Gone w N B offs k n W a b) (hb : Below W.heap.size W W1) : Gone w N B offs k n W1 a b := by
  obtain ⟨h1, h2, h3, h4⟩ := h
  exact ⟨h1.grown hb, h2.trans (hb.mono h2.size), h3, fun i o hi => by rw [hb.cell (World.block_lt_of_cell? _ _ (h4 i o hi))]; exact h4 i o hi⟩
theorem ItAt.app {W W1 : World} {N m base : Nat} {t : TypeId} {k n : Int} {a b : ByteArray} {v : Value} {out : List Int} (h : ItAt W N t k n a b) (ht : t ≠ 5) (ho : W.ownsRow base 5 1 v m (out.map (Value.int .u8))) (hg : W.grownBy W1 v.ownBlock) :
    ItAt W1 N t k n a b := by
  have hN : some N ≠ v.ownBlock := by
    rcases ho.2 with ⟨rfl, _⟩ | ⟨g, cap, cur, rfl, _, hh, _⟩
    · simp [Value.ownBlock]
    · intro e
      have e : N = g := by simpa [Value.ownBlock] using e
      subst e
      rw [h] at hh
      cases hh
      exact ht rfl
  exact (hg.block N h.lt (fun e => hN e)).trans h
/-- an append to a row of bytes, which is neither the item nor the pointers -/
theorem Gone.app {w W W1 : World} {N B m base : Nat} {offs : List Nat} {k n : Int} {a b : ByteArray} {v : Value} {out : List Int} (h : Gone w N B offs k n W a b) (ho : W.ownsRow base 5 1 v m (out.map (Value.int .u8))) (h1 : out ≠ []) (h2 : offs ≠ [])
    (hg : W.grownBy W1 v.ownBlock) (hb : Below w.heap.size W W1) : Gone w N B offs k n W1 a b := by
  obtain ⟨i1, i2, i3, i4⟩ := h
  obtain ⟨x, xs, rfl⟩ := List.exists_cons_of_ne_nil h1
  obtain ⟨o, os, rfl⟩ := List.exists_cons_of_ne_nil h2
  have q0 := i4 0 o rfl
  have hN : some N ≠ v.ownBlock := by
    rcases ho.2 with ⟨rfl, _⟩ | ⟨g, cap, cur, rfl, _, hh, _⟩
    · simp [Value.ownBlock]
    · intro e
      have e : N = g := by simpa [Value.ownBlock] using e
      subst e
      rw [i1] at hh
      cases hh
  have hB : some B ≠ v.ownBlock := by
    intro e
    have hc := ho.cells (g := B) (by rcases ho.2 with ⟨rfl, _⟩ | ⟨g, cap, cur, rfl, _, hh, _⟩ <;> simp [Value.ownBlock] at e; first | done | (subst e; rfl)) 0 (.int .u8 x) rfl
    have : W.cell? ⟨B, 0, none⟩ = some (.int .u8 x) := hc
    rw [q0] at this
    cases this
  refine ⟨?_, i2.trans hb, i3, fun i o hi => ?_⟩
  · exact (hg.block N i1.lt (fun e => hN e)).trans i1
  · have e : W1.cell? ⟨B, i, none⟩ = W.cell? ⟨B, i, none⟩ := World.cell?_of_block (w := W) (hg.block B (World.block_lt_of_cell? _ _ (i4 i o hi)) hB)
    rw [e]
    exact i4 i o hi

theorem Tryd.sliceP : Tryd.prog.underlying 46 = some (.slice (Tryd.prog.elem 46)) := by kernel_rfl
theorem Tryd.sizeP (w : World) : (sizeOf (Tryd.prog.elem 46)).run Tryd.prog w = .ok 1 w := by kernel_rfl

set_option maxHeartbeats 2000000 in
theorem iEnc_yes (k n : Int) (a b : ByteArray) (w : World) (hT : ShT w) (h : rightI k n a b) :
    Calls Tryd.prog 6 #[itV k n a b] w fun e w' => ∃ v, e = .returned (.tuple #[v, .int .i64 0]) ∧ w'.ownsRow w.heap.size 5 1 v (encI k n a b).length ((encI k n a b).map (Value.int .u8)) ∧ Below w.heap.size w w' := by
  have D := Lib.hid (decide_eq_true h)
  have HOK := Lib.hid h.enc
  have HR := Lib.hid h
  obtain ⟨K, hix, hc⟩ := sh_row h.1.1 h.1.2
  have HC := Lib.hid hc
  have HT := Lib.hid hT
  obtain ⟨m, hm⟩ : ∃ m, bitsI k = m := ⟨_, rfl⟩
  obtain ⟨A, hA⟩ : ∃ A, aboveI k = A := ⟨_, rfl⟩
  obtain ⟨L, hL⟩ : ∃ L, leastI k = L := ⟨_, rfl⟩
  obtain ⟨T, hTx⟩ : ∃ T, textsI k = T := ⟨_, rfl⟩
  rw [hm, hA] at HOK
  have HM := Lib.hid (And.intro hm hA)
  rw [hm, hA, hL, hTx] at HC
  clear h hT hc hm hA hL
  unfold itV
  go_enter Tryd.func6, Tryd.ntmps6
  go_wp2_with fail
  refine (right_any k n a b _ (HT.out.below ((Below.refl _ w).alloc (Nat.le_refl _) _))).mono ?_
  rintro e w1 ⟨rfl, hb⟩
  rw [D.out]
  have hI : ItAt w1 w.heap.size 23 k n a b := (hb.block _ (by simp)).trans (heap_alloc_new _ _)
  have hB : Below w.heap.size w w1 := ((Below.refl _ _).alloc (Nat.le_refl _) _).trans (hb.mono (by simp))
  have HI := Lib.hid (And.intro hI hB)
  have HT1 := Lib.hid (HT.out.low hB HT.out.lt)
  have c0 := hI.c0
  have c1 := hI.c1
  have hlt := hI.lt
  obtain ⟨s0, s1, s2, s3⟩ := HC.out _ HT1.out
  clear hb hI hB
  go_wp2_with fail
  refine (prefEnc_own n m A _ HOK.out).mono ?_
  rintro e w2 ⟨y, rfl, hO, hb2⟩
  have hO2 := owned_mono hO (show w.heap.size ≤ _ by simp; omega)
  have hI2 : ItAt w2 w.heap.size 23 k n a b := (hb2.block _ (by simp; omega)).trans ((Below.heap_alloc _ _ _ (by omega)).trans HI.out.1)
  have hB2 : Below w.heap.size w w2 := (HI.out.2.alloc HI.out.2.size _).trans (hb2.mono (by simp; omega))
  have hT2 := HT.out.low hB2 HT.out.lt
  have hp6 := (encP_length (fullP m) A n).2
  obtain ⟨P, hP⟩ : ∃ P, encP (fullP m) A n = P := ⟨_, rfl⟩
  rw [hP] at hO2 hp6
  have HP : Hid (encP (fullP (bitsI k)) (aboveI k) n = P) := by show _ = _; rw [HM.out.1, HM.out.2, hP]
  have H2 := Lib.hid (And.intro hI2 (And.intro hB2 (And.intro hT2 hO2)))
  clear hO hb2 hI2 hB2 hT2 hO2 HOK s0 s1 s2 s3 c0 c1 hix hP HC HT HT1 HI D HM
  go_wp2_with fail
  refine Calls.mono (places_any w.heap.size 23 k n a b _ ?hi ?ht HR.out.1.1 HR.out.1.2) ?_
  case hi => exact H2.out.1
  case ht => exact H2.out.2.2.1
  rintro e w3 ⟨v, rfl, hp, hb3⟩
  have hI3 := H2.out.1.grown hb3
  have hB3 : Below w.heap.size w w3 := H2.out.2.1.trans (hb3.mono H2.out.2.1.size)
  have hO3 := owned_below H2.out.2.2.2 hb3
  have H3 := Lib.hid (And.intro hI3 (And.intro hB3 hO3))
  clear hI3 hB3 hO3 H2 hb3
  obtain ⟨ad, cap, rfl, hp | ⟨B, rfl, hB1, hB2, hB3⟩⟩ := hp
  · have HE : Hid (encI k n a b = P) := by
      have h0 : txtI k n a b = [] := List.eq_nil_of_length_eq_zero (by rw [txtI_length, hp]; rfl)
      show _ = _
      rw [encI_txt, HP.out, h0, litsI]
      simp
    have hlen : (offsI k n).length = 0 := by rw [hp]; rfl
    rw [hlen]
    have hO3 := H3.out.2.2
    have HO := Lib.hid hO3
    obtain ⟨ay, cy, rfl, _⟩ := owned_shape hO3
    clear hO3 hp hlen
    go_wp2_with fail
    go_loopg [5, 28] 0 (fun g s5 s28 wr => s5 = .slice ay P.length cy ∧ s28 = .int .i64 0 ∧ wr = w3)
    case atStart => exact ⟨rfl, rfl, rfl⟩
    case round =>
      obtain ⟨rfl, rfl, rfl⟩ := hrel
      go_wp2_with fail
      go_ret2
      exact ⟨_, rfl, by rw [HE.out]; exact HO.out, H3.out.2.1⟩
  · have HG : Hid (Gone w w.heap.size B (offsI k n) k n w3 a b) := ⟨H3.out.1, H3.out.2.1, hB2, hB3⟩
    have hO3 := H3.out.2.2
    obtain ⟨ay, cy, rfl, _⟩ := owned_shape hO3
    have HO := Lib.hid hO3
    have HE : Hid (encI k n a b = P ++ litsI (txtI k n a b)) := by show _ = _; rw [encI_txt, HP.out]
    have HT : Hid (∀ i o : Nat, (offsI k n)[i]? = some o → ∃ s, (txtI k n a b)[i]? = some s ∧ s.size ≤ 65536 ∧ ∀ W, ItAt W w.heap.size 23 k n a b → W.cell? ⟨w.heap.size, o, none⟩ = some (.string s)) := by
      intro i o hi
      obtain ⟨s, hs, _⟩ := H3.out.1.txt hi
      refine ⟨s, hs, HR.out.txt hs, fun W hW => ?_⟩
      obtain ⟨s', hs', hc⟩ := hW.txt hi
      rw [hs] at hs'
      cases hs'
      exact hc
    have hP1 : 1 ≤ P.length := by rw [← HP.out]; exact (encP_length _ _ _).1
    have HL := Lib.hid (txtI_length k n a b)
    have hl2 := offsI_two k n
    obtain ⟨offs, ho⟩ : ∃ offs, offsI k n = offs := ⟨_, rfl⟩
    obtain ⟨txt, htx⟩ : ∃ txt, txtI k n a b = txt := ⟨_, rfl⟩
    rw [ho, htx] at HL
    rw [ho] at HG hl2
    rw [htx] at HE
    rw [ho, htx] at HT
    rw [ho]
    obtain ⟨l, hl⟩ : ∃ l, offs.length = l := ⟨_, rfl⟩
    rw [hl] at hl2 HL ⊢
    have HLO := Lib.hid hl
    clear hO3 hB1 hB2 hB3 HR H3 ho htx hl
    go_wp2_with fail
    go_loopg [5, 28] l (fun g s5 s28 wr => ∃ (j : Nat) (out : List Int), j + g = l ∧ s28 = .int .i64 j ∧ Hid (Gone w w.heap.size B offs k n wr a b) ∧ Hid (wr.ownsRow w.heap.size 5 1 s5 out.length (out.map (Value.int .u8))) ∧ Hid (out = P ++ litsI (txt.take j) ∧ out.length ≤ 6 + j * 262149))
    case atStart => exact ⟨0, P, by omega, rfl, HG, HO, Lib.hid ⟨by simp [litsI], by omega⟩⟩
    case round =>
      clear HG HO
      obtain ⟨j, out, hjg, rfl, HG, HO, HJ⟩ := hrel
      by_cases hj : j < l
      · have d1 : decide ((j : Int) < (l : Int)) = true := decide_eq_true (by omega)
        obtain ⟨o, ho⟩ : ∃ o, offs[j]? = some o := ⟨offs[j]'(by rw [HLO.out]; exact hj), List.getElem?_eq_getElem _⟩
        obtain ⟨s, hs, hsz, hc⟩ := HT.out j o ho
        have q0 := HG.out.2.2.2 j o ho
        have c0 := hc _ HG.out.1
        have HS := Lib.hid hs
        have HOFF := Lib.hid (show offs ≠ [] by intro e; rw [e] at ho; simp at ho)
        have hNlt := HG.out.1.lt
        have hBlt := World.block_lt_of_cell? _ _ q0
        have hix : ∀ (q : IntKind) (W : World), (Instr.indexAt 46 (.slice (some ⟨B, 0, none⟩) l cap) (.int q j)).run Tryd.prog W = .ok (.pointer (some ⟨B, j, none⟩)) W := by
          intro q W
          have := sl_index Tryd.sliceP Tryd.sizeP B 0 l cap j hj q W
          rwa [Nat.zero_add] at this
        have hll := (litS_length (nums_fit s) (by rw [nums_length]; omega)).2
        rw [nums_length] at hll
        have hlo := HJ.out.2
        obtain ⟨a5, c5, rfl, _⟩ := owned_shape HO.out
        clear hc ho hs
        go_wp2_with fail
        refine (short_any s _ hsz).mono ?_
        rintro e w4 ⟨x, rfl, hx, hb4⟩
        obtain ⟨ax, cx, rfl, _⟩ := id hx
        have HG4 := Lib.hid (HG.out.grown hb4)
        have hO4 := owned_below HO.out hb4
        have hw4 := HG4.out.2.1.size
        clear hb4 HG
        go_wp2_with (at_builtin; refine app_ints rfl (.tmp 32) (.tmp 36) 24 rfl w.heap.size 5 .u8 1 Tryd.underlying24 Tryd.info5' _ _ out rfl hO4 _ (litS (nums s)) rfl hx (by omega) (by unfold maxLen; omega) hw4 ?_; intro v5 w5 hO5 hb5 hg5; obtain ⟨a6, c6, rfl, _⟩ := owned_shape hO5)
        have hne : out ≠ [] := by
          intro e
          have := congrArg List.length HJ.out.1
          rw [e, List.length_append] at this
          simp only [List.length_nil] at this
          omega
        have HG5 := Lib.hid (HG4.out.app hO4 hne HOFF.out hg5 hb5)
        go_roundg (l - (j + 1))
        case measure => omega
        case rel => exact ⟨j + 1, out ++ litS (nums s), by omega, by go_num, HG5, by show World.ownsRow _ _ _ _ _ _ _; rw [List.length_append]; exact hO5, Lib.hid ⟨by rw [litsI_step HS.out, ← List.append_assoc, ← HJ.out.1], by rw [List.length_append]; omega⟩⟩
      · obtain rfl : j = l := by omega
        have d1 : decide ((j : Int) < (j : Int)) = false := decide_eq_false (by omega)
        have HX : Hid (encI k n a b = out) := by
          show _ = _
          rw [HE.out, HJ.out.1, List.take_of_length_le (by rw [HL.out]; exact Nat.le_refl _)]
        obtain ⟨a5, c5, rfl, _⟩ := owned_shape HO.out
        go_wp2_with fail
        go_ret2
        exact ⟨_, rfl, by rw [HX.out]; exact HO.out, HG.out.2.1⟩
end Go.Proofs.YtimggejonppegaaDoor
