
/-
  Layer 14: the law OutletPlays.
-/
import Derived.Test.YtfdkbaekohaaoaaLaw14
import Derived.Test.YtfdkbaekohaaoaaLaw14a
import Derived.Test.YtfdkbaekohaaoaaRef02
import Derived.Test.YtfdkbaekohaaoaaQuiet
import Derived.Test.YtfdkbaekohaaoaaFrStore
namespace Go.Proofs.Ytfdkbaekohaaoaa
set_option maxRecDepth 20000
open Go.RowKit

/-- the outlet and the reference's bytes, apart -/
structure PlO (w W : World) (T : Nat) (O : Option Nat) (mv : Value) (q : List Int) : Prop where
  a : OutAt W T O q
  m : Sl .u8 W mv q
  b : Below w.heap.size w W
  gT : w.heap.size ≤ T
  gO : ∀ g, O = some g → w.heap.size ≤ g
  nm : ∀ g, mv.ownBlock = some g → g < W.heap.size ∧ g ≠ T ∧ O ≠ some g
theorem PlO.grown {w W W' : World} {T : Nat} {O : Option Nat} {mv : Value} {q : List Int} (h : PlO w W T O mv q) (hb : Below W.heap.size W W') : PlO w W' T O mv q :=
  ⟨h.a.turn (Turn.of_below hb (S := fun _ => False)) id (fun _ _ => id), h.m.below hb, h.b.trans (hb.mono h.b.size), h.gT, h.gO, fun g hg => ⟨Nat.lt_of_lt_of_le (h.nm g hg).1 hb.size, (h.nm g hg).2⟩⟩
/-- the program's turn: the reference's bytes stay -/
theorem PlO.step {w W W1 : World} {T : Nat} {O O' : Option Nat} {mv : Value} {q q' : List Int} (h : PlO w W T O mv q) (ha : OutAt W1 T O' q') (ht : Turn (fun k => k = T ∨ O = some k) W W1) (hO : O' = O ∨ ∀ g, O' = some g → W.heap.size ≤ g) :
    OutAt W1 T O' q' ∧ Sl .u8 W1 mv q ∧ Below w.heap.size w W1 ∧ (∀ g, O' = some g → w.heap.size ≤ g) ∧ ∀ g, mv.ownBlock = some g → g < W1.heap.size ∧ g ≠ T ∧ O' ≠ some g := by
  have hs := h.b.size
  refine ⟨ha, h.m.turn ht (fun g hg e => e.elim (h.nm g hg).2.1 (h.nm g hg).2.2), ht.base h.b hs (fun k hk => hk.elim (fun e => by rw [e]; exact h.gT) (h.gO k)), ?_, fun g hg => ⟨Nat.lt_of_lt_of_le (h.nm g hg).1 ht.size, (h.nm g hg).2.1, ?_⟩⟩
  · rcases hO with rfl | hO
    · exact h.gO
    · intro g hg; have := hO g hg; omega
  · rcases hO with rfl | hO
    · exact (h.nm g hg).2.2
    · intro e; have := hO g e; have := (h.nm g hg).1; omega
/-- the reference's turn behind it -/
theorem PlO.ref {w W1 W2 : World} {T : Nat} {O' : Option Nat} {mv mv' : Value} {q q' : List Int} (hT : w.heap.size ≤ T) (h : OutAt W1 T O' q' ∧ Sl .u8 W1 mv q ∧ Below w.heap.size w W1 ∧ (∀ g, O' = some g → w.heap.size ≤ g) ∧ ∀ g, mv.ownBlock = some g → g < W1.heap.size ∧ g ≠ T ∧ O' ≠ some g)
    (hb : Below W1.heap.size W1 W2) (hm : Sl .u8 W2 mv' q') (hf : Fm W1 W2 mv mv') : PlO w W2 T O' mv' q' := by
  obtain ⟨ha, _, h3, h4, h5⟩ := h
  have hl := ha.lt
  have hs := hb.size
  refine ⟨ha.turn (Turn.of_below hb (S := fun _ => False)) id (fun _ _ => id), hm, h3.trans (hb.mono h3.size), hT, h4, fun g hg => ?_⟩
  rcases hf g hg with e | e
  · exact ⟨Nat.lt_of_lt_of_le (h5 g e).1 hs, (h5 g e).2⟩
  · exact ⟨e.2, fun e' => by have := hl.1; omega, fun e' => by have := hl.2 g e'; omega⟩
theorem pushL_le (q : List Int) (F : Fr) : (pushL q F).length ≤ q.length + 9 + F.pay.length := by
  unfold pushL
  split
  · rw [List.length_append, Fr.enc_length]; omega
  · omega
theorem fillL_le (n : Int) (c : Nat) : ∀ (fs : List Fr) (q : List Int), (∀ f ∈ fs, f.pay.length ≤ c) → (fillL n q fs).1.length ≤ q.length + fs.length * (9 + c)
  | [], q, _ => by simp [fillL]
  | f :: r, q, h => by
    rw [fillL]
    have h1 := h f List.mem_cons_self
    split
    · simp
    · split
      · have h2 := fillL_le n c r (q ++ f.enc) (fun x hx => h x (List.mem_cons_of_mem _ hx))
        rw [List.length_append, Fr.enc_length] at h2
        simp only [List.length_cons, Nat.add_mul, Nat.one_mul]
        omega
      · simp
theorem fits14_yes {ys : List A14} (h : fits14 ys = true) : ys.length ≤ 30 ∧ ∀ x ∈ ys, x.l.length ≤ 30 ∧ ∀ p ∈ x.l, p.1.pay.length ≤ 500 := by
  unfold fits14 okA at h
  simp only [Bool.and_eq_true, decide_eq_true_eq, List.all_eq_true] at h
  exact ⟨h.1, fun x hx => ⟨(h.2 x hx).1, fun p hp => (h.2 x hx).2 p hp⟩⟩
theorem SlF.one0 (w : World) : SlF (w.alloc (.cells #[.int .i64 0, .int .i64 0, .int .i64 0, .slice none 0 0] 40)) (.slice (some ⟨w.heap.size, 0, none⟩) 1 1) [(⟨0, 0, 0, []⟩, .slice none 0 0)] := by
  have h := heap_alloc_new w (.cells #[.int .i64 0, .int .i64 0, .int .i64 0, .slice none 0 0] 40)
  refine ⟨fun p hp => ?_, _, 1, rfl, by decide, by decide, .inr ⟨w.heap.size, 0, rfl, by simp, fun i p hip => ?_⟩⟩
  · obtain rfl := List.mem_singleton.1 hp
    exact Sl.nil _ _
  · match i, hip with
    | 0, hip =>
      cases hip
      exact ⟨blk_cell (j := 0) h rfl, blk_cell (j := 1) h rfl, blk_cell (j := 2) h rfl, blk_cell (j := 3) h rfl⟩
set_option maxHeartbeats 800000 in
theorem plays14_any (v : Value) (ys : List A14) (w : World) (h : SlA14 w v ys) :
    Calls Try.prog 3 #[v] w fun e w' => e = .returned (.bool true) ∧ Below w.heap.size w w' := by
  obtain ⟨a, c, rfl, hc1, hc2⟩ := h.1.shape
  unfold maxLen at hc2
  go_enter Try.func3, Try.ntmps3
  go_wp2_with fail
  refine (fits14_any _ ys _ h).mono ?_
  rintro e w1 ⟨rfl, rfl⟩
  cases hft : fits14 ys
  · go_wp2_with fail
    refine (alive14 _).mono ?_
    rintro e w2 ⟨rfl, hb2⟩
    have HB2 := Lib.hid hb2
    clear hb2
    go_wp2_with fail
    go_ret
    exact ⟨rfl, HB2.out⟩
  obtain ⟨hy30, hyx⟩ := fits14_yes hft
  have HFX := Lib.hid hyx
  obtain ⟨N, hN⟩ : ∃ N, ys.length = N := ⟨_, rfl⟩
  rw [hN] at h hc1 hy30 ⊢
  have HN := Lib.hid hN
  have HS := Lib.hid h
  clear hN h hft hyx
  go_wp2_with fail
  refine (pNew14 _).mono ?_
  rintro e w2 ⟨T, O, rfl, hT, hO, ha, hb2⟩
  have HP0 := Lib.hid (show PlO w1 w2 T O (.slice none 0 0) [] from ⟨ha, Sl.nil _ _, hb2, hT, hO, fun g hg => by cases hg⟩)
  clear hT hO ha hb2
  go_wp2_with fail
  go_loopg [5, 6] N (fun q s5 s6 wr => ∃ k : Nat, k + q = N ∧ s6 = .int .i64 k ∧ ∃ mv xs O, s5 = mv ∧ Hid (PlO w1 wr T O mv xs ∧ xs.length ≤ k * 15270))
  case atStart => exact ⟨0, by omega, rfl, _, [], O, rfl, Lib.hid ⟨HP0.out, by simp⟩⟩
  case round =>
    obtain ⟨k, hkq, rfl, mv, xs, O, rfl, HP⟩ := hrel
    have HKQ := Lib.hid hkq
    have hk : k ≤ N := by omega
    clear hkq HP0
    obtain ⟨am, cm, rfl, _⟩ := id HP.out.1.m
    have hxl := HP.out.2
    by_cases hlt : k < N
    · obtain ⟨x, hx⟩ : ∃ x, ys[k]? = some x := ⟨ys[k]'(by rw [HN.out]; exact hlt), List.getElem?_eq_getElem (by rw [HN.out]; exact hlt)⟩
      have hmem := List.mem_of_getElem? hx
      obtain ⟨hsf, hk0, hk1⟩ := HS.out.2 x hmem
      obtain ⟨hl30, hpl⟩ := HFX.out x hmem
      have HSX := Lib.hid hsf
      have HX := Lib.hid (And.intro (hsf.below HP.out.1.b) (And.intro hl30 hpl))
      obtain ⟨b, off, rfl, hbl, hcell⟩ := HS.out.1.at_ (i := k) (by rw [HN.out]; exact hlt)
      have c0 := hcell x hx 0 (by omega)
      have c1 := hcell x hx 1 (by omega)
      have c2 := hcell x hx 2 (by omega)
      simp only [a14C, List.getElem?_cons_succ, List.getElem?_cons_zero] at c0 c1 c2
      obtain ⟨_, al, cl, hlv, _⟩ := id hsf
      have HLV := Lib.hid hlv
      rw [hlv] at c2
      have d0 := (HP.out.1.b.cell (p := ⟨b, off + k * 3, none⟩) hbl).trans c0
      have d1 := (HP.out.1.b.cell (p := ⟨b, off + k * 3 + 1, none⟩) hbl).trans c1
      have d2 := (HP.out.1.b.cell (p := ⟨b, off + k * 3 + 2, none⟩) hbl).trans c2
      have hbl' := Nat.lt_of_lt_of_le hbl HP.out.1.b.size
      obtain ⟨W1, hW1⟩ : ∃ W1, wr.alloc (.cells #[.int .u8 x.k, .int .i64 x.n, .slice al x.l.length cl] 30) = W1 := ⟨_, rfl⟩
      have HB1 := Lib.hid (show Below wr.heap.size wr W1 ∧ W1.heap[wr.heap.size]? = some (.cells #[.int .u8 x.k, .int .i64 x.n, .slice al x.l.length cl] 30 (0, 0)) from by
        rw [← hW1]; exact ⟨(Below.refl _ _).alloc (Nat.le_refl _) _, heap_alloc_new wr _⟩)
      have HP1 := Lib.hid (HP.out.1.grown HB1.out.1)
      have e0 := blk_cell (j := 0) HB1.out.2 rfl
      have e1 := blk_cell (j := 1) HB1.out.2 rfl
      have e2 := blk_cell (j := 2) HB1.out.2 rfl
      have hsz : wr.heap.size < W1.heap.size := (Array.getElem?_eq_some_iff.1 HB1.out.2).1
      have HT := Lib.hid (show wr.heap.size ≠ T ∧ O ≠ some wr.heap.size from ⟨fun e => by have := HP.out.1.a.lt.1; omega, fun e => by have := HP.out.1.a.lt.2 _ e; omega⟩)
      clear c0 c1 c2 hcell hmem hx hsf hl30 hpl hlv hbl
      obtain ⟨b2, hb2⟩ : ∃ b2, (x.k % 4 == 2) = b2 := ⟨_, rfl⟩
      obtain ⟨b3, hb3⟩ : ∃ b3, (x.k % 4 == 3) = b3 := ⟨_, rfl⟩
      cases b2
      · cases b3
        · by_cases hM : x.l.length = 0
          · have dM : decide ((0 : Int) < (x.l.length : Int)) = false := decide_eq_false (by omega)
            have dN : decide (0 < x.l.length) = false := decide_eq_false (by omega)
            have hN0 : ¬ 0 < x.l.length := by omega
            clear hM
            go_wp2_with fail
            have HP2 := Lib.hid (HP1.out.grown ((Below.refl W1.heap.size W1).alloc (Nat.le_refl _) (.cells #[.int .i64 0, .int .i64 0, .int .i64 0, .slice none 0 0] 40)))
            refine (pPush14_any T O xs _ ⟨0, 0, 0, []⟩ _ HP2.out.a ⟨_, rfl, Sl.nil _ _⟩ (by omega) (by simp)).mono ?_
            rintro e w3 ⟨O3, rfl, ha3, ht3, ho3⟩
            have HG3 := Lib.hid (ht3.obj (heap_alloc_new W1 (.cells #[.int .i64 0, .int .i64 0, .int .i64 0, .slice none 0 0] 40)) (fun e => e.elim (fun e => by have := HP1.out.a.lt.1; omega) (fun e => by have := HP1.out.a.lt.2 _ e; omega)))
            have HM3 := Lib.hid (HP2.out.step ha3 ht3 ho3)
            clear ha3 ht3 ho3 e0 e1 e2 d0 d1 d2 hW1 hbl' hsz dM dN hN0
            have f0 := blk_cell (j := 0) HG3.out rfl
            have f1 := blk_cell (j := 1) HG3.out rfl
            have f2 := blk_cell (j := 2) HG3.out rfl
            have f3 := blk_cell (j := 3) HG3.out rfl
            go_wp2_with fail
            refine (refPush14_any _ _ xs ⟨0, 0, 0, []⟩ w3 HM3.out.2.1 ⟨_, rfl, Sl.nil _ _⟩ (by omega) (by simp)).mono ?_
            rintro e w4 ⟨m4, rfl, hm4, hb4, hf4⟩
            have HP4 := Lib.hid (PlO.ref HP.out.1.gT HM3.out hb4 hm4 hf4)
            have HL := Lib.hid (show (pushL xs ⟨0, 0, 0, []⟩).length ≤ (k + 1) * 15270 from by have := pushL_le xs ⟨0, 0, 0, []⟩; simp only [List.length_nil] at this; omega)
            clear hm4 hb4 hf4 f0 f1 f2 f3
            generalize pushL xs ⟨0, 0, 0, []⟩ = zs' at HP4 HL
            generalize pushE ⟨0, 0, 0, []⟩ = pe at HM3 ⊢
            have hcc : (pe != pe) = false := by simp
            obtain ⟨a4, c4, rfl, _⟩ := id HP4.out.m
            go_wp2_with fail
            refine (pLen14_any T _ _ _ HP4.out.a (by have := HL.out; omega)).mono ?_
            rintro e wz ⟨rfl, hbz⟩
            have HPz := Lib.hid (HP4.out.grown hbz)
            have hle : ((zs'.length : Int) != (zs'.length : Int)) = false := by simp
            clear hbz
            go_wp2_with fail
            go_roundg (N - (k + 1))
            case measure => have := HKQ.out; omega
            case rel => exact ⟨k + 1, by omega, by go_num, _, zs', _, rfl, Lib.hid ⟨HPz.out, HL.out⟩⟩
          · have dM : decide ((0 : Int) < (x.l.length : Int)) = true := decide_eq_true (by omega)
            have dN : decide (0 < x.l.length) = true := decide_eq_true (by omega)
            have hN0 : 0 < x.l.length := by omega
            obtain ⟨⟨F, pv⟩, hp0⟩ : ∃ p, x.l[0]? = some p := ⟨x.l[0], List.getElem?_eq_getElem hN0⟩
            obtain ⟨W2, hW2⟩ : ∃ W2, W1.alloc (.cells #[.int .i64 0, .int .i64 0, .int .i64 0, .slice none 0 0] 40) = W2 := ⟨_, rfl⟩
            obtain ⟨C, hC⟩ : ∃ C, W1.heap.size = C := ⟨_, rfl⟩
            have HB2 := Lib.hid (show Below W1.heap.size W1 W2 ∧ W2.heap[C]? = some (.cells #[.int .i64 0, .int .i64 0, .int .i64 0, .slice none 0 0] 40 (0, 0)) from by
              rw [← hW2, ← hC]; exact ⟨(Below.refl _ _).alloc (Nat.le_refl _) _, heap_alloc_new _ _⟩)
            obtain ⟨W3, hW3⟩ : ∃ W3, W2.setRow C #[.int .i64 0, .int .i64 0, .int .i64 0, .slice none 0 0] = W3 := ⟨_, rfl⟩
            have HB3 := Lib.hid (show Below W1.heap.size W1 W3 ∧ W3.heap[C]? = some (.cells #[.int .i64 0, .int .i64 0, .int .i64 0, .slice none 0 0] 40 (0, 0)) from by
              rw [← hW3]; exact ⟨below_setRow HB2.out.1 (by rw [hC]; exact Nat.le_refl _) _, setRow_heap _ _ _ _ _ _ HB2.out.2⟩)
            have hBw2 := HB1.out.1.trans (HB3.out.1.mono HB1.out.1.size)
            have hsx2 := HX.out.1.below hBw2
            rw [HLV.out] at hsx2
            obtain ⟨hfp, al', cl', hlv2, hl1, hl2, hl3⟩ := id hsx2
            simp only [Value.slice.injEq] at hlv2
            obtain ⟨rfl, -, rfl⟩ := hlv2
            rcases hl3 with ⟨h3, _⟩ | ⟨lb, lo, rfl, hlb, hlc⟩
            · exfalso; omega
            obtain ⟨ap, cp, hpv, _⟩ := id (hfp _ (List.mem_of_getElem? hp0))
            simp only at hpv
            subst hpv
            obtain ⟨x0, x1, x2, x3⟩ := hlc 0 _ hp0
            dsimp only at x0 x1 x2 x3
            simp only [Nat.zero_mul, Nat.add_zero] at x0 x1 x2 x3
            have y2 := blk_cell (j := 2) ((HB3.out.1.block _ hsz).trans HB1.out.2) rfl
            have y3 := Nat.lt_of_lt_of_le hsz HB3.out.1.size
            have hc3 := (Array.getElem?_eq_some_iff.1 HB3.out.2).1
            obtain ⟨W4, hW4⟩ : ∃ W4, W3.setRow C #[.int .i64 F.kind, .int .i64 F.flags, .int .i64 F.stream, .slice ap F.pay.length cp] = W4 := ⟨_, rfl⟩
            have HB4 := Lib.hid (show Below W1.heap.size W1 W4 ∧ W4.heap[C]? = some (.cells #[.int .i64 F.kind, .int .i64 F.flags, .int .i64 F.stream, .slice ap F.pay.length cp] 40 (0, 0)) from by
              rw [← hW4]; exact ⟨below_setRow HB3.out.1 (by rw [hC]; exact Nat.le_refl _) _, setRow_heap _ _ _ _ _ _ HB3.out.2⟩)
            have HPay := Lib.hid (show Sl .u8 W4 (.slice ap F.pay.length cp) F.pay ∧ F.pay.length ≤ 500 ∧ Sl .u8 w1 (.slice ap F.pay.length cp) F.pay from ⟨(HX.out.1.below (HB1.out.1.trans (HB4.out.1.mono HB1.out.1.size))).1 _ (List.mem_of_getElem? hp0), HX.out.2.2 _ (List.mem_of_getElem? hp0), HSX.out.1 _ (List.mem_of_getElem? hp0)⟩)
            have q0 := blk_cell (j := 0) HB4.out.2 rfl
            have q1 := blk_cell (j := 1) HB4.out.2 rfl
            have q2 := blk_cell (j := 2) HB4.out.2 rfl
            have q3 := blk_cell (j := 3) HB4.out.2 rfl
            have q4 := (Array.getElem?_eq_some_iff.1 HB4.out.2).1
            have HC := Lib.hid hC
            have HP4 := Lib.hid (HP1.out.grown HB4.out.1)
            have HTC := Lib.hid (show C ≠ T ∧ O ≠ some C from ⟨fun e => by have := HP1.out.a.lt.1; omega, fun e => by have := HP1.out.a.lt.2 _ e; omega⟩)
            clear hM hsx2 hfp hlc hl1 hl2 hBw2 hp0
            go_wp2_with (first
              | (refine store_fr13 rfl (.tmp 15) (.tmp 39) rfl C Fr.zero none 0 0 _ rfl rfl HB2.out.2 rfl ?_; simp only [Fr.zero])
              | (refine store_fr13 rfl (.tmp 15) (.tmp 47) rfl C F ap F.pay.length cp _ rfl rfl HB3.out.2 rfl ?_))
            refine (pPush14_any T O xs _ F _ HP4.out.a ⟨_, rfl, HPay.out.1⟩ (by omega) (by have := HPay.out.2.1; omega)).mono ?_
            rintro e w3 ⟨O3, rfl, ha3, ht3, ho3⟩
            have HG3 := Lib.hid (ht3.obj HB4.out.2 (fun e => e.elim HTC.out.1 HTC.out.2))
            have HM3 := Lib.hid (HP4.out.step ha3 ht3 ho3)
            have HPay3 := Lib.hid (show Sl .u8 w3 (.slice ap F.pay.length cp) F.pay from HPay.out.2.2.below HM3.out.2.2.1)
            clear ha3 ht3 ho3 e0 e1 e2 d0 d1 d2 hW1 hbl' hsz dM dN hN0 hW2 hW3 hW4 hC q0 q1 q2 q3 q4 x0 x1 x2 x3 y2 y3 hc3
            have f0 := blk_cell (j := 0) HG3.out rfl
            have f1 := blk_cell (j := 1) HG3.out rfl
            have f2 := blk_cell (j := 2) HG3.out rfl
            have f3 := blk_cell (j := 3) HG3.out rfl
            go_wp2_with fail
            refine (refPush14_any _ _ xs F w3 HM3.out.2.1 ⟨_, rfl, HPay3.out⟩ (by omega) (by have := HPay.out.2.1; omega)).mono ?_
            rintro e w4 ⟨m4, rfl, hm4, hb4, hf4⟩
            have HP4 := Lib.hid (PlO.ref HP.out.1.gT HM3.out hb4 hm4 hf4)
            have HL := Lib.hid (show (pushL xs F).length ≤ (k + 1) * 15270 from by have := pushL_le xs F; have := HPay.out.2.1; omega)
            clear hm4 hb4 hf4 f0 f1 f2 f3
            generalize pushL xs F = zs' at HP4 HL
            generalize pushE F = pe at HM3 ⊢
            have hcc : (pe != pe) = false := by simp
            obtain ⟨a4, c4, rfl, _⟩ := id HP4.out.m
            go_wp2_with fail
            refine (pLen14_any T _ _ _ HP4.out.a (by have := HL.out; omega)).mono ?_
            rintro e wz ⟨rfl, hbz⟩
            have HPz := Lib.hid (HP4.out.grown hbz)
            have hle : ((zs'.length : Int) != (zs'.length : Int)) = false := by simp
            clear hbz
            go_wp2_with fail
            go_roundg (N - (k + 1))
            case measure => have := HKQ.out; omega
            case rel => exact ⟨k + 1, by omega, by go_num, _, zs', _, rfl, Lib.hid ⟨HPz.out, HL.out⟩⟩
        · go_wp2_with fail
          refine (pFill14_any T O xs x.n _ x.l W1 HP1.out.a (fun w' ht => by rw [← HLV.out]; exact HSX.out.below (ht.base HP1.out.b HP1.out.b.size (fun k hk => hk.elim (fun e => by rw [e]; exact HP1.out.gT) (HP1.out.gO k)))) (by omega) (by have := HX.out.2.1; omega) (fun p hp => by have := HX.out.2.2 p hp; omega)).mono ?_
          rintro e w3 ⟨O3, rfl, ha3, ht3, ho3⟩
          have HG3 := Lib.hid (ht3.obj HB1.out.2 (fun e => e.elim HT.out.1 HT.out.2))
          have HM3 := Lib.hid (HP1.out.step ha3 ht3 ho3)
          have HF3 := Lib.hid (show SlF w3 (.slice al x.l.length cl) x.l from by rw [← HLV.out]; exact HSX.out.below HM3.out.2.2.1)
          clear ha3 ht3 ho3 e0 e1 e2 d0 d1 d2 hW1 hbl' hsz
          have e1 := blk_cell (j := 1) HG3.out rfl
          have e2 := blk_cell (j := 2) HG3.out rfl
          go_wp2_with fail
          refine (refFill14_any _ _ xs x.n x.l w3 HM3.out.2.1 HF3.out (by omega) (by have := HX.out.2.1; omega) (fun p hp => by have := HX.out.2.2 p hp; omega)).mono ?_
          rintro e w4 ⟨m4, rfl, hm4, hb4, hf4⟩
          have HP4 := Lib.hid (PlO.ref HP.out.1.gT HM3.out hb4 hm4 hf4)
          have HL := Lib.hid (show (fillL x.n xs (x.l.map (·.1))).1.length ≤ (k + 1) * 15270 from by
            have h1 := fillL_le x.n 500 (x.l.map (·.1)) xs (fun f hf => by obtain ⟨p, hp, rfl⟩ := List.mem_map.1 hf; exact HX.out.2.2 p hp)
            rw [List.length_map] at h1
            have := HX.out.2.1
            omega)
          clear hm4 hb4 hf4
          generalize (fillL x.n xs (x.l.map (·.1))).1 = zs' at HP4 HL
          generalize (fillL x.n xs (x.l.map (·.1))).2 = cnt at HM3 ⊢
          have hcc : ((cnt : Int) != (cnt : Int)) = false := by simp
          obtain ⟨a4, c4, rfl, _⟩ := id HP4.out.m
          go_wp2_with fail
          refine (pLen14_any T _ _ _ HP4.out.a (by have := HL.out; omega)).mono ?_
          rintro e wz ⟨rfl, hbz⟩
          have HPz := Lib.hid (HP4.out.grown hbz)
          have hle : ((zs'.length : Int) != (zs'.length : Int)) = false := by simp
          clear hbz
          go_wp2_with fail
          go_roundg (N - (k + 1))
          case measure => have := HKQ.out; omega
          case rel => exact ⟨k + 1, by omega, by go_num, _, zs', _, rfl, Lib.hid ⟨HPz.out, HL.out⟩⟩
      · have b3e : b3 = false := by
          rw [← hb3]; have := beq_iff_eq.1 hb2; rw [this]; rfl
        subst b3e
        go_wp2_with fail
        refine (pDrain14_any T O xs x.n W1 HP1.out.a (by omega)).mono ?_
        rintro e w3 ⟨v3, O3, rfl, hv3, ha3, ht3, ho3, _⟩
        have HG3 := Lib.hid (ht3.obj HB1.out.2 (fun e => e.elim HT.out.1 HT.out.2))
        have HM3 := Lib.hid (HP1.out.step ha3 ht3 ho3)
        obtain ⟨tk, htk⟩ : ∃ tk, xs.take (drainN x.n xs.length) = tk := ⟨_, rfl⟩
        have HTK := Lib.hid htk
        rw [htk] at hv3
        clear htk
        have HV3 := Lib.hid hv3
        obtain ⟨a3, c3, rfl, _⟩ := id hv3
        clear ha3 ht3 ho3 hv3 e0 e1 e2 d0 d1 d2 hW1 hbl' hsz
        have e1 := blk_cell (j := 1) HG3.out rfl
        go_wp2_with fail
        refine (refDrain14_any _ xs x.n w3 HM3.out.2.1).mono ?_
        rintro e w4 ⟨m5, m4, rfl, hm5, hm4, ⟨kd, rfl⟩, _, hf4⟩
        rw [HTK.out] at hm5
        have hb4 : Below w3.heap.size w3 (w3.drewN kd) := below_drewN (Below.refl _ _) kd
        have HP4 := Lib.hid (PlO.ref HP.out.1.gT HM3.out hb4 hm4 (fun g hg => (hf4 g hg).imp_right (fun e => ⟨e.1, Nat.lt_of_lt_of_le e.2 hb4.size⟩)))
        have HV4 := Lib.hid (And.intro (HV3.out.below hb4) hm5)
        have HL := Lib.hid (show (xs.drop (drainN x.n xs.length)).length ≤ (k + 1) * 15270 from by rw [List.length_drop]; omega)
        obtain ⟨a5, c5, rfl, _⟩ := id hm5
        generalize w3.drewN kd = w4 at HP4 HV4 ⊢
        clear hm4 hb4 hf4 hm5 e1
        generalize xs.drop (drainN x.n xs.length) = zs' at HP4 HL HM3
        obtain ⟨a4, c4, rfl, _⟩ := id HP4.out.m
        go_wp2_with fail
        refine (same_any _ _ tk tk w4 HV4.out.1 HV4.out.2).mono ?_
        rintro e w5 ⟨rfl, dn, rfl⟩
        rw [show decide (tk = tk) = true by simp]
        have HP5 := Lib.hid (HP4.out.grown (below_drewN (Below.refl _ _) dn))
        generalize w4.drewN dn = w5 at HP5 ⊢
        go_wp2_with fail
        refine (pLen14_any T _ _ _ HP5.out.a (by have := HL.out; omega)).mono ?_
        rintro e wz ⟨rfl, hbz⟩
        have HPz := Lib.hid (HP5.out.grown hbz)
        have hle : ((zs'.length : Int) != (zs'.length : Int)) = false := by simp
        clear hbz
        go_wp2_with fail
        go_roundg (N - (k + 1))
        case measure => have := HKQ.out; omega
        case rel => exact ⟨k + 1, by omega, by go_num, _, zs', _, rfl, Lib.hid ⟨HPz.out, HL.out⟩⟩
    · obtain rfl : k = N := by omega
      clear hlt hk
      go_wp2_with fail
      refine (alive14 _).mono ?_
      rintro e w3 ⟨rfl, hb3⟩
      have HB3 := Lib.hid (HP.out.1.b.trans (hb3.mono HP.out.1.b.size))
      clear hb3
      go_wp2_with fail
      refine (pPush14_nil _ ⟨0, 0, 0, []⟩ _ ⟨_, rfl, Sl.nil _ _⟩).mono ?_
      rintro e w4 ⟨rfl, hb4⟩
      have HB4 := Lib.hid (HB3.out.trans (hb4.mono HB3.out.size))
      clear hb4
      go_wp2_with fail
      refine (pDrain14_nil 9 _).mono ?_
      rintro e w5 ⟨v5, rfl, hv5, hb5⟩
      have HB5 := Lib.hid (HB4.out.trans (hb5.mono HB4.out.size))
      obtain ⟨a5, c5, rfl, _⟩ := id hv5
      clear hb5 hv5
      go_wp2_with fail
      have HB6 := Lib.hid (HB5.out.alloc HB5.out.size (.cells #[.int .i64 0, .int .i64 0, .int .i64 0, .slice none 0 0] 40))
      refine (pFill14_nil 9 _ [(⟨0, 0, 0, []⟩, .slice none 0 0)] _ (SlF.one0 w5)).mono ?_
      rintro e w7 ⟨rfl, hb7⟩
      have HB7 := Lib.hid (HB6.out.trans (hb7.mono HB6.out.size))
      clear hb7
      go_wp2_with fail
      refine (pLen14_nil _).mono ?_
      rintro e w8 ⟨rfl, hb8⟩
      have HB8 := Lib.hid (HB7.out.trans (hb8.mono HB7.out.size))
      clear hb8
      go_wp2_with fail
      go_ret
      exact ⟨rfl, HB8.out⟩
end Go.Proofs.Ytfdkbaekohaaoaa
