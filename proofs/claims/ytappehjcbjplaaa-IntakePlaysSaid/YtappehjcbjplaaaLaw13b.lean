
/-
  Layer 13: the law IntakePlays.
-/
import Derived.Test.YtappehjcbjplaaaLaw13
import Derived.Test.YtappehjcbjplaaaInkRef3
import Derived.Test.YtappehjcbjplaaaRef02
import Derived.Test.YtappehjcbjplaaaRowKit
import Derived.Deep.LoopGhost
import Derived.WalkMore
namespace Go.Proofs.Ytappehjcbjplaaa
set_option maxRecDepth 20000
open Go.RowKit

/-- a chunk: its bytes, the value that has them, how many frames are asked -/
structure Ck where
  b : List Int
  bv : Value
  n : Int
def ckC (x : Ck) : List Value := [x.bv, .int .u8 x.n]
theorem ckC_len (x : Ck) : (ckC x).length = 2 := rfl
/-- the value 'v' is a slice that reads as these chunks -/
def SlK (w : World) (v : Value) (cs : List Ck) : Prop := SlC ckC 2 w v cs ∧ ∀ x ∈ cs, Sl .u8 w x.bv x.b ∧ 0 ≤ x.n ∧ x.n ≤ 255
theorem SlK.below {w w' : World} {v : Value} {cs : List Ck} (h : SlK w v cs) (hb : Below w.heap.size w w') : SlK w' v cs := ⟨h.1.below hb, fun x hx => ⟨(h.2 x hx).1.below hb, (h.2 x hx).2⟩⟩
theorem RkAt.turn {W W' : World} {R N : Nat} {Q : Option Nat} {s : Ik} {S : Nat → Prop} (h : RkAt W R Q N s) (ht : Turn S W W') (h1 : ¬ S R) (h2 : ∀ g, Q = some g → ¬ S g) : RkAt W' R Q N s := by
  obtain ⟨bv, bs, told, h3, h4, h5, h6, h7⟩ := h
  exact ⟨bv, bs, told, ht.obj h3 h1, h4.turn ht (fun g hg => h2 g (by rw [← h7]; exact hg)), h5, h6, h7⟩
theorem feedI_most (s : Ik) (b : List Int) : (feedI s b).most = s.most := by
  unfold feedI
  split; rfl
  split; rfl
  split; rfl
  split <;> rfl
/-- the two, apart -/
structure PlW (w W : World) (T : Nat) (O : Option Nat) (R : Nat) (Q : Option Nat) (n : Nat) (s : Ik) : Prop where
  a : InAt W T O n s
  m : RkAt W R Q n s
  b : Below w.heap.size w W
  gT : w.heap.size ≤ T
  gR : w.heap.size ≤ R
  gO : ∀ g, O = some g → w.heap.size ≤ g
  gQ : ∀ g, Q = some g → w.heap.size ≤ g
  nTR : T ≠ R
  nOR : O ≠ some R
  nQT : Q ≠ some T
  nOQ : ∀ g, O = some g → Q ≠ some g
  lQ : ∀ g, Q = some g → g < W.heap.size
theorem PlW.grown {w W W' : World} {T R n : Nat} {O Q : Option Nat} {s : Ik} (h : PlW w W T O R Q n s) (hb : Below W.heap.size W W') : PlW w W' T O R Q n s :=
  ⟨h.a.turn (Turn.of_below hb (S := fun _ => False)) id (fun _ _ => id), h.m.below hb, h.b.trans (hb.mono h.b.size), h.gT, h.gR, h.gO, h.gQ, h.nTR, h.nOR, h.nQT, h.nOQ, fun g hg => Nat.lt_of_lt_of_le (h.lQ g hg) hb.size⟩
/-- the program's turn, then the reference's -/
theorem PlW.both {w W W1 W2 : World} {T R n n' : Nat} {O Q O' Q' : Option Nat} {s s' : Ik} (h : PlW w W T O R Q n s) (ha : InAt W1 T O' n' s') (ht : Turn (fun k => k = T ∨ O = some k) W W1) (hO : O' = O ∨ ∀ g, O' = some g → W.heap.size ≤ g)
    (hm : RkAt W2 R Q' n' s') (hg : W1.grownBy W2 (some R)) (hQ : Q' = Q ∨ ∀ g, Q' = some g → W1.heap.size ≤ g ∧ g < W2.heap.size) : PlW w W2 T O' R Q' n' s' := by
  have hs := h.b.size
  have hlt := h.a.lt
  have hla := ha.lt
  have hRl := h.m.lt
  have hO'R : O' ≠ some R := by
    rcases hO with rfl | hO
    · exact h.nOR
    · intro e; have := hO R e; omega
  have hgO' : ∀ g, O' = some g → w.heap.size ≤ g := by
    rcases hO with rfl | hO
    · exact h.gO
    · intro g hg'; have := hO g hg'; omega
  have hgQ' : ∀ g, Q' = some g → w.heap.size ≤ g := by
    rcases hQ with rfl | hQ
    · exact h.gQ
    · intro g hg'; have := (hQ g hg').1; have := ht.size; omega
  have h1 : Below w.heap.size w W1 := ht.base h.b hs (fun k hk => by
    rcases hk with rfl | hk
    · exact h.gT
    · exact h.gO k hk)
  refine ⟨ha.turn (Turn.of_grown hg) h.nTR (fun g hg' e => hO'R (by rw [hg', e])), hm, (Turn.of_grown hg).base h1 h1.size (fun k hk => by rw [hk]; exact h.gR), h.gT, h.gR, hgO', hgQ', h.nTR, hO'R, ?_, ?_, ?_⟩
  · rcases hQ with rfl | hQ
    · exact h.nQT
    · intro e; have := (hQ T e).1; have := hla.1; omega
  · intro g hg'
    rcases hQ with rfl | hQ
    · rcases hO with rfl | hO
      · exact h.nOQ g hg'
      · intro e; have := hO g hg'; have := h.lQ g e; omega
    · intro e; have := (hQ g e).1; have := hla.2 g hg'; omega
  · intro g hg'
    rcases hQ with rfl | hQ
    · have := h.lQ g hg'; have := ht.size; have := hg.size; omega
    · exact (hQ g hg').2
/-- the reference stays while the program turns -/
theorem PlW.keepM {w W W1 : World} {T R n : Nat} {O Q : Option Nat} {s : Ik} (h : PlW w W T O R Q n s) (ht : Turn (fun k => k = T ∨ O = some k) W W1) : RkAt W1 R Q n s :=
  h.m.turn ht (fun e => by rcases e with e | e; exact h.nTR e.symm; exact h.nOR e) (fun g hg e => by rcases e with e | e; exact h.nQT (by rw [hg, e]); exact h.nOQ g e hg)

set_option maxHeartbeats 8000000 in
theorem plays13_any (most : Int) (v : Value) (cs : List Ck) (w : World) (h : SlK w v cs) :
    Calls Try.prog 3 #[.int .i64 most, v] w fun e w' => e = .returned (.bool true) ∧ Below w.heap.size w w' := by
  obtain ⟨a, c, rfl, hc1, hc2⟩ := h.1.shape
  unfold maxLen at hc2
  obtain ⟨N, hN⟩ : ∃ N, cs.length = N := ⟨_, rfl⟩
  rw [hN] at h hc1 ⊢
  have HN := Lib.hid hN
  have HS := Lib.hid h
  clear hN h
  by_cases h40 : 40 < N
  · have d0 : decide ((40 : Int) < (N : Int)) = true := decide_eq_true (by omega)
    clear h40
    go_enter Try.func3, Try.ntmps3
    go_wp2_with fail
    refine (alive13 _).mono ?_
    rintro e w1 ⟨rfl, hb1⟩
    have HB1 := Lib.hid hb1
    clear hb1
    go_wp2_with fail
    go_ret
    exact ⟨rfl, HB1.out⟩
  have d0 : decide ((40 : Int) < (N : Int)) = false := decide_eq_false (by omega)
  by_cases hm : most < 16384 ∨ 16777215 < most
  · obtain ⟨b1, e1⟩ : ∃ b, decide (most < 16384) = b := ⟨_, rfl⟩
    obtain ⟨b2, e2⟩ : ∃ b, decide (16777215 < most) = b := ⟨_, rfl⟩
    have HM := Lib.hid hm
    have HT := Lib.hid (show b1 = true ∨ b2 = true by rw [← e1, ← e2]; simpa using hm)
    clear hm h40
    cases b1 <;> cases b2
    · exact absurd HT.out (by decide)
    all_goals
      go_enter Try.func3, Try.ntmps3
      go_wp2_with fail
      refine (pNew_no most _ HM.out).mono ?_
      rintro e w1 ⟨rfl, hb1⟩
      have HB1 := Lib.hid hb1
      clear hb1
      go_wp2_with fail
      refine (alive13 _).mono ?_
      rintro e w2 ⟨rfl, hb2⟩
      have HB2 := Lib.hid (HB1.out.trans (hb2.mono HB1.out.size))
      clear hb2
      go_wp2_with fail
      go_ret
      exact ⟨rfl, HB2.out⟩
  have d1 : decide (most < 16384) = false := decide_eq_false (by omega)
  have d2 : decide (16777215 < most) = false := decide_eq_false (by omega)
  have HM := Lib.hid (show 16384 ≤ most ∧ most ≤ 16777215 by omega)
  clear hm
  go_enter Try.func3, Try.ntmps3
  go_wp2_with fail
  refine (pNew_yes most _ HM.out.1 HM.out.2).mono ?_
  rintro e w1 ⟨T, O, rfl, hT, hO, ha, hb1⟩
  have HA := Lib.hid (And.intro hT (And.intro hO (And.intro ha hb1)))
  clear hT hO ha hb1
  go_wp2_with fail
  refine (refBegin_any most _).mono ?_
  rintro e w2 ⟨rfl, hr, hb2⟩
  obtain ⟨R, hR⟩ : ∃ R, w1.heap.size = R := ⟨_, rfl⟩
  rw [hR] at hr ⊢
  have HW := Lib.hid (show PlW w w2 T O R none 0 (Ik.new most) from by
    obtain ⟨hT, hO, ha, hb1⟩ := HA.out
    have hl := ha.lt
    have hs := hb1.size
    refine ⟨ha.turn (Turn.of_below hb2 (S := fun _ => False)) id (fun _ _ => id), hr, hb1.trans (hb2.mono hs), hT, by omega, hO, fun g e => (by cases e), by omega, fun e => (by have := hl.2 R e; omega), fun e => (by cases e), fun _ _ e => (by cases e), fun g e => (by cases e)⟩)
  clear hr hb2 hR HA
  go_wp2_with fail
  go_loopg [8, 9, 10, 11, 12, 13, 14] N (fun q s8 s9 s10 s11 s12 s13 s14 wr => ∃ k : Nat, k + q = N ∧ s8 = .int .i64 k ∧ ∃ O Q s n, Hid (PlW w wr T O R Q n s ∧ s.most = most ∧ n ≤ k * 2000))
  case atStart => exact ⟨0, by omega, rfl, O, none, _, 0, Lib.hid ⟨HW.out, rfl, Nat.zero_le _⟩⟩
  case round =>
    obtain ⟨k, hkq, rfl, O, Q, s, n0, HP⟩ := hrel
    have hn0b := HP.out.2.2
    have HKQ := Lib.hid hkq
    have hk : k ≤ N := by omega
    clear hkq HW
    by_cases hlt : k < N
    · obtain ⟨x, hx⟩ : ∃ x, cs[k]? = some x := ⟨cs[k]'(by rw [HN.out]; exact hlt), List.getElem?_eq_getElem (by rw [HN.out]; exact hlt)⟩
      have hmem := List.mem_of_getElem? hx
      obtain ⟨hsx, hn0, hn1⟩ := HS.out.2 x hmem
      have HX := Lib.hid (And.intro hsx (And.intro hn0 hn1))
      obtain ⟨b, off, rfl, hbl, hcell⟩ := HS.out.1.at_ (i := k) (by rw [HN.out]; exact hlt)
      have HC := Lib.hid (show w.cell? ⟨b, off + k * 2, none⟩ = some x.bv ∧ w.cell? ⟨b, off + k * 2 + 1, none⟩ = some (.int .u8 x.n) ∧ b < w.heap.size from ⟨hcell x hx 0 (by omega), hcell x hx 1 (by omega), hbl⟩)
      have cellB := fun (W' : World) (hB : Below w.heap.size w W') => (show W'.cell? ⟨b, off + k * 2, none⟩ = some x.bv ∧ W'.cell? ⟨b, off + k * 2 + 1, none⟩ = some (.int .u8 x.n) ∧ b < W'.heap.size from ⟨(hB.cell (p := ⟨b, off + k * 2, none⟩) hbl).trans HC.out.1, (hB.cell (p := ⟨b, off + k * 2 + 1, none⟩) hbl).trans HC.out.2.1, Nat.lt_of_lt_of_le hbl hB.size⟩)
      have HCB := Lib.hid cellB
      obtain ⟨ab, cb, hbv, _⟩ := id hsx
      have HBV := Lib.hid hbv
      clear cellB hcell hbl hmem hx hsx hbv
      obtain ⟨c0, c1, cz⟩ := HCB.out wr HP.out.1.b
      rw [HBV.out] at c0
      by_cases h2000 : 2000 < x.b.length
      · have d3 : decide ((2000 : Int) < (x.b.length : Int)) = true := decide_eq_true (by omega)
        clear h2000 hn0 hn1
        go_wp2_with fail
        refine (alive13 _).mono ?_
        rintro e w3 ⟨rfl, hb3⟩
        have HB3 := Lib.hid (HP.out.1.b.trans (hb3.mono HP.out.1.b.size))
        clear hb3
        go_wp2_with fail
        go_ret
        exact ⟨rfl, HB3.out⟩
      · have d3 : decide ((2000 : Int) < (x.b.length : Int)) = false := decide_eq_false (by omega)
        have HL := Lib.hid (show x.b.length ≤ 2000 by omega)
        clear h2000
        go_wp2_with fail
        refine (pFeed_any T _ O s _ x.b wr HP.out.1.a (by rw [← HBV.out]; exact HX.out.1.below HP.out.1.b) (by have := HL.out; omega)).mono ?_
        rintro e w3 ⟨rfl, O3, ha3, ht3, ho3⟩
        have hB3 : Below w.heap.size w w3 := ht3.base HP.out.1.b HP.out.1.b.size (fun g hg => by rcases hg with rfl | hg; exact HP.out.1.gT; exact HP.out.1.gO g hg)
        have HA3 := Lib.hid (And.intro ha3 (And.intro ht3 (And.intro ho3 hB3)))
        clear c0 c1 cz ha3 ht3 ho3
        obtain ⟨c0, c1, cz⟩ := HCB.out w3 hB3
        rw [HBV.out] at c0
        clear hB3
        go_wp2_with fail
        refine (refFeed13_any R _ Q s _ x.b w3 (HP.out.1.keepM HA3.out.2.1) (by rw [← HBV.out]; exact HX.out.1.below HA3.out.2.2.2) (by have := HL.out; omega)).mono ?_
        rintro e w4 ⟨rfl, ⟨Q4, hm4, hq4⟩, hg4⟩
        have HP4 := Lib.hid (show PlW w w4 T O3 R Q4 (n0 + x.b.length) (feedI s x.b) ∧ (feedI s x.b).most = most from ⟨HP.out.1.both HA3.out.1 HA3.out.2.1 HA3.out.2.2.1 hm4 hg4 hq4, by rw [feedI_most]; exact HP.out.2.1⟩)
        clear c0 c1 cz hm4 hq4 hg4 HA3
        generalize feedI s x.b = s4 at HP4
        obtain ⟨n4, hn4⟩ : ∃ n4, n0 + x.b.length = n4 := ⟨_, rfl⟩
        rw [hn4] at HP4
        have HN4 := Lib.hid (show n4 ≤ (k + 1) * 2000 by have := HL.out; omega)
        clear hn4 HP
        obtain ⟨A, hA⟩ : ∃ A : Nat, x.n % 8 = (A : Int) := ⟨(x.n % 8).toNat, by omega⟩
        have hA8 : A < 8 := by omega
        have HAm := Lib.hid hA
        go_wp2_with fail
        go_loopg [9, 10, 11, 12, 13, 14] A (fun q s9 s10 s11 s12 s13 s14 w5 => ∃ j : Nat, j + q = A ∧ s9 = .int .i64 j ∧ ∃ O Q s5, Hid (PlW w w5 T O R Q n4 s5 ∧ s5.most = most))
        case atStart => exact ⟨0, by omega, rfl, O3, Q4, s4, HP4⟩
        case round =>
          obtain ⟨j, hjq, rfl, O5, Q5, s5, HP5⟩ := hrel
          have HJQ := Lib.hid hjq
          have hj : j ≤ A := by omega
          clear hjq HP4
          obtain ⟨c0, c1, cz⟩ := HCB.out _ HP5.out.1.b
          by_cases hlj : j < A
          · have hn4b : n4 ≤ 10000000 := by have := HN4.out; omega
            go_wp2_with fail
            refine (pNext_any T _ O5 s5 _ HP5.out.1.a hn4b).mono ?_
            rintro e w6 ⟨fv, O6, rfl, ⟨pv, rfl, hpv, hfr⟩, ha6, ht6, ho6⟩
            obtain ⟨F, hF⟩ : ∃ F, nextIF s5 = F := ⟨_, rfl⟩
            obtain ⟨E, hE⟩ : ∃ E, nextIE s5 = E := ⟨_, rfl⟩
            rw [hF] at hpv ⊢
            rw [hE]
            have HFE := Lib.hid (And.intro hF hE)
            obtain ⟨ap, cp, rfl, _⟩ := id hpv
            obtain ⟨C1, hC1⟩ : ∃ C, w6.heap.size = C := ⟨_, rfl⟩
            obtain ⟨W6, hW6⟩ : ∃ W, w6.alloc (.cells #[.int .i64 F.kind, .int .i64 F.flags, .int .i64 F.stream, .slice ap F.pay.length cp] 36) = W := ⟨_, rfl⟩
            have HA6 := Lib.hid (show InAt W6 T O6 n4 (nextIS s5) ∧ Turn (fun g => g = T ∨ O5 = some g) wr W6 ∧ (O6 = O5 ∨ ∀ g, O6 = some g → wr.heap.size ≤ g) ∧ Sl .u8 W6 (.slice ap F.pay.length cp) F.pay ∧ W6.heap[C1]? = some (.cells #[.int .i64 F.kind, .int .i64 F.flags, .int .i64 F.stream, .slice ap F.pay.length cp] 36 (0, 0)) ∧ R < C1 ∧ (∀ g, (Value.slice ap F.pay.length cp).ownBlock = some g → g ≠ R) ∧ Below w.heap.size w W6 from by
              have hal : Below w6.heap.size w6 W6 := by rw [← hW6]; exact (Below.refl _ _).alloc (Nat.le_refl _) _
              have hRl := HP5.out.1.m.lt
              have hts := ht6.size
              have ht := Turn.trans ht6 (Turn.of_below hal)
              refine ⟨ha6.turn (Turn.of_below hal (S := fun _ => False)) id (fun _ _ => id), ht, ho6, hpv.below hal, by rw [← hW6, ← hC1]; exact heap_alloc_new _ _, by omega, fun g hg e => by have := (hfr g hg).1; omega, ht.base HP5.out.1.b HP5.out.1.b.size (fun g hg => by rcases hg with rfl | hg; exact HP5.out.1.gT; exact HP5.out.1.gO g hg)⟩)
            clear hpv hfr ha6 ht6 ho6 hF hE c0 c1 cz
            go_wp2_with fail
            refine (refNext13_any R n4 Q5 s5 W6 (HP5.out.1.keepM HA6.out.2.1) (by omega)).mono ?_
            rintro e w7 ⟨fv2, rfl, hfv2, hm7, hg7⟩
            rw [HFE.out.2]
            rw [HFE.out.1] at hfv2
            obtain ⟨pv2, rfl, hpv2⟩ := hfv2
            obtain ⟨ap2, cp2, rfl, _⟩ := id hpv2
            clear hW6 hC1
            obtain ⟨C2, hC2⟩ : ∃ C, w7.heap.size = C := ⟨_, rfl⟩
            obtain ⟨W7, hW7⟩ : ∃ W, w7.alloc (.cells #[.int .i64 F.kind, .int .i64 F.flags, .int .i64 F.stream, .slice ap2 F.pay.length cp2] 36) = W := ⟨_, rfl⟩
            have HP7 := Lib.hid (show (PlW w W7 T O6 R Q5 n4 (nextIS s5) ∧ (nextIS s5).most = most) ∧ W7.heap[C1]? = some (.cells #[.int .i64 F.kind, .int .i64 F.flags, .int .i64 F.stream, .slice ap F.pay.length cp] 36 (0, 0)) ∧ W7.heap[C2]? = some (.cells #[.int .i64 F.kind, .int .i64 F.flags, .int .i64 F.stream, .slice ap2 F.pay.length cp2] 36 (0, 0)) ∧ FrV W7 (.agg #[.int .i64 F.kind, .int .i64 F.flags, .int .i64 F.stream, .slice ap F.pay.length cp]) F ∧ FrV W7 (.agg #[.int .i64 F.kind, .int .i64 F.flags, .int .i64 F.stream, .slice ap2 F.pay.length cp2]) F from by
              have hal : Below w7.heap.size w7 W7 := by rw [← hW7]; exact (Below.refl _ _).alloc (Nat.le_refl _) _
              obtain ⟨a1, a2, a3, a4, a5, a6, a7, _⟩ := HA6.out
              have hb := (HP5.out.1.both a1 a2 a3 hm7 hg7 (.inl rfl)).grown hal
              have hc1 := (Turn.of_grown hg7).obj a5 (by omega)
              refine ⟨⟨hb, by rw [nextIS_most]; exact HP5.out.2⟩, (hal.block _ (Array.getElem?_eq_some_iff.1 hc1).1).trans hc1, by rw [← hW7, ← hC2]; exact heap_alloc_new _ _, ⟨_, rfl, (a4.turn (Turn.of_grown hg7) a7).below hal⟩, ⟨_, rfl, hpv2.below hal⟩⟩)
            clear hpv2 hm7 hg7
            have q0 := blk_cell (j := 0) HP7.out.2.1 rfl
            have q1 := blk_cell (j := 1) HP7.out.2.1 rfl
            have q2 := blk_cell (j := 2) HP7.out.2.1 rfl
            have q3 := blk_cell (j := 3) HP7.out.2.1 rfl
            have q4 := (Array.getElem?_eq_some_iff.1 HP7.out.2.1).1
            have r0 := blk_cell (j := 0) HP7.out.2.2.1 rfl
            have r1 := blk_cell (j := 1) HP7.out.2.2.1 rfl
            have r2 := blk_cell (j := 2) HP7.out.2.2.1 rfl
            have r3 := blk_cell (j := 3) HP7.out.2.2.1 rfl
            have r4 := (Array.getElem?_eq_some_iff.1 HP7.out.2.2.1).1
            go_wp2_with fail
            refine (refSame_frame _ _ F F W7 HP7.out.2.2.2.1 HP7.out.2.2.2.2).mono ?_
            rintro e w8 ⟨rfl, hb8⟩
            rw [show decide (F = F) = true by simp]
            have HP8 := Lib.hid (show PlW w w8 T O6 R Q5 n4 (nextIS s5) ∧ (nextIS s5).most = most from ⟨HP7.out.1.1.grown hb8, HP7.out.1.2⟩)
            have hEE : (E != E) = false := by simp
            clear q0 q1 q2 q3 q4 r0 r1 r2 r3 r4 hb8 hW7 hC2
            go_wp2_with fail
            go_roundg (A - (j + 1))
            case measure => have := HJQ.out; omega
            case rel => exact ⟨j + 1, by omega, by go_num, O6, Q5, _, HP8⟩
          · obtain rfl : j = A := by omega
            have hbe : (s5.begun != s5.begun) = false := by simp
            have hle : ((s5.got.length : Int) != (s5.got.length : Int)) = false := by simp
            have hn4b : n4 ≤ 10000000 := by have := HN4.out; omega
            clear hlj
            go_wp2_with fail
            refine (pBegun_any T _ O5 s5 _ HP5.out.1.a).mono ?_
            rintro e w6 ⟨rfl, hb6⟩
            have HP6 := Lib.hid (HP5.out.1.grown hb6)
            clear hb6 c0 c1 cz
            go_wp2_with fail
            refine (refBegun_any R _ Q5 s5 w6 HP6.out.m).mono ?_
            rintro e w7 ⟨rfl, hb7⟩
            have HP7 := Lib.hid (HP6.out.grown hb7)
            clear hb7 HP6
            go_wp2_with fail
            refine (pLen_any T _ O5 s5 w7 HP7.out.a).mono ?_
            rintro e w8 ⟨rfl, hb8⟩
            have HP8 := Lib.hid (HP7.out.grown hb8)
            clear hb8 HP7
            go_wp2_with fail
            refine (refLen13_any R _ Q5 s5 w8 HP8.out.m (by omega)).mono ?_
            rintro e w9 ⟨rfl, hb9⟩
            have HP9 := Lib.hid (show PlW w w9 T O5 R Q5 n4 s5 ∧ s5.most = most ∧ n4 ≤ (k + 1) * 2000 from ⟨HP8.out.grown hb9, HP5.out.2, HN4.out⟩)
            clear hb9 HP8
            go_wp2_with fail
            go_roundg (N - (k + 1))
            case measure => have := HKQ.out; omega
            case rel => exact ⟨k + 1, by omega, by go_num, O5, Q5, _, n4, HP9⟩
    · obtain rfl : k = N := by omega
      have HB0 := Lib.hid HP.out.1.b
      clear hlt hk hn0b
      go_wp2_with fail
      refine (pFeed_nil _ [] _ (Sl.nil _ _)).mono ?_
      rintro e w3 ⟨rfl, hb3⟩
      have HB3 := Lib.hid (HB0.out.trans (hb3.mono HB0.out.size))
      clear hb3
      go_wp2_with fail
      refine (pNext_nil w3).mono ?_
      rintro e w4 ⟨fv, rfl, ⟨pv, rfl, hpv⟩, hb4⟩
      obtain ⟨ap, cp, rfl, _⟩ := id hpv
      have HB4 := Lib.hid (HB3.out.trans (hb4.mono HB3.out.size))
      clear hb4 hpv
      go_wp2_with fail
      refine (alive13 _).mono ?_
      rintro e w5 ⟨rfl, hb5⟩
      have HB5 := Lib.hid ((HB4.out.alloc HB4.out.size _).trans (hb5.mono (by have := HB4.out.size; simp; omega)))
      clear hb5
      go_wp2_with fail
      refine (pBegun_nil w5).mono ?_
      rintro e w6 ⟨rfl, hb6⟩
      have HB6 := Lib.hid (HB5.out.trans (hb6.mono HB5.out.size))
      clear hb6
      go_wp2_with fail
      refine (pLen_nil w6).mono ?_
      rintro e w7 ⟨rfl, hb7⟩
      have HB7 := Lib.hid (HB6.out.trans (hb7.mono HB6.out.size))
      clear hb7
      go_wp2_with fail
      go_ret
      exact ⟨rfl, HB7.out⟩
end Go.Proofs.Ytappehjcbjplaaa
