
/-
  Layer 13's intake: begin, Feed.
-/
import Derived.Test.YtappehjcbjplaaaInkTell
import Derived.Test.YtappehjcbjplaaaStr
import Derived.Test.YtappehjcbjplaaaBytes
import Derived.WalkMore
namespace Go.Proofs.Ytappehjcbjplaaa
set_option maxRecDepth 20000
open Go.RowKit

/-- the preface as a text -/
def preB : ByteArray := ⟨#[80, 82, 73, 32, 42, 32, 72, 84, 84, 80, 47, 50, 46, 48, 13, 10, 13, 10, 83, 77, 13, 10, 13, 10]⟩
theorem preB_size : preB.size = 24 := by decide +kernel
theorem preB_cut (q : Nat) : preB.extract 0 q = strOfNums (preL.take q) := by
  have hn : nums preB = preL := by decide +kernel
  have e : nums (preB.extract 0 q) = preL.take q := by
    rw [← hn]
    show List.map _ (preB.extract 0 q).data.toList = List.take q (List.map _ preB.data.toList)
    rw [ByteArray.data_extract, Array.toList_extract, ← List.map_take]
    simp [List.extract_eq_take_drop]
  rw [← e, str_nums]
theorem wrong_is {cs : List Int} (hf : Fit .u8 cs) (q : Nat) (hq : q = min cs.length 24) : (!((strOfNums (cs.take q)).toList == (strOfNums (preL.take q)).toList)) = wrongL cs := by
  rw [strOfNums_beq (hf.take q) (preL_fit.take q)]
  have h1 : (cs.take q = preL.take q) ↔ (cs.take 24 = preL.take cs.length) := by
    by_cases hl : 24 ≤ cs.length
    · obtain rfl : q = 24 := by omega
      rw [List.take_of_length_le (l := preL) (i := 24) (by rw [preL_length]; omega), List.take_of_length_le (l := preL) (i := cs.length) (by rw [preL_length]; exact hl)]
    · obtain rfl : q = cs.length := by omega
      rw [List.take_of_length_le (l := cs) (i := 24) (by omega), List.take_of_length_le (l := cs) (i := cs.length) (Nat.le_refl _)]
  unfold wrongL
  rw [decide_eq_decide.2 h1]

set_option maxHeartbeats 4000000 in
theorem begin_obj {T : Nat} {most : Int} {cv : Value} {cs : List Int} (w : World) (h : IkObj w T most false cv cs 0 0) (hl : cs.length ≤ 100000000) :
    Calls Try.prog 22 #[.pointer (some ⟨T, 0, none⟩)] w fun e w' => e = .returned (.tuple #[]) ∧ Turn (fun k => k = T) w w' ∧
      ((wrongL cs = true ∧ IkObj w' T most false (.slice none 0 0) [] 0 3) ∨
       (wrongL cs = false ∧ cs.length < 24 ∧ IkObj w' T most false cv cs 0 0) ∨
       (wrongL cs = false ∧ 24 ≤ cs.length ∧ ∃ cv' cs' told', IkObj w' T most true cv' cs' told' 0 ∧ cs'.drop told' = cs.drop 24 ∧ 2 * told' ≤ cs'.length ∧ (cv'.ownBlock = cv.ownBlock ∨ cv'.ownBlock = none))) := by
  obtain ⟨q, hq⟩ : ∃ q, q = min cs.length 24 := ⟨_, rfl⟩
  have HW := Lib.hid (wrong_is h.came.sl.fit q hq)
  have HQ := Lib.hid hq
  obtain ⟨f0, f1, f2, f3, f4, f5⟩ := h.blk.cells
  have HH := Lib.hid h
  obtain ⟨L, hL⟩ : ∃ L, cs.length = L := ⟨_, rfl⟩
  have hq2 : q ≤ 24 := by omega
  have hq1 : L ≤ 24 → q = L := by omega
  have hq3 : ¬ L ≤ 24 → q = 24 := by omega
  obtain ⟨a, c, rfl, _⟩ := id h.came.sl
  obtain ⟨vr, hrun, hvr⟩ := h.came.sl.upto Try.sliceB Try.sizeB (q : Int) (by omega) (by omega)
  have hps : ∀ (W : World) (k : IntKind), (Instr.slice 9 (.string preB) none (some (.int k (q : Int))) none).run Try.prog W = .ok (.string (strOfNums (preL.take q))) W := fun W k => by
    rw [run_slice_string_h W 9 preB Try.underlying9 k (q : Int) (by omega) (by rw [preB_size]; omega), Int.toNat_natCast, preB_cut q]
  have hcs : ∀ n, (convert 30 9 vr).run Try.prog (w.drewN n) = .ok (.string (strOfNums (cs.take q))) (w.drewN n) := fun n => by
    have := (hvr.drewN n).run_str (P := Try.prog) 30 9 5 Try.underlying30 Try.underlying5 Try.underlying9
    rwa [Int.toNat_natCast] at this
  have hcs0 := hcs 0
  simp only [preB] at hps
  rw [hL] at hrun f2 hq hl
  generalize strOfNums (cs.take q) = S1 at hcs hcs0 HW
  generalize strOfNums (preL.take q) = S2 at hps HW
  obtain ⟨x, hx⟩ : ∃ x, (!(S1.toList == S2.toList)) = x := ⟨_, rfl⟩
  rw [hx] at HW
  have hxf : (S1.toList == S2.toList) = !x := by rw [← hx, Bool.not_not]
  have HL := Lib.hid hL
  clear h hL hvr hx hq HQ
  cases x <;> simp only [Bool.not_true, Bool.not_false] at hxf <;> by_cases h24 : L ≤ 24
  · obtain rfl := hq1 h24
    by_cases h25 : q = 24
    · have d24 : ((q : Int) == 24) = true := by rw [h25]; rfl
      have H25 := Lib.hid h25
      clear hq1 hq2 hq3 h25
      rw [HL.out] at HH
      go_enter Try.func22, Try.ntmps22
      go_wp2_with fail
      go_quiet (fail)
      have HH2 := Lib.hid (show IkObj (w.drewN nq) T most false (.slice a q c) cs 0 0 ∧ Turn (fun k => k = T) w (w.drewN nq) from ⟨HH.out.below (below_drewN (Below.refl _ _) _), Turn.of_below (below_drewN (Below.refl _ _) _)⟩)
      generalize w.drewN nq = w2 at HH2 ⊢
      clear f0 f1 f2 f3 f4 f5
      obtain ⟨f0, f1, f2, f3, f4, f5⟩ := HH2.out.1.blk.cells
      have g1 := HH2.out.1.blk.free 1
      go_wp2_with fail
      have HW3 := Lib.hid (show IkObj (w2.setCell ⟨T, 1, none⟩ (.bool true)) T most true (.slice a q c) cs 0 0 ∧ Turn (fun k => k = T) w (w2.setCell ⟨T, 1, none⟩ (.bool true)) from
        ⟨⟨heap_setCell_same _ T 1 _ _ _ HH2.out.1.blk, HH2.out.1.came.turn (turn_set _ _ _) HH2.out.1.ne, Nat.zero_le _, HH2.out.1.ne⟩, HH2.out.2.trans (turn_set _ _ _)⟩)
      generalize w2.setCell ⟨T, 1, none⟩ (.bool true) = w3 at HW3 ⊢
      clear f0 f1 f2 f3 f4 f5 g1
      refine (tell_obj w3 q HW3.out.1 (by have := HL.out; omega) (by have := HL.out; omega)).mono ?_
      rintro e w4 ⟨rfl, cv', cs', told', ho, hd, h2, hb, ht⟩
      have HE := Lib.hid (And.intro ho (And.intro hd (And.intro h2 (And.intro hb ht))))
      clear ho hd h2 hb ht
      go_wp2_with fail
      refine bodyPost_end (results_none rfl _ _ _) rfl ?_
      obtain ⟨ho, hd, h2, hb, ht⟩ := HE.out
      exact ⟨rfl, HW3.out.2.trans ht, .inr (.inr ⟨HW.out.symm, by have := HL.out; have := H25.out; omega, cv', cs', told', ho, by rw [hd, Nat.zero_add, H25.out], h2, by rw [HL.out]; exact hb⟩)⟩

    · have d24 : ((q : Int) == 24) = false := by rw [beq_eq_false_iff_ne]; omega
      have H24 := Lib.hid (show q < 24 by omega)
      clear hq1 hq2 hq3 h25
      go_enter Try.func22, Try.ntmps22
      go_wp2_with fail
      go_quiet (fail)
      go_wp2_with fail
      refine bodyPost_end (results_none rfl _ _ _) rfl ?_
      exact ⟨rfl, Turn.of_below (below_drewN (Below.refl _ _) _), .inr (.inl ⟨HW.out.symm, by rw [HL.out]; exact H24.out, HH.out.below (below_drewN (Below.refl _ _) _)⟩)⟩
  · obtain rfl := hq3 h24
    rw [show ((24 : Nat) : Int) = 24 from rfl] at hrun
    simp only [show ((24 : Nat) : Int) = 24 from rfl] at hps
    clear hq1 hq2 hq3
    rw [HL.out] at HH
    go_enter Try.func22, Try.ntmps22
    go_wp2_with fail
    go_quiet (fail)
    have HH2 := Lib.hid (show IkObj (w.drewN nq) T most false (.slice a L c) cs 0 0 ∧ Turn (fun k => k = T) w (w.drewN nq) from ⟨HH.out.below (below_drewN (Below.refl _ _) _), Turn.of_below (below_drewN (Below.refl _ _) _)⟩)
    generalize w.drewN nq = w2 at HH2 ⊢
    clear f0 f1 f2 f3 f4 f5
    obtain ⟨f0, f1, f2, f3, f4, f5⟩ := HH2.out.1.blk.cells
    have g1 := HH2.out.1.blk.free 1
    go_wp2_with fail
    have HW3 := Lib.hid (show IkObj (w2.setCell ⟨T, 1, none⟩ (.bool true)) T most true (.slice a L c) cs 0 0 ∧ Turn (fun k => k = T) w (w2.setCell ⟨T, 1, none⟩ (.bool true)) from
      ⟨⟨heap_setCell_same _ T 1 _ _ _ HH2.out.1.blk, HH2.out.1.came.turn (turn_set _ _ _) HH2.out.1.ne, Nat.zero_le _, HH2.out.1.ne⟩, HH2.out.2.trans (turn_set _ _ _)⟩)
    generalize w2.setCell ⟨T, 1, none⟩ (.bool true) = w3 at HW3 ⊢
    clear f0 f1 f2 f3 f4 f5 g1
    refine (tell_obj w3 24 HW3.out.1 (by have := HL.out; omega) (by have := HL.out; omega)).mono ?_
    rintro e w4 ⟨rfl, cv', cs', told', ho, hd, h2, hb, ht⟩
    have HE := Lib.hid (And.intro ho (And.intro hd (And.intro h2 (And.intro hb ht))))
    clear ho hd h2 hb ht
    go_wp2_with fail
    refine bodyPost_end (results_none rfl _ _ _) rfl ?_
    obtain ⟨ho, hd, h2, hb, ht⟩ := HE.out
    exact ⟨rfl, HW3.out.2.trans ht, .inr (.inr ⟨HW.out.symm, by have := HL.out; omega, cv', cs', told', ho, by rw [hd, Nat.zero_add], h2, by rw [HL.out]; exact hb⟩)⟩
  · obtain rfl := hq1 h24
    clear hq1 hq2 hq3
    rw [HL.out] at HH
    go_enter Try.func22, Try.ntmps22
    go_wp2_with fail
    go_quiet (fail)
    have HH2 := Lib.hid (show IkObj (w.drewN nq) T most false (.slice a q c) cs 0 0 ∧ Turn (fun k => k = T) w (w.drewN nq) from ⟨HH.out.below (below_drewN (Below.refl _ _) _), Turn.of_below (below_drewN (Below.refl _ _) _)⟩)
    generalize w.drewN nq = w2 at HH2 ⊢
    clear f0 f1 f2 f3 f4 f5
    go_wp2_with fail
    refine (end_obj w2 3 HH2.out.1).mono ?_
    rintro e w4 ⟨rfl, ho, ht⟩
    have HE := Lib.hid (And.intro ho ht)
    clear ho ht
    go_wp2_with fail
    refine bodyPost_end (results_none rfl _ _ _) rfl ?_
    exact ⟨rfl, HH2.out.2.trans HE.out.2, .inl ⟨HW.out.symm, HE.out.1⟩⟩
  · obtain rfl := hq3 h24
    rw [show ((24 : Nat) : Int) = 24 from rfl] at hrun
    simp only [show ((24 : Nat) : Int) = 24 from rfl] at hps
    clear hq1 hq2 hq3
    rw [HL.out] at HH
    go_enter Try.func22, Try.ntmps22
    go_wp2_with fail
    go_quiet (fail)
    have HH2 := Lib.hid (show IkObj (w.drewN nq) T most false (.slice a L c) cs 0 0 ∧ Turn (fun k => k = T) w (w.drewN nq) from ⟨HH.out.below (below_drewN (Below.refl _ _) _), Turn.of_below (below_drewN (Below.refl _ _) _)⟩)
    generalize w.drewN nq = w2 at HH2 ⊢
    clear f0 f1 f2 f3 f4 f5
    go_wp2_with fail
    refine (end_obj w2 3 HH2.out.1).mono ?_
    rintro e w4 ⟨rfl, ho, ht⟩
    have HE := Lib.hid (And.intro ho ht)
    clear ho ht
    go_wp2_with fail
    refine bodyPost_end (results_none rfl _ _ _) rfl ?_
    exact ⟨rfl, HH2.out.2.trans HE.out.2, .inl ⟨HW.out.symm, HE.out.1⟩⟩
/-- an intake that lies in block T, its bytes in block O, at most N of them not told -/
def InAt (W : World) (T : Nat) (O : Option Nat) (N : Nat) (s : Ik) : Prop :=
  ∃ cv cs told, IkObj W T s.most s.begun cv cs told s.over ∧ cs.drop told = s.got ∧ s.got.length ≤ N ∧ 2 * told ≤ cs.length ∧ (s.over = 0 → s.begun = false → told = 0) ∧ O = cv.ownBlock
theorem InAt.lt {W : World} {T : Nat} {O : Option Nat} {N : Nat} {s : Ik} (h : InAt W T O N s) : T < W.heap.size ∧ ∀ g, O = some g → g < W.heap.size := by
  obtain ⟨cv, cs, told, ho, _, _, _, _, rfl⟩ := h
  exact ⟨ho.blk.lt, ho.came.lt⟩
theorem InAt.turn {W W' : World} {T : Nat} {O : Option Nat} {N : Nat} {s : Ik} {S : Nat → Prop} (h : InAt W T O N s) (ht : Turn S W W') (h1 : ¬ S T) (h2 : ∀ g, O = some g → ¬ S g) : InAt W' T O N s := by
  obtain ⟨cv, cs, told, ho, ha, hb, hc, hd, rfl⟩ := h
  exact ⟨cv, cs, told, ho.turn ht h1 h2, ha, hb, hc, hd, rfl⟩
theorem InAt.fit {W : World} {T : Nat} {O : Option Nat} {N : Nat} {s : Ik} (h : InAt W T O N s) : Fit .u8 s.got ∧ s.got.length ≤ N := by
  obtain ⟨cv, cs, told, ho, ha, hb, _⟩ := h
  exact ⟨by rw [← ha]; exact ho.came.sl.fit.drop told, hb⟩
theorem feedI_over {s : Ik} (h : s.over ≠ 0) (b : List Int) : feedI s b = s := by unfold feedI; rw [if_pos h]
theorem feedI_begun {s : Ik} (h : s.over = 0) (h1 : s.begun = true) (b : List Int) : feedI s b = { s with got := s.got ++ b } := by unfold feedI; rw [if_neg (by rw [h]; decide), if_pos h1]
theorem feedI_new {s : Ik} (h : s.over = 0) (h1 : s.begun = false) (b : List Int) :
    feedI s b = if wrongL (s.got ++ b) = true then ⟨s.most, [], false, 3⟩ else if 24 ≤ (s.got ++ b).length then ⟨s.most, (s.got ++ b).drop 24, true, 0⟩ else ⟨s.most, s.got ++ b, false, 0⟩ := by
  unfold feedI; rw [if_neg (by rw [h]; decide), if_neg (by rw [h1]; decide)]
set_option maxHeartbeats 4000000 in
theorem pFeed_any (T N : Nat) (O : Option Nat) (s : Ik) (v : Value) (b : List Int) (w : World) (h : InAt w T O N s) (hv : Sl .u8 w v b) (hN : N + b.length ≤ 10000000) : Calls Try.prog 8 #[.pointer (some ⟨T, 0, none⟩), v] w fun e w' =>
    e = .returned (.tuple #[]) ∧ ∃ O', InAt w' T O' (N + b.length) (feedI s b) ∧ Turn (fun k => k = T ∨ O = some k) w w' ∧ (O' = O ∨ ∀ g, O' = some g → w.heap.size ≤ g) := by
  obtain ⟨most, got, begun, over⟩ := s
  obtain ⟨cv, cs, told, ho, ha, hb, hc, hd, rfl⟩ := h
  simp only at ho ha hb hd
  obtain ⟨a, c, rfl, _⟩ := id ho.came.sl
  obtain ⟨ab, cb, rfl, _⟩ := id hv
  obtain ⟨f0, f1, f2, f3, f4, f5⟩ := ho.blk.cells
  have hle := ho.le
  have hlen : cs.length ≤ 2 * N := by
    have : (cs.drop told).length ≤ N := by rw [ha]; exact hb
    rw [List.length_drop] at this
    omega
  by_cases hov : over = 0
  rotate_left
  · have d0 : (over != 0) = true := by simpa using hov
    have HE := Lib.hid (feedI_over (s := ⟨most, got, begun, over⟩) hov b)
    have HA := Lib.hid (show InAt w T (Value.slice a cs.length c).ownBlock (N + b.length) ⟨most, got, begun, over⟩ from ⟨_, cs, told, ho, ha, Nat.le_trans hb (Nat.le_add_right _ _), hc, hd, rfl⟩)
    clear hov ha hb hc hd hN ho hv hle hlen
    go_enter Try.func8, Try.ntmps8
    go_wp2_with fail
    refine bodyPost_ret (results_none rfl _ _ _) rfl ?_
    exact ⟨rfl, _, by rw [HE.out]; exact HA.out, Turn.of_below (Below.refl _ _), .inl rfl⟩
  subst hov
  cases begun
  · obtain rfl := hd rfl rfl
    obtain rfl : cs = got := by simpa using ha
    clear ha
    have ha : cs.drop 0 = cs := rfl
    have HH := Lib.hid ho
    have HV := Lib.hid hv
    have HLn := Lib.hid (show cs.length + b.length ≤ 20000000 ∧ b.length ≤ 10000000 from ⟨by omega, by omega⟩)
    have HC := Lib.hid (show cs.drop 0 = cs ∧ cs.length ≤ N ∧ 2 * 0 ≤ cs.length ∧ 0 ≤ cs.length from ⟨ha, hb, hc, hle⟩)
    clear ha hb hc hd hN ho hv hle hlen
    go_enter Try.func8, Try.ntmps8
    go_wp2_with (at_builtin; refine app_came rfl (.tmp 17) (.tmp 18) rfl _ cs rfl HH.out.came _ b rfl HV.out (by have := HLn.out; omega) ?_; intro v4 w4 hc4 hg4 ho4; obtain ⟨a4, k4, hv4, _⟩ := id hc4.sl; subst hv4; have HO4 := Lib.hid (And.intro hc4 (And.intro hg4 ho4)); have j1 := blk_free (j := 2) ((hg4.block T f5 (fun e => HH.out.ne T e.symm rfl)).trans HH.out.blk); have j2 := blk_cell (j := 2) ((hg4.block T f5 (fun e => HH.out.ne T e.symm rfl)).trans HH.out.blk) rfl; have j3 := blk_cell (j := 1) ((hg4.block T f5 (fun e => HH.out.ne T e.symm rfl)).trans HH.out.blk) rfl; have j4 := (Array.getElem?_eq_some_iff.1 ((hg4.block T f5 (fun e => HH.out.ne T e.symm rfl)).trans HH.out.blk)).1; clear hc4 hg4 ho4)
    have HW5 := Lib.hid (show IkObj (w4.setCell ⟨T, 2, none⟩ (.slice a4 (cs.length + b.length) k4)) T most false (.slice a4 (cs.length + b.length) k4) (cs ++ b) 0 0 ∧ Turn (fun k => k = T ∨ (Value.slice a cs.length c).ownBlock = some k) w (w4.setCell ⟨T, 2, none⟩ (.slice a4 (cs.length + b.length) k4)) ∧
        ((Value.slice a4 (cs.length + b.length) k4).ownBlock = (Value.slice a cs.length c).ownBlock ∨ ∀ g, (Value.slice a4 (cs.length + b.length) k4).ownBlock = some g → w.heap.size ≤ g) from by
      obtain ⟨hc4, hg4, ho4⟩ := HO4.out
      rw [List.length_append] at hc4 ho4
      have hne : ∀ g, (Value.slice a4 (cs.length + b.length) k4).ownBlock = some g → g ≠ T := fun g hg => by
        rcases ho4 with e | e
        · exact HH.out.ne g (e ▸ hg)
        · have := e g hg; have := HH.out.blk.lt; omega
      refine ⟨⟨heap_setCell_same _ T 2 _ _ _ ((hg4.block T HH.out.blk.lt (fun e => HH.out.ne T e.symm rfl)).trans HH.out.blk), hc4.turn (turn_set _ _ _) hne, by have := HH.out.le; rw [List.length_append]; omega, hne⟩, ?_, ho4⟩
      exact ((Turn.of_row hg4).mono (fun k _ hk => .inr hk)).trans' (turn_set _ _ _) (fun k _ hk => .inl hk))
    generalize hw5 : w4.setCell ⟨T, 2, none⟩ (.slice a4 (cs.length + b.length) k4) = w5 at HW5 ⊢
    clear j1 j2 j3 j4 f0 f1 f2 f3 f4 f5 hw5
    refine (begin_obj w5 HW5.out.1 (by rw [List.length_append]; have := HLn.out; omega)).mono ?_
    rintro e w6 ⟨rfl, ht6, h6⟩
    have HE := Lib.hid (And.intro ht6 h6)
    clear ht6 h6
    go_wp2_with fail
    refine bodyPost_end (results_none rfl _ _ _) rfl ?_
    obtain ⟨ht6, h6⟩ := HE.out
    obtain ⟨_, ht5, ho5⟩ := HW5.out
    have ht := ht5.trans' ht6 (fun k _ hk => .inl hk)
    rw [feedI_new rfl rfl]
    have HNl := HC.out.2.1
    dsimp only at HNl ⊢
    rcases h6 with ⟨h7, h8⟩ | ⟨h7, h8, h9⟩ | ⟨h7, h8, cv', cs', told', h9, h10, h11, h12⟩
    · rw [if_pos h7]
      exact ⟨rfl, none, ⟨_, [], 0, h8, rfl, Nat.zero_le _, Nat.zero_le _, fun _ _ => rfl, rfl⟩, ht, .inr (fun g hg => by cases hg)⟩
    · rw [if_neg (by rw [h7]; decide), if_neg (by omega)]
      exact ⟨rfl, _, ⟨_, cs ++ b, 0, h9, rfl, by rw [List.length_append]; omega, Nat.zero_le _, fun _ _ => rfl, rfl⟩, ht, ho5⟩
    · rw [if_neg (by rw [h7]; decide), if_pos h8]
      refine ⟨rfl, _, ⟨cv', cs', told', h9, h10, by rw [List.length_drop, List.length_append]; omega, h11, (fun _ e => by cases e), rfl⟩, ht, ?_⟩
      rcases h12 with e | e
      · rw [e]; exact ho5
      · rw [e]; exact .inr (fun g hg => by cases hg)
  · clear hd
    have hd := True.intro
    have HH := Lib.hid ho
    have HV := Lib.hid hv
    have HLn := Lib.hid (show cs.length + b.length ≤ 20000000 ∧ b.length ≤ 10000000 from ⟨by omega, by omega⟩)
    have HC := Lib.hid (show cs.drop told = got ∧ got.length ≤ N ∧ 2 * told ≤ cs.length ∧ told ≤ cs.length from ⟨ha, hb, hc, hle⟩)
    clear ha hb hc hd hN ho hv hle hlen
    go_enter Try.func8, Try.ntmps8
    go_wp2_with (at_builtin; refine app_came rfl (.tmp 17) (.tmp 18) rfl _ cs rfl HH.out.came _ b rfl HV.out (by have := HLn.out; omega) ?_; intro v4 w4 hc4 hg4 ho4; obtain ⟨a4, k4, hv4, _⟩ := id hc4.sl; subst hv4; have HO4 := Lib.hid (And.intro hc4 (And.intro hg4 ho4)); have j1 := blk_free (j := 2) ((hg4.block T f5 (fun e => HH.out.ne T e.symm rfl)).trans HH.out.blk); have j2 := blk_cell (j := 2) ((hg4.block T f5 (fun e => HH.out.ne T e.symm rfl)).trans HH.out.blk) rfl; have j3 := blk_cell (j := 1) ((hg4.block T f5 (fun e => HH.out.ne T e.symm rfl)).trans HH.out.blk) rfl; have j4 := (Array.getElem?_eq_some_iff.1 ((hg4.block T f5 (fun e => HH.out.ne T e.symm rfl)).trans HH.out.blk)).1; clear hc4 hg4 ho4)
    have HW5 := Lib.hid (show IkObj (w4.setCell ⟨T, 2, none⟩ (.slice a4 (cs.length + b.length) k4)) T most true (.slice a4 (cs.length + b.length) k4) (cs ++ b) told 0 ∧ Turn (fun k => k = T ∨ (Value.slice a cs.length c).ownBlock = some k) w (w4.setCell ⟨T, 2, none⟩ (.slice a4 (cs.length + b.length) k4)) ∧
        ((Value.slice a4 (cs.length + b.length) k4).ownBlock = (Value.slice a cs.length c).ownBlock ∨ ∀ g, (Value.slice a4 (cs.length + b.length) k4).ownBlock = some g → w.heap.size ≤ g) from by
      obtain ⟨hc4, hg4, ho4⟩ := HO4.out
      rw [List.length_append] at hc4 ho4
      have hne : ∀ g, (Value.slice a4 (cs.length + b.length) k4).ownBlock = some g → g ≠ T := fun g hg => by
        rcases ho4 with e | e
        · exact HH.out.ne g (e ▸ hg)
        · have := e g hg; have := HH.out.blk.lt; omega
      refine ⟨⟨heap_setCell_same _ T 2 _ _ _ ((hg4.block T HH.out.blk.lt (fun e => HH.out.ne T e.symm rfl)).trans HH.out.blk), hc4.turn (turn_set _ _ _) hne, by have := HH.out.le; rw [List.length_append]; omega, hne⟩, ?_, ho4⟩
      exact ((Turn.of_row hg4).mono (fun k _ hk => .inr hk)).trans' (turn_set _ _ _) (fun k _ hk => .inl hk))
    generalize hw5 : w4.setCell ⟨T, 2, none⟩ (.slice a4 (cs.length + b.length) k4) = w5 at HW5 ⊢
    clear j1 j2 j3 j4 f0 f1 f2 f3 f4 f5 hw5
    go_wp2_with fail
    refine bodyPost_end (results_none rfl _ _ _) rfl ?_
    obtain ⟨ho6, ht5, ho5⟩ := HW5.out
    obtain ⟨c1, c2, c3, c4⟩ := HC.out
    rw [feedI_begun rfl rfl]
    exact ⟨rfl, _, ⟨_, cs ++ b, told, ho6, by rw [List.drop_append_of_le_length c4, c1], by simp only [List.length_append]; omega, by rw [List.length_append]; omega, (fun _ e => by cases e), rfl⟩, ht5, ho5⟩
end Go.Proofs.Ytappehjcbjplaaa
