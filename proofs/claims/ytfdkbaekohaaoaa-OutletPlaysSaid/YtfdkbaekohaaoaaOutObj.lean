
/-
  Layer 14's outlet, as the program keeps it: its block, the bytes that came (the call's own row), how many of them went.
-/
import Derived.Test.YtfdkbaekohaaoaaOutRef
import Derived.Test.YtfdkbaekohaaoaaTurn
import Derived.Test.YtfdkbaekohaaoaaAppAt
import Derived.Test.YtfdkbaekohaaoaaFrameEnc
import Derived.Test.YtfdkbaekohaaoaaRow0
import Derived.BigQuiet
import Derived.Deep.QuietTactic
namespace Go.Proofs.Ytfdkbaekohaaoaa
set_option maxRecDepth 20000
open Go.RowKit

/-- the outlet's block -/
def OuBlk (W : World) (T : Nat) (cv : Value) (went : Int) : Prop := W.heap[T]? = some (.cells #[cv, .int .i64 went] 50 (0, 0))
theorem OuBlk.lt {W : World} {T : Nat} {cv : Value} {went : Int} (h : OuBlk W T cv went) : T < W.heap.size := (Array.getElem?_eq_some_iff.1 h).1
theorem OuBlk.cells {W : World} {T : Nat} {cv : Value} {went : Int} (h : OuBlk W T cv went) : W.cell? ⟨T, 0, none⟩ = some cv ∧ W.cell? ⟨T, 1, none⟩ = some (.int .i64 went) ∧ T < W.heap.size := ⟨blk_cell h rfl, blk_cell h rfl, h.lt⟩
theorem OuBlk.free {W : World} {T : Nat} {cv : Value} {went : Int} (h : OuBlk W T cv went) (j : Nat) : W.frozen? ⟨T, j, none⟩ = false := blk_free h
/-- an outlet that lies in block T: what came, what of it went -/
structure OuObj (W : World) (T : Nat) (cv : Value) (cs : List Int) (went : Nat) : Prop where
  blk : OuBlk W T cv went
  own : W.ownsRow 0 5 1 cv cs.length (cs.map (Value.int .u8))
  sl : Sl .u8 W cv cs
  le : went ≤ cs.length
  ne : ∀ g, cv.ownBlock = some g → g ≠ T
section
variable {W W' : World} {T : Nat} {cv : Value} {cs : List Int} {went : Nat}
theorem OuObj.turn {S : Nat → Prop} (h : OuObj W T cv cs went) (ht : Turn S W W') (h1 : ¬ S T) (h2 : ∀ g, cv.ownBlock = some g → ¬ S g) : OuObj W' T cv cs went := ⟨ht.obj h.blk h1, owned_turn h.own ht h2, h.sl.turn ht h2, h.le, h.ne⟩
theorem OuObj.below (h : OuObj W T cv cs went) (hb : Below W.heap.size W W') : OuObj W' T cv cs went := h.turn (Turn.of_below hb (S := fun _ => False)) id (fun _ _ => id)
theorem OuObj.lt (h : OuObj W T cv cs went) : ∀ g, cv.ownBlock = some g → g < W.heap.size := fun g hg => (h.own.lt g hg).2
theorem turn_set14 {W : World} (T j : Nat) (u : Value) : Turn (fun k => k = T) W (W.setCell ⟨T, j, none⟩ u) := Turn.of_grown ⟨rfl, rfl, rfl, by simp [World.setCell], fun k _ hne => Below.heap_setCell _ _ _ _ (fun e => hne (by rw [show k = T from e]))⟩
/-- so many more went -/
theorem OuObj.go (h : OuObj W T cv cs went) (m : Nat) (hm : m ≤ cs.length) : OuObj (W.setCell ⟨T, 1, none⟩ (.int .i64 m)) T cv cs m :=
  ⟨heap_setCell_same _ T 1 _ _ _ h.blk, owned_turn h.own (turn_set14 _ _ _) h.ne, h.sl.turn (turn_set14 _ _ _) h.ne, hm, h.ne⟩
end
/-- an outlet of so many bytes that wait: of those that it keeps no more went than wait -/
def OutAt (W : World) (T : Nat) (O : Option Nat) (q : List Int) : Prop := ∃ cv cs went, OuObj W T cv cs went ∧ cs.drop went = q ∧ cs.length ≤ 2 * q.length ∧ O = cv.ownBlock
section
variable {W W' : World} {T : Nat} {O : Option Nat} {q : List Int}
theorem OutAt.lt (h : OutAt W T O q) : T < W.heap.size ∧ ∀ g, O = some g → g < W.heap.size := by
  obtain ⟨cv, cs, went, h, _, _, rfl⟩ := h
  exact ⟨h.blk.lt, h.lt⟩
theorem OutAt.turn {S : Nat → Prop} (h : OutAt W T O q) (ht : Turn S W W') (h1 : ¬ S T) (h2 : ∀ g, O = some g → ¬ S g) : OutAt W' T O q := by
  obtain ⟨cv, cs, went, h, h3, h4, rfl⟩ := h
  exact ⟨cv, cs, went, h.turn ht h1 h2, h3, h4, rfl⟩
theorem OutAt.fit (h : OutAt W T O q) : Fit .u8 q := by
  obtain ⟨cv, cs, went, h, h3, h4, rfl⟩ := h
  rw [← h3]; exact h.sl.fit.drop went
end
theorem pNew14 (w : World) : Calls Try.prog 7 #[] w fun e w' => ∃ T O, e = .returned (.pointer (some ⟨T, 0, none⟩)) ∧ w.heap.size ≤ T ∧ (∀ g, O = some g → w.heap.size ≤ g) ∧ OutAt w' T O [] ∧ Below w.heap.size w w' := by
  go_enter Try.func7, Try.ntmps7
  go_wp2_with fail
  go_ret
  exact ⟨w.heap.size, none, rfl, Nat.le_refl _, (fun g hg => by cases hg), ⟨.slice none 0 0, [], 0, ⟨heap_alloc_new w _, World.ownsRow_nil _ _ _ _, Sl.nil _ _, Nat.le_refl _, (fun g hg => by cases hg)⟩, rfl, Nat.le_refl _, rfl⟩, (Below.refl _ _).alloc (Nat.le_refl _) _⟩
theorem len14_obj {T : Nat} {cv : Value} {cs : List Int} {went : Nat} (w : World) (h : OuObj w T cv cs went) : Calls Try.prog 15 #[.pointer (some ⟨T, 0, none⟩)] w fun e w' => e = .returned (.int .i64 ((cs.length - went : Nat) : Int)) ∧ ∃ n, w' = w.drewN n := by
  obtain ⟨f0, f1, f2⟩ := h.blk.cells
  obtain ⟨a, c, rfl, _⟩ := id h.sl
  have hle := h.le
  have hl := h.sl.len
  unfold maxLen at hl
  have HD := Lib.hid (show ((cs.length - went : Nat) : Int) = (cs.length : Int) - went by omega)
  clear h
  go_enter Try.func15, Try.ntmps15
  go_wp2_with fail
  go_quiet (fail)
  go_wp2_with fail
  go_ret
  exact ⟨by rw [HD.out]; rfl, _, rfl⟩
theorem pLen14_any (T : Nat) (O : Option Nat) (q : List Int) (w : World) (h : OutAt w T O q) (_hq : q.length ≤ 40000000) : Calls Try.prog 15 #[.pointer (some ⟨T, 0, none⟩)] w fun e w' => e = .returned (.int .i64 (q.length : Nat)) ∧ Below w.heap.size w w' := by
  obtain ⟨cv, cs, went, h, h3, _, _⟩ := h
  refine (len14_obj w h).mono ?_
  rintro e w' ⟨rfl, n, rfl⟩
  exact ⟨by rw [← h3, List.length_drop], below_drewN (Below.refl _ _) n⟩
theorem pLen14_nil (w : World) : Calls Try.prog 15 #[.pointer none] w fun e w' => e = .returned (.int .i64 0) ∧ Below w.heap.size w w' := by
  go_enter Try.func15, Try.ntmps15
  go_wp2_with fail
  go_ret
  exact ⟨rfl, Below.refl _ _⟩
theorem pPush14_nil (fv : Value) (F : Fr) (w : World) (hf : FrV w fv F) : Calls Try.prog 13 #[.pointer none, fv] w fun e w' => e = .returned (.int .i64 1) ∧ Below w.heap.size w w' := by
  obtain ⟨pv, rfl, hpv⟩ := id hf
  obtain ⟨ap, cp, rfl, _⟩ := id hpv
  go_enter Try.func13, Try.ntmps13
  go_wp2_with fail
  go_ret
  exact ⟨rfl, (Below.refl _ _).alloc (Nat.le_refl _) _⟩
set_option maxHeartbeats 1000000 in
theorem pPush14_any (T : Nat) (O : Option Nat) (q : List Int) (fv : Value) (F : Fr) (w : World) (h : OutAt w T O q) (hf : FrV w fv F) (hq : q.length ≤ 40000000) (hp : F.pay.length ≤ 1000000) : Calls Try.prog 13 #[.pointer (some ⟨T, 0, none⟩), fv] w fun e w' =>
    ∃ O', e = .returned (.int .i64 (pushE F)) ∧ OutAt w' T O' (pushL q F) ∧ Turn (fun k => k = T ∨ O = some k) w w' ∧ (O' = O ∨ ∀ g, O' = some g → w.heap.size ≤ g) := by
  obtain ⟨pv, rfl, hpv⟩ := id hf
  obtain ⟨cv, cs, went, ho, h3, h4, rfl⟩ := h
  obtain ⟨a, c, rfl, _⟩ := id ho.sl
  obtain ⟨ap, cp, rfl, _⟩ := id hpv
  obtain ⟨W1, hW1⟩ : ∃ W1, w.alloc (.cells #[.int .i64 F.kind, .int .i64 F.flags, .int .i64 F.stream, .slice ap F.pay.length cp] 40) = W1 := ⟨_, rfl⟩
  have HB1 := Lib.hid (show Below w.heap.size w W1 by rw [← hW1]; exact (Below.refl _ _).alloc (Nat.le_refl _) _)
  have hbx : Bx W1 w.heap.size 40 F (.slice ap F.pay.length cp) := by rw [← hW1]; exact Bx.new _ _ _ _
  have c0 := hbx.c0
  have c1 := hbx.c1
  have c2 := hbx.c2
  have c3 := hbx.c3
  have hsz := hbx.lt
  have HF := Lib.hid (hf.below HB1.out)
  have HO := Lib.hid (ho.below HB1.out)
  have HPF := Lib.hid hpv.fit
  have HQ := Lib.hid (And.intro h3 h4)
  have HL := Lib.hid (show q.length ≤ 40000000 ∧ cs.length ≤ 80000000 ∧ F.pay.length ≤ 1000000 from ⟨hq, by omega, hp⟩)
  have HLT := Lib.hid ho.lt
  clear ho hf hpv hbx h3 h4 hq hp
  by_cases hr : F.right
  · have HE := Lib.hid (show pushE F = 0 ∧ pushL q F = q ++ F.enc from ⟨if_pos hr, if_pos hr⟩)
    have HR := Lib.hid hr
    clear hr
    go_enter Try.func13, Try.ntmps13
    go_wp2_with fail
    refine (encode_yes _ F W1 HF.out HR.out).mono ?_
    rintro e w2 ⟨v2, rfl, ho2, hb2⟩
    have HB2 := Lib.hid (HB1.out.trans (hb2.mono HB1.out.size))
    have HO2 := Lib.hid (HO.out.below hb2)
    obtain ⟨a2, k2, rfl, _⟩ := owned_shape ho2
    have HS2 := Lib.hid (Sl.owned ho2 (Fr.enc_fit HR.out HPF.out) (by rw [Fr.enc_length]; have := HL.out.2.2; unfold maxLen; omega))
    have HLE := Lib.hid (Fr.enc_length F)
    obtain ⟨EN, hEN⟩ : ∃ EN, EN = F.enc := ⟨_, rfl⟩
    rw [← hEN] at HS2 HE HLE ⊢
    obtain ⟨f0, f1, f2⟩ := HO2.out.blk.cells
    clear c0 c1 c2 c3 hsz hW1 ho2 hb2 hEN
    go_wp2_with (at_builtin; refine app_ints_at rfl (.tmp 20) (.tmp 21) 27 rfl 0 5 .u8 1 Try.underlying27 Try.info5' _ _ cs rfl HO2.out.own _ EN rfl HS2.out (by have := HL.out; have := HLE.out; omega) (by have := HL.out; have := HLE.out; unfold maxLen; omega) (Nat.zero_le _) ?_; intro v4 w4 own4 hc4 hg4 hat4; obtain ⟨a4, k4, hv4, _⟩ := owned_shape own4; subst hv4; have HO4 := Lib.hid (And.intro own4 (And.intro hg4 hat4)); have j1 := blk_free (j := 0) ((hg4.block T f2 (fun e => HO2.out.ne T e.symm rfl)).trans HO2.out.blk); have j2 := blk_cell (j := 0) ((hg4.block T f2 (fun e => HO2.out.ne T e.symm rfl)).trans HO2.out.blk) rfl; have j4 := (Array.getElem?_eq_some_iff.1 ((hg4.block T f2 (fun e => HO2.out.ne T e.symm rfl)).trans HO2.out.blk)).1; clear own4 hc4 hg4 hat4)
    go_ret
    obtain ⟨own4, hg4, hat4⟩ := HO4.out
    have hw2 := HB2.out.size
    have hw2b := HO2.out.lt
    have hw0 := HO2.out.blk.lt
    have hne : ∀ g, (Value.slice a4 (cs.length + EN.length) k4).ownBlock = some g → g ≠ T := fun g hg => by
      rcases hat4 with e | e
      · exact HO2.out.ne g (e ▸ hg)
      · rw [e] at hg; cases hg; omega
    have hml : (cs ++ EN).length ≤ maxLen := by have := HL.out; have := HLE.out; unfold maxLen; rw [List.length_append]; omega
    have hfit : Fit .u8 (cs ++ EN) := Fit.append HO2.out.sl.fit HS2.out.fit
    have own5 : w4.ownsRow 0 5 1 (.slice a4 (cs.length + EN.length) k4) (cs ++ EN).length ((cs ++ EN).map (Value.int .u8)) := by rw [List.length_append]; exact own4
    refine ⟨(Value.slice a4 (cs.length + EN.length) k4).ownBlock, by rw [HE.out.1]; rfl, ⟨_, cs ++ EN, went, ⟨heap_setCell_same _ T 0 _ _ _ ((hg4.block T HO2.out.blk.lt (fun e => HO2.out.ne T e.symm rfl)).trans HO2.out.blk), owned_turn own5 (turn_set14 _ _ _) hne, (Sl.of_own own5 hfit hml).turn (turn_set14 _ _ _) hne, by have := HO2.out.le; rw [List.length_append]; omega, hne⟩, ?_, ?_, rfl⟩, ?_, ?_⟩
    · rw [HE.out.2, List.drop_append_of_le_length HO2.out.le, HQ.out.1]
    · rw [HE.out.2, List.length_append, List.length_append]; have := HQ.out.2; omega
    · refine ((Turn.of_below HB2.out).trans' ((Turn.of_row hg4).mono (S' := fun k => k = T ∨ (Value.slice a cs.length c).ownBlock = some k) (fun k _ hk => .inr hk)) (fun k _ hk => hk)).trans' (turn_set14 _ _ _) (fun k _ hk => .inl hk)
    · rcases hat4 with e | e
      · exact .inl e
      · exact .inr (fun g hg => by rw [e] at hg; cases hg; exact hw2)
  · have HE := Lib.hid (show pushE F = 1 ∧ pushL q F = q from ⟨if_neg hr, if_neg hr⟩)
    have HR := Lib.hid hr
    clear hr
    go_enter Try.func13, Try.ntmps13
    go_wp2_with fail
    refine (encode_no _ F W1 HF.out HR.out).mono ?_
    rintro e w2 ⟨rfl, hb2⟩
    have HB2 := Lib.hid (HB1.out.trans (hb2.mono HB1.out.size))
    have HO2 := Lib.hid (HO.out.below hb2)
    clear c0 c1 c2 c3 hsz hW1 hb2
    go_wp2_with fail
    go_ret
    exact ⟨_, by rw [HE.out.1]; rfl, by rw [HE.out.2]; exact ⟨_, cs, went, HO2.out, HQ.out.1, HQ.out.2, rfl⟩, Turn.of_below HB2.out, .inl rfl⟩
end Go.Proofs.Ytfdkbaekohaaoaa
