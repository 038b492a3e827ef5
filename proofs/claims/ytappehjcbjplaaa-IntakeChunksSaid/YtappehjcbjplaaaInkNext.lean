
/-
  Layer 13's intake: Next (written by wip/tools/gen13x.py).
-/
import Derived.Test.YtappehjcbjplaaaInkFeed
import Derived.Test.YtappehjcbjplaaaInkRef3
namespace Go.Proofs.Ytappehjcbjplaaa
set_option maxRecDepth 20000
open Go.RowKit

/-- what frame.Next yields, the payload in a block from a number on -/
def NxN (lo : Nat) (F : Fr) (n e : Int) (v : Value) (w : World) : Prop := ∃ ap cp, v = .tuple #[.agg #[.int .i64 F.kind, .int .i64 F.flags, .int .i64 F.stream, .slice ap F.pay.length cp], .int .i64 n, .int .i64 e] ∧ Sl .u8 w (.slice ap F.pay.length cp) F.pay ∧ Ty w 5 (.slice ap F.pay.length cp) ∧ ∀ g, (Value.slice ap F.pay.length cp).ownBlock = some g → lo ≤ g
theorem NxN.below {lo : Nat} {F : Fr} {n e : Int} {v : Value} {w w' : World} (h : NxN lo F n e v w) (hb : Below w.heap.size w w') : NxN lo F n e v w' := by obtain ⟨ap, cp, x, h, ht, hn⟩ := h; exact ⟨ap, cp, x, h.below hb, ht.below hb, hn⟩
theorem NxN.mono {lo lo' : Nat} {F : Fr} {n e : Int} {v : Value} {w : World} (h : NxN lo F n e v w) (hl : lo' ≤ lo) : NxN lo' F n e v w := by obtain ⟨ap, cp, x, h, ht, hn⟩ := h; exact ⟨ap, cp, x, h, ht, fun g hg => Nat.le_trans hl (hn g hg)⟩
theorem next_nxn (v : Value) (zs : List Int) (most : Int) (w : World) (hv : Sl .u8 w v zs) :
    Calls Try.prog 24 #[v, .int .i64 most] w fun e w' => ∃ x, e = .returned x ∧ NxN w.heap.size (nextF zs most) (nextN zs most) (nextE zs most) x w' ∧ Below w.heap.size w w' :=
  (next_new v zs most w hv).mono fun e w' ⟨fv, he, ⟨pv, hfv, hpv, hty⟩, hn, hb⟩ => by
    obtain ⟨ap, cp, rfl, _⟩ := id hpv
    exact ⟨_, he, ⟨ap, cp, by rw [hfv], hpv, hty, fun g hg => hn _ _ _ _ hfv g hg⟩, hb⟩
def FrPN (lo : Nat) (F : Fr) (v : Value) (w : World) : Prop := ∃ ap cp, v = .agg #[.int .i64 F.kind, .int .i64 F.flags, .int .i64 F.stream, .slice ap F.pay.length cp] ∧ Sl .u8 w (.slice ap F.pay.length cp) F.pay ∧ Ty w 5 (.slice ap F.pay.length cp) ∧ ∀ g, (Value.slice ap F.pay.length cp).ownBlock = some g → lo ≤ g
theorem FrPN.below {lo : Nat} {F : Fr} {v : Value} {w w' : World} (h : FrPN lo F v w) (hb : Below w.heap.size w w') : FrPN lo F v w' := by obtain ⟨ap, cp, x, h, ht, hn⟩ := h; exact ⟨ap, cp, x, h.below hb, ht.below hb, hn⟩
theorem Ty.turn {w w' : World} {t : TypeId} {v : Value} {S : Nat → Prop} (h : Ty w t v) (ht : Turn S w w') (hne : ∀ g, v.ownBlock = some g → ¬ S g) : Ty w' t v := fun g hg => by
  obtain ⟨cs, fr, e⟩ := h g hg
  exact ⟨cs, fr, ht.obj e (hne g hg)⟩
theorem nextN_nat (zs : List Int) (most : Int) (hf : Fit .u8 zs) : ∃ n : Nat, nextN zs most = n ∧ (nextE zs most = 0 → n ≤ zs.length) := by
  by_cases h : nextE zs most = 0
  · obtain ⟨_, h2, h3, _⟩ := next_step h hf
    exact ⟨(nextN zs most).toNat, by omega, fun _ => by omega⟩
  · exact ⟨0, by rw [nextN, if_neg h]; rfl, fun e => absurd e h⟩

/-- the end of Next: the answer's row -/
theorem pnext_end {w W : World} {T N g : Nat} {O : Option Nat} {s s' : Ik} {cv' : Value} {cs' : List Int} {told' : Nat} {F : Fr} {ap2 : Option Addr} {cp2 : Nat} {cs0 : Array Value} {e : Int}
    (h1 : IkObj W T s'.most s'.begun cv' cs' told' s'.over) (h2 : cs'.drop told' = s'.got) (h3 : s'.got.length ≤ N) (h4 : 2 * told' ≤ cs'.length) (h5 : s'.over = 0 → s'.begun = false → told' = 0) (hO : cv'.ownBlock = O ∨ cv'.ownBlock = none) (hOl : ∀ k, O = some k → k < g)
    (ht : Turn (fun k => k = T) w W) (_hg : W.heap[g]? = some (.cells cs0 36 (0, 0))) (hgw : w.heap.size = g) (hT : T < g) (hp : FrPN (g + 1) F (.agg #[.int .i64 F.kind, .int .i64 F.flags, .int .i64 F.stream, .slice ap2 F.pay.length cp2]) W) (hF : nextIF s = F) (hE : nextIE s = e) (hS : nextIS s = s') :
    ∃ fv O', Ending.returned (.tuple #[.agg #[.int .i64 F.kind, .int .i64 F.flags, .int .i64 F.stream, .slice ap2 F.pay.length cp2], .int .i64 e]) = .returned (.tuple #[fv, .int .i64 (nextIE s)]) ∧ FrN w.heap.size O' (W.setRow g #[.int .i64 F.kind, .int .i64 F.flags, .int .i64 F.stream, .slice ap2 F.pay.length cp2]) fv (nextIF s) ∧ InAt (W.setRow g #[.int .i64 F.kind, .int .i64 F.flags, .int .i64 F.stream, .slice ap2 F.pay.length cp2]) T O' N (nextIS s) ∧ Turn (fun k => k = T ∨ O = some k) w (W.setRow g #[.int .i64 F.kind, .int .i64 F.flags, .int .i64 F.stream, .slice ap2 F.pay.length cp2]) ∧ (O' = O ∨ ∀ k, O' = some k → w.heap.size ≤ k) := by
  obtain ⟨ap', cp', e6, h7, h8, h9⟩ := hp
  have hsz : ap2 = ap' ∧ cp2 = cp' := by simp at e6; exact e6
  obtain ⟨rfl, rfl⟩ := hsz
  have hgr := Turn.of_grown (setRow_grown W g #[.int .i64 F.kind, .int .i64 F.flags, .int .i64 F.stream, .slice ap2 F.pay.length cp2])
  have hcl : ∀ k, cv'.ownBlock = some k → k < g := fun k hk => by
    rcases hO with e | e
    · exact hOl k (e ▸ hk)
    · rw [e] at hk; cases hk
  refine ⟨_, cv'.ownBlock, by rw [hE], ⟨_, by rw [hF], by rw [hF]; exact h7.turn hgr (fun k hk => by have := h9 k hk; omega), fun k hk => ⟨by have := h9 k hk; omega, ?_, fun e => by have := h9 k hk; have := hcl k e; omega⟩⟩, ?_, ?_, ?_⟩
  · obtain ⟨cs, fr, e⟩ := h8 k hk
    exact Nat.lt_of_lt_of_le (Array.getElem?_eq_some_iff.1 e).1 hgr.size
  · rw [hS]
    exact ⟨cv', cs', told', h1.turn hgr (by omega) (fun k hk => by have := hcl k hk; omega), h2, h3, h4, h5, rfl⟩
  · exact (ht.mono (fun k _ hk => .inl hk)).trans' hgr (fun k hk e => by omega)
  · exact hO.imp_right (fun e k hk => by rw [e] at hk; cases hk)
theorem pnext_zero {w W : World} {T N : Nat} {O : Option Nat} {s : Ik} {e : Int} (h : InAt W T O N s) (ht : Below w.heap.size w W) (hF : nextIF s = Fr.zero) (hE : nextIE s = e) (hS : nextIS s = s) :
    ∃ fv O', Ending.returned (.tuple #[.agg #[.int .i64 0, .int .i64 0, .int .i64 0, .slice none 0 0], .int .i64 e]) = .returned (.tuple #[fv, .int .i64 (nextIE s)]) ∧ FrN w.heap.size O' W fv (nextIF s) ∧ InAt W T O' N (nextIS s) ∧ Turn (fun k => k = T ∨ O = some k) w W ∧ (O' = O ∨ ∀ k, O' = some k → w.heap.size ≤ k) := by
  refine ⟨_, O, by rw [hE], ⟨.slice none 0 0, by rw [hF]; rfl, by rw [hF]; exact Sl.nil _ _, fun g hg => by cases hg⟩, by rw [hS]; exact h, Turn.of_below ht, .inl rfl⟩

theorem pNext_nil (w : World) : Calls Try.prog 10 #[.pointer none] w fun e w' => ∃ fv, e = .returned (.tuple #[fv, .int .i64 1]) ∧ FrV w' fv Fr.zero ∧ Below w.heap.size w w' := by
  obtain ⟨W1, hW1⟩ : ∃ W1, w.alloc (.cells #[.int .i64 0, .int .i64 0, .int .i64 0, .slice none 0 0] 36) = W1 := ⟨_, rfl⟩
  obtain ⟨g, hg⟩ : ∃ g, w.heap.size = g := ⟨_, rfl⟩
  have HB1 := Lib.hid (show Below w.heap.size w W1 ∧ W1.heap[g]? = some (.cells #[.int .i64 0, .int .i64 0, .int .i64 0, .slice none 0 0] 36 (0, 0)) ∧ w.heap.size = g from by
    rw [← hW1, ← hg]; exact ⟨(Below.refl _ _).alloc (Nat.le_refl _) _, heap_alloc_new _ _, rfl⟩)
  go_enter Try.func10, Try.ntmps10
  go_wp2_with (refine store_fr13 rfl (.tmp 2) (.tmp 10) rfl g Fr.zero none 0 0 _ rfl rfl HB1.out.2.1 rfl ?_)
  simp only [Fr.zero]
  have HZ := Lib.hid (show Below w.heap.size w (W1.setRow g #[.int .i64 0, .int .i64 0, .int .i64 0, .slice none 0 0]) ∧ (W1.setRow g #[.int .i64 0, .int .i64 0, .int .i64 0, .slice none 0 0]).heap[g]? = some (.cells #[.int .i64 0, .int .i64 0, .int .i64 0, .slice none 0 0] 36 (0, 0)) from ⟨below_setRow HB1.out.1 (by rw [HB1.out.2.2]; exact Nat.le_refl _) _, setRow_heap _ _ _ _ _ _ HB1.out.2.1⟩)
  refine bodyPost_ret (results_row_tmp1 rfl _ _ g 36 #[.int .i64 0, .int .i64 0, .int .i64 0, .slice none 0 0] (0, 0) _ rfl HZ.out.2 Try.underlying36 rfl (by kernel_rfl)) rfl ?_
  exact ⟨_, rfl, FrV.zero _, HZ.out.1⟩

set_option maxHeartbeats 8000000 in
theorem pNext_any (T N : Nat) (O : Option Nat) (s : Ik) (w : World) (h : InAt w T O N s) (hN : N ≤ 10000000) : Calls Try.prog 10 #[.pointer (some ⟨T, 0, none⟩)] w fun e w' =>
    ∃ fv O', e = .returned (.tuple #[fv, .int .i64 (nextIE s)]) ∧ FrN w.heap.size O' w' fv (nextIF s) ∧ InAt w' T O' N (nextIS s) ∧ Turn (fun k => k = T ∨ O = some k) w w' ∧ (O' = O ∨ ∀ g, O' = some g → w.heap.size ≤ g) := by
  have h0 := h
  obtain ⟨most, got, begun, over⟩ := s
  obtain ⟨cv, cs, told, ho, ha, hb, hc, hd, rfl⟩ := h
  simp only at ho ha hb hd
  obtain ⟨a, c, rfl, _⟩ := id ho.came.sl
  obtain ⟨W1, hW1⟩ : ∃ W1, w.alloc (.cells #[.int .i64 0, .int .i64 0, .int .i64 0, .slice none 0 0] 36) = W1 := ⟨_, rfl⟩
  obtain ⟨g, hg⟩ : ∃ g, w.heap.size = g := ⟨_, rfl⟩
  have HB1 := Lib.hid (show Below w.heap.size w W1 ∧ W1.heap[g]? = some (.cells #[.int .i64 0, .int .i64 0, .int .i64 0, .slice none 0 0] 36 (0, 0)) ∧ T < g ∧ g < W1.heap.size ∧ w.heap.size = g ∧ W1.heap.size = g + 1 from by
    rw [← hW1, ← hg]; exact ⟨(Below.refl _ _).alloc (Nat.le_refl _) _, heap_alloc_new _ _, ho.blk.lt, by simp, rfl, by simp⟩)
  have hle := ho.le
  have hlen : cs.length ≤ 2 * N := by
    have : (cs.drop told).length ≤ N := by rw [ha]; exact hb
    rw [List.length_drop] at this
    omega
  obtain ⟨f0, f1, f2, f3, f4, f5⟩ := (ho.below HB1.out.1).blk.cells
  by_cases hov : over = 0
  rotate_left
  · have d0 : (over != 0) = true := by simpa using hov
    have HE := Lib.hid (nextI_over (s := ⟨most, got, begun, over⟩) hov)
    have HA := Lib.hid h0
    clear hov ha hb hc hd hN ho hle hlen h0
    go_enter Try.func10, Try.ntmps10
    go_wp2_with fail
    clear hW1
    refine wp_region_held (S := fun w' => w'.cell? ⟨T, 4, none⟩ = some (.int .i64 over)) (by kernel_rfl) ?_
    have s1 : ({ W1 with drawn := W1.drawn + 1 } : World).cell? ⟨T, 4, none⟩ = some (.int .i64 over) := f4
    have HQ := Lib.hid (show Below w.heap.size w ({ W1 with drawn := W1.drawn + 1 } : World) ∧ ({ W1 with drawn := W1.drawn + 1 } : World).heap[g]? = some (.cells #[.int .i64 0, .int .i64 0, .int .i64 0, .slice none 0 0] 36 (0, 0)) from ⟨HB1.out.1.drew, HB1.out.2.1⟩)
    generalize ({ W1 with drawn := W1.drawn + 1 } : World) = W2 at s1 HQ ⊢
    clear f0 f1 f2 f3 f4 f5
    refine wpAnyH_early 0 17 (.agg #[.int .i64 0, .int .i64 0, .int .i64 0, .slice none 0 0]) (by kernel_rfl) (by kernel_rfl) (by kernel_rfl) (fun _ _ _ h => h) rfl (fun o ho => by obtain rfl := Option.some.inj ho; exact .inl ⟨rfl, fun W hS => by kernel_rfl⟩) s1 ?_
    simp only [Act.put, List.setIfInBounds_toArray, List.set_cons_zero, List.set_cons_succ]
    refine wpAnyH_early 1 18 (.pointer (some ⟨T, 0, none⟩)) (by kernel_rfl) (by kernel_rfl) (by kernel_rfl) (fun _ _ _ h => h) rfl (fun o ho => by obtain rfl := Option.some.inj ho; exact .inl ⟨rfl, fun W hS => rfl⟩) s1 ?_
    simp only [Act.put, List.setIfInBounds_toArray, List.set_cons_zero, List.set_cons_succ]
    refine wpAnyH_early 2 19 (.pointer (some ⟨T, 0, none⟩)) (by kernel_rfl) (by kernel_rfl) (by kernel_rfl) (fun _ _ _ h => h) rfl (fun o ho => by obtain rfl := Option.some.inj ho; exact .inl ⟨rfl, fun W hS => rfl⟩) s1 ?_
    simp only [Act.put, List.setIfInBounds_toArray, List.set_cons_zero, List.set_cons_succ]
    refine wpAnyH_early 3 20 (.pointer (some ⟨T, 4, none⟩)) (by kernel_rfl) (by kernel_rfl) (by kernel_rfl) (fun _ _ _ h => h) rfl (fun o ho => by obtain rfl := Option.some.inj ho; exact .inl ⟨rfl, fun W hS => rfl⟩) s1 ?_
    simp only [Act.put, List.setIfInBounds_toArray, List.set_cons_zero, List.set_cons_succ]
    refine wpAnyH_early 4 21 (.int .i64 over) (by kernel_rfl) (by kernel_rfl) (by kernel_rfl) (fun _ _ _ h => h) rfl (fun o ho => by obtain rfl := Option.some.inj ho; exact .inl ⟨rfl, fun W hS => by simp [execOp, go_sem, hS]⟩) s1 ?_
    simp only [Act.put, List.setIfInBounds_toArray, List.set_cons_zero, List.set_cons_succ]
    refine wpAnyH_only 5 (by kernel_rfl) rfl (fun o ho => ?_)
    obtain rfl := Option.some.inj ho
    have s2 : (W2.setRow g #[.int .i64 0, .int .i64 0, .int .i64 0, .slice none 0 0]).cell? ⟨T, 4, none⟩ = some (.int .i64 over) := by
      rw [cell_setRow_other _ _ _ _ (by show T ≠ g; have := HB1.out.2.2.1; omega)]; exact s1
    refine wp_fr13 rfl (.tmp 2) (.tmp 17) rfl g Fr.zero none 0 0 _ rfl rfl HQ.out.2 rfl ⟨s2, ?_⟩
    simp only [Fr.zero]
    have HZ := Lib.hid (show Below w.heap.size w (W2.setRow g #[.int .i64 0, .int .i64 0, .int .i64 0, .slice none 0 0]) ∧ (W2.setRow g #[.int .i64 0, .int .i64 0, .int .i64 0, .slice none 0 0]).heap[g]? = some (.cells #[.int .i64 0, .int .i64 0, .int .i64 0, .slice none 0 0] 36 (0, 0)) from
      ⟨below_setRow HQ.out.1 (by rw [HB1.out.2.2.2.2.1]; exact Nat.le_refl _) _, setRow_heap _ _ _ _ _ _ HQ.out.2⟩)
    generalize W2.setRow g #[.int .i64 0, .int .i64 0, .int .i64 0, .slice none 0 0] = W3 at s2 HZ ⊢
    refine wpAnyH_early 6 3 (.int .i64 over) (by kernel_rfl) (by kernel_rfl) (by kernel_rfl) (fun _ _ _ h => h) rfl (fun o ho => by obtain rfl := Option.some.inj ho; exact .inl ⟨rfl, fun W hS => rfl⟩) s2 ?_
    simp only [Act.put, List.setIfInBounds_toArray, List.set_cons_zero, List.set_cons_succ]
    refine wpAnyH_done (by kernel_rfl) ?_ _
    go_wp2_with fail
    refine bodyPost_ret (results_row_tmp1 rfl _ _ g 36 #[.int .i64 0, .int .i64 0, .int .i64 0, .slice none 0 0] (0, 0) _ rfl HZ.out.2 Try.underlying36 rfl (by kernel_rfl)) rfl ?_
    obtain ⟨e1, e2, e3⟩ := HE.out
    exact pnext_zero (HA.out.turn (Turn.of_below HZ.out.1 (S := fun _ => False)) id (fun _ _ => id)) HZ.out.1 e1 e2 e3
  subst hov
  have d0 : ((0 : Int) != 0) = false := rfl
  cases begun
  · have HE := Lib.hid (nextI_more (s := ⟨most, got, false, 0⟩) rfl rfl)
    have HA := Lib.hid h0
    clear ha hb hc hd hN ho hle hlen h0
    go_enter Try.func10, Try.ntmps10
    go_wp2_with (refine store_fr13 rfl (.tmp 2) (.tmp 28) rfl g ⟨0, 0, 0, []⟩ none 0 0 _ rfl rfl HB1.out.2.1 rfl ?_)
    have HZ := Lib.hid (show Below w.heap.size w (W1.setRow g #[.int .i64 0, .int .i64 0, .int .i64 0, .slice none 0 0]) ∧ (W1.setRow g #[.int .i64 0, .int .i64 0, .int .i64 0, .slice none 0 0]).heap[g]? = some (.cells #[.int .i64 0, .int .i64 0, .int .i64 0, .slice none 0 0] 36 (0, 0)) from ⟨below_setRow HB1.out.1 (by rw [HB1.out.2.2.2.2.1]; exact Nat.le_refl _) _, setRow_heap _ _ _ _ _ _ HB1.out.2.1⟩)
    refine bodyPost_ret (results_row_tmp1 rfl _ _ g 36 #[.int .i64 0, .int .i64 0, .int .i64 0, .slice none 0 0] (0, 0) _ rfl HZ.out.2 Try.underlying36 rfl (by kernel_rfl)) rfl ?_
    obtain ⟨e1, e2, e3⟩ := HE.out
    exact pnext_zero (HA.out.turn (Turn.of_below HZ.out.1 (S := fun _ => False)) id (fun _ _ => id)) HZ.out.1 e1 e2 e3
  · clear hd h0
    have hfit := ho.came.sl.fit
    obtain ⟨L, hL⟩ : ∃ L, cs.length = L := ⟨_, rfl⟩
    obtain ⟨vr, hrun, hvr⟩ := ho.came.sl.from_ Try.sliceB Try.sizeB (told : Int) (by omega) (by omega)
    rw [Int.toNat_natCast, ha] at hvr
    have HGv := Lib.hid (hvr.below HB1.out.1)
    obtain ⟨n, hn, hnl⟩ := nextN_nat got most (by rw [← ha]; exact hfit.drop told)
    have HNl := Lib.hid (And.intro hn hnl)
    have HC := Lib.hid (show cs.drop told = got ∧ got.length ≤ N ∧ 2 * told ≤ cs.length ∧ told ≤ cs.length ∧ cs.length ≤ 20000000 from ⟨ha, hb, hc, hle, by omega⟩)
    have HOl := Lib.hid (show ∀ k, (Value.slice a L c).ownBlock = some k → k < g from fun k hk => by rw [← HB1.out.2.2.2.2.1]; exact ho.came.lt k (by rw [hL]; exact hk))
    obtain ⟨F, hF⟩ : ∃ F, F = nextF got most := ⟨_, rfl⟩
    obtain ⟨e, he⟩ : ∃ e, e = nextE got most := ⟨_, rfl⟩
    have HG := Lib.hid (show nextIF ⟨most, got, true, 0⟩ = F ∧ nextIE ⟨most, got, true, 0⟩ = e from by rw [hF, he]; exact nextI_go rfl rfl)
    have HFn := Lib.hid (And.intro hF (And.intro hn.symm he))
    have HC3 := Lib.hid (show e = 0 ∨ e = 2 ∨ e = 4 from by rw [he]; exact nextE_cases _ _)
    have HB := Lib.hid (ho.below HB1.out.1)
    rw [hL] at hrun HB f2 ⊢
    have HVr := Lib.hid hrun
    have htl : told ≤ 20000000 := by omega
    clear hF hn he ha hb hc hN ho hle hlen hfit hrun hvr hnl hL
    go_enter Try.func10, Try.ntmps10
    go_wp2_with fail
    clear f0 f1 f2 f3 f4 f5 hW1
    refine wp_region_late 19 [30, 31, 32, 33, 34, 35, 36, 37, 38, 39, 40, 41, 42, 43, 29, 44, 45, 46, 4] [[], [(0, 30)], [(1, 31)], [(2, 32)], [], [(4, 34)], [(5, 35)], [(6, 36)], [(3, 33), (7, 37)], [], [(9, 39)], [(10, 40)], [(11, 41)], [(8, 38), (12, 42)], [(13, 43)], [(14, 29)], [(14, 29)], [(14, 29)], []] [16, 17]
      (fun i v w' => match i with
        | 0 => v = .pointer (some ⟨T, 0, none⟩)
        | 1 => v = .pointer (some ⟨T, 0, none⟩)
        | 2 => v = .pointer (some ⟨T, 2, none⟩)
        | 3 => v = .slice a L c
        | 4 => v = .pointer (some ⟨T, 0, none⟩)
        | 5 => v = .pointer (some ⟨T, 0, none⟩)
        | 6 => v = .pointer (some ⟨T, 3, none⟩)
        | 7 => v = .int .i64 told
        | 8 => Sl .u8 w' v got
        | 9 => v = .pointer (some ⟨T, 0, none⟩)
        | 10 => v = .pointer (some ⟨T, 0, none⟩)
        | 11 => v = .pointer (some ⟨T, 0, none⟩)
        | 12 => v = .int .i64 most
        | 13 => NxN W1.heap.size F (n : Int) e v w'
        | 14 => NxN W1.heap.size F (n : Int) e v w'
        | 15 => FrPN W1.heap.size F v w'
        | 16 => v = .int .i64 (n : Int)
        | 17 => v = .int .i64 e
        | 18 => NewF W1.heap.size v w'
        | _ => True) (by kernel_rfl) (by kernel_rfl) ?tStab ?tOps ?tLate ?tRest
    case tStab =>
      intro i v w3 w4 h hb
      match i, h with
      | 0, h | 1, h | 2, h | 3, h | 4, h | 5, h | 6, h | 7, h | 9, h | 10, h | 11, h | 12, h | 16, h | 17, h => exact h
      | 8, h => exact Sl.below h hb
      | 13, h => exact NxN.below h hb
      | 14, h => exact NxN.below h hb
      | 15, h => exact FrPN.below h hb
      | 18, h => exact NewF.below h hb
      | i + 19, _ => trivial
    case tOps =>
      simp only [List.take_succ_cons, List.take_zero, opsOk]
      refine ⟨?_, ?_, ?_, ?_, ?_, ?_, ?_, ?_, ?_, ?_, ?_, ?_, ?_, ?_, ?_, ?_, ?_, ?_, ?_, trivial⟩
      · intro ρ w3 hc hf ho hB hj
        have x0 : ρ (.tmp 0) = .pointer (some ⟨T, 0, none⟩) := ho 0 (by decide)
        simp [gives, go_sem, x0, Below.refl]
      · intro ρ w3 hc hf ho hB hj
        have x0 : ρ (.tmp 30) = .pointer (some ⟨T, 0, none⟩) := hj (0, 30) (by simp)
        simp [gives, go_sem, x0, Below.refl]
      · intro ρ w3 hc hf ho hB hj
        have x0 : ρ (.tmp 31) = .pointer (some ⟨T, 0, none⟩) := hj (1, 31) (by simp)
        simp [gives, go_sem, x0, Below.refl]
      · intro ρ w3 hc hf ho hB hj
        have x0 : ρ (.tmp 32) = .pointer (some ⟨T, 2, none⟩) := hj (2, 32) (by simp)
        obtain ⟨f0, f1, f2, f3, f4, f5⟩ := IkBlk.cells (HB.out.blk.below hB)
        simp [gives, go_sem, x0, f2, Below.refl]
      · intro ρ w3 hc hf ho hB hj
        have x0 : ρ (.tmp 0) = .pointer (some ⟨T, 0, none⟩) := ho 0 (by decide)
        simp [gives, go_sem, x0, Below.refl]
      · intro ρ w3 hc hf ho hB hj
        have x0 : ρ (.tmp 34) = .pointer (some ⟨T, 0, none⟩) := hj (4, 34) (by simp)
        simp [gives, go_sem, x0, Below.refl]
      · intro ρ w3 hc hf ho hB hj
        have x0 : ρ (.tmp 35) = .pointer (some ⟨T, 0, none⟩) := hj (5, 35) (by simp)
        simp [gives, go_sem, x0, Below.refl]
      · intro ρ w3 hc hf ho hB hj
        have x0 : ρ (.tmp 36) = .pointer (some ⟨T, 3, none⟩) := hj (6, 36) (by simp)
        obtain ⟨f0, f1, f2, f3, f4, f5⟩ := IkBlk.cells (HB.out.blk.below hB)
        simp [gives, go_sem, x0, f3, Below.refl]
      · intro ρ w3 hc hf ho hB hj
        have x0 : ρ (.tmp 33) = .slice a L c := hj (3, 33) (by simp)
        have x1 : ρ (.tmp 37) = .int .i64 told := hj (7, 37) (by simp)
        have i1 := HVr.out .i64
        simp [gives, go_sem, x0, x1, i1]
        exact ⟨HGv.out.below hB, Below.refl _ _⟩
      · intro ρ w3 hc hf ho hB hj
        have x0 : ρ (.tmp 0) = .pointer (some ⟨T, 0, none⟩) := ho 0 (by decide)
        simp [gives, go_sem, x0, Below.refl]
      · intro ρ w3 hc hf ho hB hj
        have x0 : ρ (.tmp 39) = .pointer (some ⟨T, 0, none⟩) := hj (9, 39) (by simp)
        simp [gives, go_sem, x0, Below.refl]
      · intro ρ w3 hc hf ho hB hj
        have x0 : ρ (.tmp 40) = .pointer (some ⟨T, 0, none⟩) := hj (10, 40) (by simp)
        simp [gives, go_sem, x0, Below.refl]
      · intro ρ w3 hc hf ho hB hj
        have x0 : ρ (.tmp 41) = .pointer (some ⟨T, 0, none⟩) := hj (11, 41) (by simp)
        obtain ⟨f0, f1, f2, f3, f4, f5⟩ := IkBlk.cells (HB.out.blk.below hB)
        simp [gives, go_sem, x0, f0, Below.refl]
      · intro ρ w3 hc hf ho hB hj
        have x0 : Sl .u8 w3 (ρ (.tmp 38)) got := hj (8, 38) (by simp)
        have x1 : ρ (.tmp 42) = .int .i64 most := hj (12, 42) (by simp)
        obtain ⟨gv, hgv⟩ : ∃ gv, ρ (.tmp 38) = gv := ⟨_, rfl⟩
        rw [hgv] at x0
        simp [gives, go_sem, x1, hf, hgv]
        have hcc := next_nxn gv got most w3 x0
        rw [← HFn.out.1, ← HFn.out.2.1, ← HFn.out.2.2] at hcc
        exact hcc.mono fun e w' ⟨v, h1, h2, h3⟩ => ⟨v, h1, h2.mono hB.size, h3⟩
      · intro ρ w3 hc hf ho hB hj
        have x0 : NxN W1.heap.size F (n : Int) e (ρ (.tmp 43)) w3 := hj (13, 43) (by simp)
        obtain ⟨ap, cp, x0, hs0⟩ := x0
        simp [gives, go_sem, x0]
        exact ⟨⟨ap, cp, rfl, hs0⟩, Below.refl _ _⟩
      · intro ρ w3 hc hf ho hB hj
        have x0 : NxN W1.heap.size F (n : Int) e (ρ (.tmp 29)) w3 := hj (14, 29) (by simp)
        obtain ⟨ap, cp, x0, hs0⟩ := x0
        simp [gives, go_sem, x0]
        exact ⟨⟨ap, cp, rfl, hs0⟩, Below.refl _ _⟩
      · intro ρ w3 hc hf ho hB hj
        have x0 : NxN W1.heap.size F (n : Int) e (ρ (.tmp 29)) w3 := hj (14, 29) (by simp)
        obtain ⟨ap, cp, x0, hs0⟩ := x0
        simp [gives, go_sem, x0, Below.refl]
      · intro ρ w3 hc hf ho hB hj
        have x0 : NxN W1.heap.size F (n : Int) e (ρ (.tmp 29)) w3 := hj (14, 29) (by simp)
        obtain ⟨ap, cp, x0, hs0⟩ := x0
        simp [gives, go_sem, x0, Below.refl]
      · intro ρ w3 hc hf ho hB hj
        simp [gives, go_sem]
        exact ⟨⟨_, rfl, hB.size, by simp, heap_alloc_new _ _⟩, (Below.refl _ _).alloc (Nat.le_refl _) _⟩
    case tLate =>
      intro i hi _ o ho
      simp only [List.mem_cons, List.not_mem_nil, or_false] at hi
      rcases hi with rfl | rfl
      · obtain rfl := Option.some.inj ho
        intro ρ w3 hc _ _ hj
        obtain ⟨ap, cp, x0, _⟩ := hj (14, 29) (by simp)
        exact ⟨_, fun w' => by simp [go_sem, x0], rfl⟩
      · obtain rfl := Option.some.inj ho
        intro ρ w3 hc _ _ hj
        obtain ⟨ap, cp, x0, _⟩ := hj (14, 29) (by simp)
        exact ⟨_, fun w' => by simp [go_sem, x0], rfl⟩
    case tRest =>
      intro X w3 hBw hX
      have x0 : X 0 = .pointer (some ⟨T, 0, none⟩) := hX 0 (by decide)
      have x1 : X 1 = .pointer (some ⟨T, 0, none⟩) := hX 1 (by decide)
      have x2 : X 2 = .pointer (some ⟨T, 2, none⟩) := hX 2 (by decide)
      have x3 : X 3 = .slice a L c := hX 3 (by decide)
      have x4 : X 4 = .pointer (some ⟨T, 0, none⟩) := hX 4 (by decide)
      have x5 : X 5 = .pointer (some ⟨T, 0, none⟩) := hX 5 (by decide)
      have x6 : X 6 = .pointer (some ⟨T, 3, none⟩) := hX 6 (by decide)
      have x7 : X 7 = .int .i64 told := hX 7 (by decide)
      have x8 := hX 8 (by decide)
      have x9 : X 9 = .pointer (some ⟨T, 0, none⟩) := hX 9 (by decide)
      have x10 : X 10 = .pointer (some ⟨T, 0, none⟩) := hX 10 (by decide)
      have x11 : X 11 = .pointer (some ⟨T, 0, none⟩) := hX 11 (by decide)
      have x12 : X 12 = .int .i64 most := hX 12 (by decide)
      have x13 := hX 13 (by decide)
      have x14 := hX 14 (by decide)
      have x15 := hX 15 (by decide)
      have x16 : X 16 = .int .i64 (n : Int) := hX 16 (by decide)
      have x17 : X 17 = .int .i64 e := hX 17 (by decide)
      have x18 := hX 18 (by decide)
      simp only [putAll, List.getD_cons_zero, List.getD_cons_succ, Act.put, List.setIfInBounds_toArray, List.set_cons_zero, List.set_cons_succ, List.drop_succ_cons, List.drop_zero]
      rw [x0, x1, x2, x3, x4, x5, x6, x7, x9, x10, x11, x12, x16, x17]
      obtain ⟨ap, cp, e13, _⟩ := x13
      obtain ⟨ap1, cp1, e14, _⟩ := x14
      obtain ⟨ap2, cp2, e15, hs8, ht8, hn8⟩ := x15
      obtain ⟨C, e18, hC1, hC2, hC3⟩ := x18
      rw [e13, e14, e15, e18]
      have HC9 := Lib.hid hC3
      have hbb := below_setRow hBw hC1 #[.int .i64 F.kind, .int .i64 F.flags, .int .i64 F.stream, .slice ap2 F.pay.length cp2]
      have HW5 := Lib.hid (show IkObj (w3.setRow C #[.int .i64 F.kind, .int .i64 F.flags, .int .i64 F.stream, .slice ap2 F.pay.length cp2]) T most true (.slice a L c) cs told 0 ∧ Turn (fun k => k = T) w (w3.setRow C #[.int .i64 F.kind, .int .i64 F.flags, .int .i64 F.stream, .slice ap2 F.pay.length cp2]) ∧ (w3.setRow C #[.int .i64 F.kind, .int .i64 F.flags, .int .i64 F.stream, .slice ap2 F.pay.length cp2]).heap[g]? = some (.cells #[.int .i64 0, .int .i64 0, .int .i64 0, .slice none 0 0] 36 (0, 0)) ∧ (w3.setRow C #[.int .i64 F.kind, .int .i64 F.flags, .int .i64 F.stream, .slice ap2 F.pay.length cp2]).heap[C]? = some (.cells #[.int .i64 F.kind, .int .i64 F.flags, .int .i64 F.stream, .slice ap2 F.pay.length cp2] 36 (0, 0)) ∧ FrPN (g + 1) F (.agg #[.int .i64 F.kind, .int .i64 F.flags, .int .i64 F.stream, .slice ap2 F.pay.length cp2]) (w3.setRow C #[.int .i64 F.kind, .int .i64 F.flags, .int .i64 F.stream, .slice ap2 F.pay.length cp2]) from
        ⟨HB.out.below hbb, Turn.of_below (HB1.out.1.trans (hbb.mono HB1.out.1.size)), (hbb.block g HB1.out.2.2.2.1).trans HB1.out.2.1, setRow_heap _ _ _ _ _ _ hC3, ⟨ap2, cp2, rfl, hs8.kept (setRow_grown _ _ _) (ty_ne ht8 hC3 (by decide)), ht8.kept (setRow_grown _ _ _) (ty_ne ht8 hC3 (by decide)), fun k hk => by rw [← HB1.out.2.2.2.2.2]; exact hn8 k hk⟩⟩)
      have HCn := Lib.hid (show T ≠ C ∧ T ≠ g ∧ g ≠ C ∧ g ≤ C ∧ T < g from by have h1 := HB1.out.2.2.1; have h2 := HB1.out.2.2.2.1; omega)
      clear x0 x1 x2 x3 x4 x5 x6 x7 x8 x9 x10 x11 x12 e13 e14 e15 e18 x16 x17 hC1 hC2 hC3 hBw hX hs8 ht8 hn8 hbb
      go_wp2_with (refine store_fr13 rfl (.tmp 4) (.tmp 44) rfl C F ap2 F.pay.length cp2 _ rfl rfl HC9.out rfl ?_)
      refine Calm.intro ?_
      generalize w3.setRow C #[.int .i64 F.kind, .int .i64 F.flags, .int .i64 F.stream, .slice ap2 F.pay.length cp2] = W5 at HW5 ⊢
      rcases HC3.out with rfl | rfl | rfl
      · have hnl : told + n ≤ cs.length := by
          have h1 := HC.out
          have h2 := HNl.out.2 HFn.out.2.2.symm
          rw [← h1.1, List.length_drop] at h2
          omega
        have HNb := Lib.hid hnl
        clear hnl
        go_wp2_with fail
        refine (tell_obj W5 n HW5.out.1 HNb.out (by have := HC.out; omega)).mono ?_
        rintro e w6 ⟨rfl, cv', cs', told', h1, h2, h3, h4, h5⟩
        have HT := Lib.hid (And.intro h1 (And.intro h2 (And.intro h3 (And.intro h4 h5))))
        have HW7 := Lib.hid (show Turn (fun k => k = T) w w6 ∧ w6.heap[g]? = some (.cells #[.int .i64 0, .int .i64 0, .int .i64 0, .slice none 0 0] 36 (0, 0)) ∧ w6.heap[C]? = some (.cells #[.int .i64 F.kind, .int .i64 F.flags, .int .i64 F.stream, .slice ap2 F.pay.length cp2] 36 (0, 0)) ∧ FrPN (g + 1) F (.agg #[.int .i64 F.kind, .int .i64 F.flags, .int .i64 F.stream, .slice ap2 F.pay.length cp2]) w6 from by
          obtain ⟨_, k1, k2, k3, ap', cp', k4, k5, k6, k7⟩ := HW5.out
          have hne : ∀ k, (Value.slice ap' F.pay.length cp').ownBlock = some k → ¬ k = T := fun k hk e => by have := k7 k hk; have := HCn.out; omega
          exact ⟨k1.trans h5, h5.obj k2 (fun e => HCn.out.2.1 e.symm), h5.obj k3 (fun e => HCn.out.1 e.symm), ⟨ap', cp', k4, k5.turn h5 hne, k6.turn h5 hne, k7⟩⟩)
        clear h1 h2 h3 h4 h5
        have q0 := blk_cell (j := 0) HW7.out.2.2.1 rfl
        have q1 := blk_cell (j := 1) HW7.out.2.2.1 rfl
        have q2 := blk_cell (j := 2) HW7.out.2.2.1 rfl
        have q3 := blk_cell (j := 3) HW7.out.2.2.1 rfl
        have q4 := (Array.getElem?_eq_some_iff.1 HW7.out.2.2.1).1
        go_wp2_with (refine store_fr13 rfl (.tmp 2) (.tmp 58) rfl g F ap2 F.pay.length cp2 _ rfl rfl HW7.out.2.1 rfl ?_)
        refine bodyPost_ret (results_row_tmp1 rfl _ _ g 36 #[.int .i64 F.kind, .int .i64 F.flags, .int .i64 F.stream, .slice ap2 F.pay.length cp2] (0, 0) _ rfl (setRow_heap _ _ _ _ _ _ HW7.out.2.1) Try.underlying36 rfl (by kernel_rfl)) rfl ?_
        obtain ⟨h1, h2, h3, h4, h5⟩ := HT.out
        have he0 : nextE got most = 0 := HFn.out.2.2.symm
        have hst : nextIS ⟨most, got, true, 0⟩ = ⟨most, got.drop n, true, 0⟩ := by
          simp [nextIS, he0, HNl.out.1]
        exact pnext_end (s' := ⟨most, got.drop n, true, 0⟩) h1 (by rw [h2, ← List.drop_drop, HC.out.1]) (by have := HC.out.2.1; simp only [List.length_drop]; omega) h3 (fun _ e => by cases e) h4 HOl.out HW7.out.1 HW7.out.2.1 HB1.out.2.2.2.2.1 HCn.out.2.2.2.2 HW7.out.2.2.2 HG.out.1 HG.out.2 hst
      · have HW7 := Lib.hid (show Turn (fun k => k = T) w W5 ∧ W5.heap[g]? = some (.cells #[.int .i64 0, .int .i64 0, .int .i64 0, .slice none 0 0] 36 (0, 0)) ∧ W5.heap[C]? = some (.cells #[.int .i64 F.kind, .int .i64 F.flags, .int .i64 F.stream, .slice ap2 F.pay.length cp2] 36 (0, 0)) ∧ FrPN (g + 1) F (.agg #[.int .i64 F.kind, .int .i64 F.flags, .int .i64 F.stream, .slice ap2 F.pay.length cp2]) W5 from HW5.out.2)
        have q0 := blk_cell (j := 0) HW7.out.2.2.1 rfl
        have q1 := blk_cell (j := 1) HW7.out.2.2.1 rfl
        have q2 := blk_cell (j := 2) HW7.out.2.2.1 rfl
        have q3 := blk_cell (j := 3) HW7.out.2.2.1 rfl
        have q4 := (Array.getElem?_eq_some_iff.1 HW7.out.2.2.1).1
        go_wp2_with (refine store_fr13 rfl (.tmp 2) (.tmp 58) rfl g F ap2 F.pay.length cp2 _ rfl rfl HW7.out.2.1 rfl ?_)
        refine bodyPost_ret (results_row_tmp1 rfl _ _ g 36 #[.int .i64 F.kind, .int .i64 F.flags, .int .i64 F.stream, .slice ap2 F.pay.length cp2] (0, 0) _ rfl (setRow_heap _ _ _ _ _ _ HW7.out.2.1) Try.underlying36 rfl (by kernel_rfl)) rfl ?_
        have he2 : nextE got most = 2 := HFn.out.2.2.symm
        have hst : nextIS ⟨most, got, true, 0⟩ = ⟨most, got, true, 0⟩ := by simp [nextIS, he2]
        obtain ⟨fv, O', q1, q2, q3, q4, q5⟩ := pnext_end (s' := ⟨most, got, true, 0⟩) HW5.out.1 HC.out.1 HC.out.2.1 HC.out.2.2.1 (fun _ e => by cases e) (.inl rfl) HOl.out HW7.out.1 HW7.out.2.1 HB1.out.2.2.2.2.1 HCn.out.2.2.2.2 HW7.out.2.2.2 HG.out.1 HG.out.2 hst
        rw [HB1.out.2.2.2.2.1] at q2 q5
        exact ⟨fv, q1, O', q2, q3, q4, q5⟩
      · go_wp2_with fail
        refine (end_obj W5 4 HW5.out.1).mono ?_
        rintro e w6 ⟨rfl, h1, h5⟩
        have HT := Lib.hid (And.intro h1 h5)
        have HW7 := Lib.hid (show Turn (fun k => k = T) w w6 ∧ w6.heap[g]? = some (.cells #[.int .i64 0, .int .i64 0, .int .i64 0, .slice none 0 0] 36 (0, 0)) ∧ w6.heap[C]? = some (.cells #[.int .i64 F.kind, .int .i64 F.flags, .int .i64 F.stream, .slice ap2 F.pay.length cp2] 36 (0, 0)) ∧ FrPN (g + 1) F (.agg #[.int .i64 F.kind, .int .i64 F.flags, .int .i64 F.stream, .slice ap2 F.pay.length cp2]) w6 from by
          obtain ⟨_, k1, k2, k3, ap', cp', k4, k5, k6, k7⟩ := HW5.out
          have hne : ∀ k, (Value.slice ap' F.pay.length cp').ownBlock = some k → ¬ k = T := fun k hk e => by have := k7 k hk; have := HCn.out; omega
          exact ⟨k1.trans h5, h5.obj k2 (fun e => HCn.out.2.1 e.symm), h5.obj k3 (fun e => HCn.out.1 e.symm), ⟨ap', cp', k4, k5.turn h5 hne, k6.turn h5 hne, k7⟩⟩)
        clear h1 h5
        have q0 := blk_cell (j := 0) HW7.out.2.2.1 rfl
        have q1 := blk_cell (j := 1) HW7.out.2.2.1 rfl
        have q2 := blk_cell (j := 2) HW7.out.2.2.1 rfl
        have q3 := blk_cell (j := 3) HW7.out.2.2.1 rfl
        have q4 := (Array.getElem?_eq_some_iff.1 HW7.out.2.2.1).1
        go_wp2_with (refine store_fr13 rfl (.tmp 2) (.tmp 58) rfl g F ap2 F.pay.length cp2 _ rfl rfl HW7.out.2.1 rfl ?_)
        refine bodyPost_ret (results_row_tmp1 rfl _ _ g 36 #[.int .i64 F.kind, .int .i64 F.flags, .int .i64 F.stream, .slice ap2 F.pay.length cp2] (0, 0) _ rfl (setRow_heap _ _ _ _ _ _ HW7.out.2.1) Try.underlying36 rfl (by kernel_rfl)) rfl ?_
        have he4 : nextE got most = 4 := HFn.out.2.2.symm
        have hst : nextIS ⟨most, got, true, 0⟩ = ⟨most, [], true, 4⟩ := by simp [nextIS, he4]
        exact pnext_end (s' := ⟨most, [], true, 4⟩) HT.out.1 rfl (Nat.zero_le _) (Nat.zero_le _) (fun _ e => by cases e) (.inr rfl) HOl.out HW7.out.1 HW7.out.2.1 HB1.out.2.2.2.2.1 HCn.out.2.2.2.2 HW7.out.2.2.2 HG.out.1 HG.out.2 hst
end Go.Proofs.Ytappehjcbjplaaa
