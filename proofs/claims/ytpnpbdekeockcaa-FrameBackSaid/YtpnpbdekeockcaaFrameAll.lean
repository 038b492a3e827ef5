/-
  frame.All.
-/
import Derived.Test.YtpnpbdekeockcaaFrameIter
import Derived.WalkMore
import Derived.Shelf.Abstract
namespace Go.Proofs.Ytpnpbdekeockcaa
open Go.RowKit Go.Shelf
attribute [local go_sem] Oper.semAt_some

theorem Try.infoFr : (Try.prog.info? 25).map (fun i => (i.zero, i.size, i.bytes)) = some (some (.agg #[.int .i64 0, .int .i64 0, .int .i64 0, .slice none 0 0]), 4, 48) := by kernel_rfl

/-- what All's own blocks hold when these have come -/
def AllAt (tb tf tl ti te : TypeId) (B base : Nat) (w : World) (e : Int) (xs : List It) (W : World) : Prop :=
  (∃ (v : Value) (ps : List (Fr × Value)), W.heap[B]? = some (.cells #[v] tl (0, 0)) ∧ W.ownsRow base tf 4 v ps.length (flat ps) ∧ (∀ p ∈ ps, Sl .u8 W p.2 p.1.pay ∧ Ty W tb p.2) ∧ ps.map (·.1) = xs.map (·.f)) ∧
  (∀ x ∈ xs, x.err = 0 ∧ x.f.pay.length ≤ 1000000) ∧ W.heap[B + 1]? = some (.cells #[.int .i64 (cnt xs)] ti (0, 0)) ∧ W.heap[B + 2]? = some (.cells #[.int .i64 e] te (0, 0)) ∧ Below w.heap.size w W ∧ base ≤ W.heap.size

theorem cells_ne {A : World} {g l : Nat} {cs : Array Value} {t : TypeId} {fr : Nat × Nat} {o : Obj} (h : A.heap[g]? = some (.cells cs t fr)) (hl : A.heap[l]? = some o) (ho : o.isCells = false) : g ≠ l := by
  rintro rfl
  rw [h] at hl
  cases hl
  cases ho
theorem owned_cells {w : World} {base n size : Nat} {e : TypeId} {v : Value} {xs : List Value} (h : w.ownsRow base e size v n xs) : ∀ g, v.ownBlock = some g → ∃ cs fr, w.heap[g]? = some (.cells cs e fr) := fun g hg => Ty.of_own h g hg
theorem allAt_grows (tb tf tl ti te : TypeId) (B base : Nat) (w : World) (e : Int) : Grows (AllAt tb tf tl ti te B base w e) := by
  rintro s A W ⟨⟨v, ps, h7, hown, hps, hmap⟩, herr, h8, h9, hb, hsz⟩ hg
  have at_ : ∀ {k : Nat} {o : Obj}, A.heap[k]? = some o → W.heap[k]? = some o := fun h => (hg.block _ (Array.getElem?_eq_some_iff.1 h).1).trans h
  exact ⟨⟨v, ps, at_ h7, owned_below hown hg, fun p hp => ⟨(hps p hp).1.below hg, (hps p hp).2.below hg⟩, hmap⟩, herr, at_ h8, at_ h9, hb.trans (hg.mono hb.size), Nat.le_trans hsz hg.size⟩
theorem allAt_turns (tb tf tl ti te : TypeId) (B base : Nat) (w : World) (e : Int) (hwb : w.heap.size ≤ base) : Turns base (AllAt tb tf tl ti te B base w e) := by
  rintro s A l o o' ⟨⟨v, ps, h7, hown, hps, hmap⟩, herr, h8, h9, hb, hsz⟩ hl hlo ho
  have at_ : ∀ {k : Nat} {cs : Array Value} {t : TypeId} {fr : Nat × Nat}, A.heap[k]? = some (.cells cs t fr) → (A.putObj l o').heap[k]? = some (.cells cs t fr) := fun h => (World.putObj_heap_other (cells_ne h hlo ho)).trans h
  have hg := grownBy_putObj' A l o'
  have ty : ∀ {t : TypeId} {u : Value}, Ty A t u → ∀ g, u.ownBlock = some g → some l ≠ some g := fun hu g hug e => by
    obtain ⟨cs, fr, h⟩ := hu g hug
    exact cells_ne h hlo ho (Option.some.inj e).symm
  exact ⟨⟨v, ps, at_ h7, owned_kept hown hg (ty (Ty.of_own hown)), fun p hp => ⟨(hps p hp).1.kept hg (ty (hps p hp).2), (hps p hp).2.kept hg (ty (hps p hp).2)⟩, hmap⟩, herr, at_ h8, at_ h9, hb.trans (below_put A o o' (Nat.le_trans hwb hl) hlo), by rw [World.putObj_size]; exact hsz⟩
theorem keeps_grown {A W : World} {row : Option Nat} (b : Nat) (hg : A.grownBy W row) (hrow : ∀ g, row = some g → ∃ cs t fr, A.heap[g]? = some (.cells cs t fr)) : KeepsFrom b A W :=
  ⟨hg.size, fun k o _ hk ho => (hg.block k (Array.getElem?_eq_some_iff.1 hk).1 (fun e => by
    obtain ⟨cs, t, fr, h⟩ := hrow k e.symm
    exact cells_ne h hk ho rfl)).trans hk⟩
theorem cnt_le : ∀ (xs : List It), (∀ x ∈ xs, x.err = 0 ∧ x.f.pay.length ≤ 1000000) → cnt xs ≤ xs.length * 1000009 := by
  have key : ∀ (xs : List It) (c : Nat), (∀ x ∈ xs, x.err = 0 ∧ x.f.pay.length ≤ 1000000) → xs.foldl (fun c x => c + (9 + x.f.pay.length)) c ≤ c + xs.length * 1000009 := by
    intro xs
    induction xs with
    | nil => intro c _; simp
    | cons x xs ih =>
      intro c h
      have h1 := (h x (by simp)).2
      have h2 := ih (c + (9 + x.f.pay.length)) (fun y hy => h y (by simp [hy]))
      simp only [List.foldl_cons, List.length_cons]
      omega
  intro xs h
  have := key xs 0 h
  unfold cnt
  omega

/-- a store into a block of another element type leaves a slice -/
theorem set_ne {W : World} {t t' : TypeId} {u : Value} {B : Nat} {cs : Array Value} {fr : Nat × Nat} (hu : Ty W t u) (hB : W.heap[B]? = some (.cells cs t' fr)) (hne : t ≠ t') : ∀ g, u.ownBlock = some g → some B ≠ some g := fun g hg e => by
  cases e
  obtain ⟨cs', fr', h⟩ := hu B hg
  rw [hB] at h
  simp only [Option.some.injEq, Obj.cells.injEq] at h
  exact hne h.2.1.symm
/-- one frame more: the row has grown, its box and the count's have been written -/
theorem all_step {tb tf tl ti te tx : TypeId} {B base : Nat} {w W w1 : World} {v v1 : Value} {ps : List (Fr × Value)} {pre : List It} {x : It} {o : Obj} (n1 : tb ≠ tl) (n2 : tb ≠ ti) (n3 : tf ≠ tb) (_ : tx = tx) (hb3 : B + 3 ≤ base) (hwb : w.heap.size ≤ B) (hsz : base ≤ W.heap.size)
    (h7 : W.heap[B]? = some (.cells #[v] tl (0, 0))) (h8 : W.heap[B + 1]? = some (.cells #[.int .i64 (cnt pre)] ti (0, 0))) (h9 : W.heap[B + 1 + 1]? = some (.cells #[.int .i64 0] te (0, 0))) (hown : W.ownsRow base tf 4 v ps.length (flat ps)) (hps : ∀ p ∈ ps, Sl .u8 W p.2 p.1.pay ∧ Ty W tb p.2) (hmap : ps.map (·.1) = pre.map (·.f))
    (herr : ∀ x ∈ pre, x.err = 0 ∧ x.f.pay.length ≤ 1000000) (hBw : Below w.heap.size w W) (hx : x.err = 0 ∧ x.f.pay.length ≤ 1000000) (hpv : Sl .u8 W (.slice x.ao x.f.pay.length x.cp) x.f.pay) (hty : Ty W tb (.slice x.ao x.f.pay.length x.cp))
    (hg1 : (W.alloc o).grownBy w1 v.ownBlock) (hown1 : w1.ownsRow base tf 4 v1 (ps.length + 1) (flat ps ++ frCells x.f (.slice x.ao x.f.pay.length x.cp))) :
    KeepsFrom base W ((w1.setCell ⟨B, 0, none⟩ v1).setCell ⟨B + 1, 0, none⟩ (.int .i64 (cnt pre + (9 + x.f.pay.length)))) ∧
    (∀ k, k < base → k ≠ B → k ≠ B + 1 → ((w1.setCell ⟨B, 0, none⟩ v1).setCell ⟨B + 1, 0, none⟩ (.int .i64 (cnt pre + (9 + x.f.pay.length)))).heap[k]? = W.heap[k]?) ∧
    Below w.heap.size W ((w1.setCell ⟨B, 0, none⟩ v1).setCell ⟨B + 1, 0, none⟩ (.int .i64 (cnt pre + (9 + x.f.pay.length)))) ∧
    AllAt tb tf tl ti te B base w 0 (pre ++ [x]) ((w1.setCell ⟨B, 0, none⟩ v1).setCell ⟨B + 1, 0, none⟩ (.int .i64 (cnt pre + (9 + x.f.pay.length)))) := by
  have hrow : ∀ g, v.ownBlock = some g → base ≤ g := fun g hg => (hown.lt g hg).1
  have at1 : ∀ k, k < W.heap.size → v.ownBlock ≠ some k → w1.heap[k]? = W.heap[k]? := fun k hk hn =>
    (hg1.block k (by simp; omega) (fun e => hn e.symm)).trans (Below.heap_alloc _ _ _ hk)
  have low : ∀ k, k < base → w1.heap[k]? = W.heap[k]? := fun k hk => at1 k (by omega) (fun e => by have := hrow k e; omega)
  have e7 := (low B (by omega)).trans h7
  have e8 := (low (B + 1) (by omega)).trans h8
  have e9 := (low (B + 1 + 1) (by omega)).trans h9
  have s7 := heap_setCell_same w1 B 0 #[v] tl v1 e7
  have e8' := (Below.heap_setCell w1 ⟨B, 0, none⟩ v1 (B + 1) (by simp)).trans e8
  have s8 := heap_setCell_same (w1.setCell ⟨B, 0, none⟩ v1) (B + 1) 0 #[.int .i64 (cnt pre)] ti (.int .i64 (cnt pre + (9 + x.f.pay.length))) e8'
  have hbel : Below w.heap.size W ((w1.setCell ⟨B, 0, none⟩ v1).setCell ⟨B + 1, 0, none⟩ (.int .i64 (cnt pre + (9 + x.f.pay.length)))) :=
    ((((Below.refl w.heap.size W).alloc hBw.size o).grown hg1 (by simp; omega) (fun k hk => by have := hrow k hk; omega)).setCell (p := ⟨B, 0, none⟩) hwb _).setCell (p := ⟨B + 1, 0, none⟩) (by show w.heap.size ≤ B + 1; omega) _
  have pay : ∀ (u : Value) (zs : List Int), Sl .u8 W u zs → Ty W tb u → Sl .u8 ((w1.setCell ⟨B, 0, none⟩ v1).setCell ⟨B + 1, 0, none⟩ (.int .i64 (cnt pre + (9 + x.f.pay.length)))) u zs ∧ Ty ((w1.setCell ⟨B, 0, none⟩ v1).setCell ⟨B + 1, 0, none⟩ (.int .i64 (cnt pre + (9 + x.f.pay.length)))) tb u := fun u zs hu ht => by
    have hA := apart_ty hown ht n3
    have a1 := (hu.alloc o).kept hg1 hA
    have a2 := (ht.below ((Below.refl _ W).alloc (Nat.le_refl _) o)).kept hg1 hA
    have hne1 := set_ne a2 e7 n1
    have b1 := a1.kept (grownBy_setCell' w1 B v1) hne1
    have b2 := a2.kept (grownBy_setCell' w1 B v1) hne1
    have hne2 := set_ne b2 e8' n2
    exact ⟨b1.kept (grownBy_setCell' _ (B + 1) _) hne2, b2.kept (grownBy_setCell' _ (B + 1) _) hne2⟩
  refine ⟨?_, ?_, hbel, ⟨v1, ps ++ [(x.f, .slice x.ao x.f.pay.length x.cp)], ?_, ?_, ?_, ?_⟩, ?_, ?_, ?_, hBw.trans hbel, ?_⟩
  · refine ((KeepsOthers.alloc _ _).from _).trans ((keeps_grown _ hg1 ?_).trans (((KeepsOthers.setCell _ _ _).from _).trans ((KeepsOthers.setCell _ _ _).from _)))
    intro g hg
    obtain ⟨cs, fr, h⟩ := owned_cells (hown.alloc o) g hg
    exact ⟨cs, _, fr, h⟩
  · intro k hk h1 h2
    rw [Below.heap_setCell _ _ _ _ h2, Below.heap_setCell _ _ _ _ h1, low k hk]
  · rw [Below.heap_setCell _ _ _ _ (by show B ≠ B + 1; omega)]; exact s7
  · rw [flat_append, flat_one, List.length_append]
    exact ownsRow_setCell_below (ownsRow_setCell_below hown1 (by show B < base; omega) _) (by show B + 1 < base; omega) _
  · intro p hp
    rcases List.mem_append.1 hp with hp | hp
    · exact pay _ _ (hps p hp).1 (hps p hp).2
    · simp only [List.mem_singleton] at hp
      subst hp
      exact pay _ _ hpv hty
  · simp [hmap]
  · intro y hy
    rcases List.mem_append.1 hy with hy | hy
    · exact herr y hy
    · simp only [List.mem_singleton] at hy; rw [hy]; exact hx
  · rw [cnt_snoc]
    have e : ((cnt pre + (9 + x.f.pay.length) : Nat) : Int) = (cnt pre : Int) + (9 + (x.f.pay.length : Int)) := by omega
    rw [e]
    exact s8
  · rw [Below.heap_setCell _ _ _ _ (by show B + 2 ≠ B + 1; omega), Below.heap_setCell _ _ _ _ (by show B + 2 ≠ B; omega)]; exact e9
  · have := hbel.size; omega

set_option maxHeartbeats 1000000 in
theorem all_any (v : Value) (zs : List Int) (most : Int) (w : World) (hv : Sl .u8 w v zs) (hz : zs.length ≤ 1000000) :
    Calls Try.prog 15 #[v, .int .i64 most] w fun e w' => ∃ v' ps, e = .returned (.tuple #[v', .int .i64 (allOf most zs).2.1, .int .i64 (allOf most zs).2.2]) ∧ ps.map (·.1) = (allOf most zs).1 ∧ SlF w' v' ps ∧ Below w.heap.size w w' := by
  obtain ⟨a, cap, rfl, _⟩ := id hv
  obtain ⟨i0, hi, hz0, hz1, hz2⟩ := info_parts Try.infoFr
  refine (callsIn_wide (n := 4)).1 ?_
  refine callsIn_of_wp_marks Try.func15 rfl trivial ?_ rfl
  simp only [Try.ntmps15, List.size_toArray, List.length_cons, List.length_nil, Nat.reduceAdd, Nat.reduceSub, Array.replicate_succ, Array.replicate_zero, List.push_toArray, List.append_toArray, List.nil_append, List.cons_append]
  refine wpIn_wide.2 ?_
  go_wp2
  go_step3
  go_wp2
  go_step3
  go_wp2_with (go_at_call 23; refine (frames_any _ most _ a zs.length cap rfl).mono ?_; rintro e w' ⟨rfl, rfl⟩)
  refine (wpIn_wide (n := 4)).1 ?_
  gi_wp2
  have hb7 : (((((w.alloc (.cells #[.slice none 0 0] 36)).alloc (.cells #[.int .i64 0] 3)).alloc (.cells #[.int .i64 0] 28)).alloc (.cells #[.slice a zs.length cap] 23)).alloc (.cells #[.int .i64 most] 3)).heap[w.heap.size]? = some (.cells #[.slice none 0 0] 36 (0, 0)) :=
    (Below.heap_alloc _ _ _ (by simp <;> omega)).trans ((Below.heap_alloc _ _ _ (by simp <;> omega)).trans ((Below.heap_alloc _ _ _ (by simp <;> omega)).trans ((Below.heap_alloc _ _ _ (by simp)).trans (heap_alloc_new _ _))))
  have hb8 : (((((w.alloc (.cells #[.slice none 0 0] 36)).alloc (.cells #[.int .i64 0] 3)).alloc (.cells #[.int .i64 0] 28)).alloc (.cells #[.slice a zs.length cap] 23)).alloc (.cells #[.int .i64 most] 3)).heap[w.heap.size + 1]? = some (.cells #[.int .i64 0] 3 (0, 0)) :=
    (Below.heap_alloc _ _ _ (by simp <;> omega)).trans ((Below.heap_alloc _ _ _ (by simp <;> omega)).trans ((Below.heap_alloc _ _ _ (by simp)).trans (heap_alloc2_new _ _ _)))
  have hb9 : (((((w.alloc (.cells #[.slice none 0 0] 36)).alloc (.cells #[.int .i64 0] 3)).alloc (.cells #[.int .i64 0] 28)).alloc (.cells #[.slice a zs.length cap] 23)).alloc (.cells #[.int .i64 most] 3)).heap[w.heap.size + 1 + 1]? = some (.cells #[.int .i64 0] 28 (0, 0)) :=
    (Below.heap_alloc _ _ _ (by simp <;> omega)).trans ((Below.heap_alloc _ _ _ (by simp)).trans (by have := heap_alloc_new ((w.alloc (.cells #[.slice none 0 0] 36)).alloc (.cells #[.int .i64 0] 3)) (.cells #[.int .i64 0] 28); simpa using this))
  have hbb : (((((w.alloc (.cells #[.slice none 0 0] 36)).alloc (.cells #[.int .i64 0] 3)).alloc (.cells #[.int .i64 0] 28)).alloc (.cells #[.slice a zs.length cap] 23)).alloc (.cells #[.int .i64 most] 3)).heap[w.heap.size + 1 + 1 + 1]? = some (.cells #[.slice a zs.length cap] 23 (0, 0)) :=
    (Below.heap_alloc _ _ _ (by simp)).trans (by have := heap_alloc_new (((w.alloc (.cells #[.slice none 0 0] 36)).alloc (.cells #[.int .i64 0] 3)).alloc (.cells #[.int .i64 0] 28)) (.cells #[.slice a zs.length cap] 23); simpa using this)
  have hbm : (((((w.alloc (.cells #[.slice none 0 0] 36)).alloc (.cells #[.int .i64 0] 3)).alloc (.cells #[.int .i64 0] 28)).alloc (.cells #[.slice a zs.length cap] 23)).alloc (.cells #[.int .i64 most] 3)).heap[w.heap.size + 1 + 1 + 1 + 1]? = some (.cells #[.int .i64 most] 3 (0, 0)) := by
    have := heap_alloc_new ((((w.alloc (.cells #[.slice none 0 0] 36)).alloc (.cells #[.int .i64 0] 3)).alloc (.cells #[.int .i64 0] 28)).alloc (.cells #[.slice a zs.length cap] 23)) (.cells #[.int .i64 most] 3)
    simpa using this
  have hB5 : Below w.heap.size w (((((w.alloc (.cells #[.slice none 0 0] 36)).alloc (.cells #[.int .i64 0] 3)).alloc (.cells #[.int .i64 0] 28)).alloc (.cells #[.slice a zs.length cap] 23)).alloc (.cells #[.int .i64 most] 3)) := (((((Below.refl _ w).alloc (Nat.le_refl _) _).alloc (by simp) _).alloc (by simp <;> omega) _).alloc (by simp <;> omega) _).alloc (by simp <;> omega) _
  have hs5 : (((((w.alloc (.cells #[.slice none 0 0] 36)).alloc (.cells #[.int .i64 0] 3)).alloc (.cells #[.int .i64 0] 28)).alloc (.cells #[.slice a zs.length cap] 23)).alloc (.cells #[.int .i64 most] 3)).heap.size = w.heap.size + 5 := by simp
  obtain ⟨W5, hW5⟩ : ∃ W5, (((((w.alloc (.cells #[.slice none 0 0] 36)).alloc (.cells #[.int .i64 0] 3)).alloc (.cells #[.int .i64 0] 28)).alloc (.cells #[.slice a zs.length cap] 23)).alloc (.cells #[.int .i64 most] 3)) = W5 := ⟨_, rfl⟩
  rw [hW5] at hb7 hb8 hb9 hbb hbm hB5 hs5 ⊢
  have HS := Lib.hid hs5
  clear hW5 hs5
  refine range_seq (gf := 28) (lb := #[.pointer (some ⟨w.heap.size + 1 + 1 + 1, 0, none⟩), .pointer (some ⟨w.heap.size + 1 + 1 + 1 + 1, 0, none⟩)]) rfl (enters_of Try.func28 (by kernel_rfl) rfl)
    (frames_seq _ _ _ (.slice a zs.length cap) zs most w W5 hv hz hB5 hbb hbm) (fun _ => rfl)
    (fun h k => ⟨h.1.trans k.1, k.2.1.trans h.2.1, k.2.2.trans h.2.2⟩)
    (fun W l o o' hl hlo _ => ⟨below_put W o o' (by have := HS.out; omega) hlo, World.putObj_heap_other (by have := HS.out; omega), World.putObj_heap_other (by have := HS.out; omega)⟩)
    (AllAt 5 25 36 3 28 w.heap.size W5.heap.size w 0)
    (fun c pre W => c = .exit 0 ∧ ∃ ini x, pre = ini ++ [x] ∧ x.err ≠ 0 ∧ AllAt 5 25 36 3 28 w.heap.size W5.heap.size w x.err ini W)
    (fun x a' W => ∃ Bx, W5.heap.size ≤ Bx ∧ W.heap[Bx]? = some (.cells #[.int .i64 x.f.kind, .int .i64 x.f.flags, .int .i64 x.f.stream, .slice x.ao x.f.pay.length x.cp] 25 (0, 0)) ∧ It.holds 5 x W ∧ (∀ v, W.heap[w.heap.size]? = some (.cells #[v] 36 (0, 0)) → v.ownBlock ≠ some Bx) ∧ a' = { tmps := #[.slice a zs.length cap, .int .i64 most, undef, undef, .slice none 0 0, .int .i64 0, .int .i64 0, .pointer (some ⟨w.heap.size, 0, none⟩), .pointer (some ⟨w.heap.size + 1, 0, none⟩), .pointer (some ⟨w.heap.size + 1 + 1, 0, none⟩), .pointer (some ⟨Bx, 0, none⟩), .int .i64 x.err, .slice a zs.length cap, .int .i64 most, .func (.func 28) #[] #[.pointer (some ⟨w.heap.size + 1 + 1 + 1, 0, none⟩), .pointer (some ⟨w.heap.size + 1 + 1 + 1 + 1, 0, none⟩)], x.fv, .int .i64 x.err, undef, undef, undef, undef, undef, undef, undef, undef, undef, undef, undef, undef, undef, undef, undef, undef, undef], defers := [] })
    (allAt_grows _ _ _ _ _ _ _ _ _) (allAt_turns _ _ _ _ _ _ _ _ _ hB5.size)
    (by rintro c s A W ⟨hc, ini, x, e1, e2, h⟩ hg; exact ⟨hc, ini, x, e1, e2, allAt_grows _ _ _ _ _ _ _ _ _ _ _ _ h hg⟩)
    (by rintro c s A l o o' ⟨hc, ini, x, e1, e2, h⟩ hl hlo ho; exact ⟨hc, ini, x, e1, e2, allAt_turns _ _ _ _ _ _ _ _ _ hB5.size _ _ _ _ _ h hl hlo ho⟩)
    ?tTurn ⟨⟨_, [], hb7, World.ownsRow_nil _ _ _ _, fun p hp => by simp at hp, rfl⟩, fun x hx => by simp at hx, hb8, hb9, hB5, Nat.le_refl _⟩ ?tAssign ?tBody ?tDone ?tStop
  case tTurn =>
    rintro x a' _ A l o o' ⟨Bx, h1, h2, ⟨h3, h4, h5⟩, h6, h7⟩ hl hlo ho
    have hg := grownBy_putObj' A l o'
    have ty : ∀ g, x.pv.ownBlock = some g → some l ≠ some g := fun g hug e => by
      obtain ⟨cs, fr, h⟩ := h5 g hug
      exact cells_ne h hlo ho (Option.some.inj e).symm
    refine ⟨Bx, h1, (World.putObj_heap_other (cells_ne h2 hlo ho)).trans h2, ⟨h3, h4.kept hg ty, h5.kept hg ty⟩, fun v hv => h6 v ?_, h7⟩
    rw [World.putObj_heap_other (by have := HS.out; omega)] at hv
    exact hv
  case tAssign =>
    rintro l pre x W K hI hY hK
    obtain ⟨⟨v, ps, h7, hown, _⟩, _, _, _, hBw, hsz⟩ := id hI
    rcases x with ⟨F, ao, cp, E⟩
    dsimp only [It.fv]
    gi_wp2
    have hA : ∀ o, Below W.heap.size W (W.alloc o) := fun o => (Below.refl _ _).alloc (Nat.le_refl _) o
    refine hK _ _ ((KeepsOthers.alloc _ _).from _) ⟨(hA _).mono hBw.size, (hA _).block _ (by have := HS.out; omega), (hA _).block _ (by have := HS.out; omega)⟩ (allAt_grows _ _ _ _ _ _ _ _ _ _ _ _ hI (hA _))
      ⟨W.heap.size, hsz, heap_alloc_new W _, ⟨hY.1, hY.2.1.alloc _, hY.2.2.below (hA _)⟩, fun v' hv' e => ?_, rfl⟩
    rw [(hA _).block _ (by have := HS.out; omega), h7] at hv'
    simp only [Option.some.injEq, Obj.cells.injEq, Array.mk.injEq, List.cons.injEq, and_true] at hv'
    subst hv'
    have := (hown.lt _ e).2
    omega
  case tBody =>
    rintro l pre x a' W ⟨⟨v, ps, h7, hown, hps, hmap⟩, herr, h8, h9, hBw, hsz⟩ ⟨Bx, hBx, hx, ⟨hpl, hpv, hty⟩, hne, rfl⟩ hlen
    have hcnt := cnt_le pre herr
    have hlps : ps.length = pre.length := by have := congrArg List.length hmap; simpa using this
    have hvx := hne v h7
    have h5le : w.heap.size + 5 ≤ W5.heap.size := by have := HS.out; omega
    have nb1 : ¬ Bx = w.heap.size := by omega
    have nb2 : ¬ w.heap.size = Bx := by omega
    have hrow : ∀ g, v.ownBlock = some g → W5.heap.size ≤ g := fun g hg => (hown.lt g hg).1
    rcases x with ⟨F, ao, cp, E⟩
    dsimp only [It.fv, It.pv] at hx hpl hpv hty ⊢
    have c7 := blk_cell (j := 0) h7 rfl
    have f7 := blk_free (j := 0) h7
    have c8 := blk_cell (j := 0) h8 rfl
    have f8 := blk_free (j := 0) h8
    have c9 := blk_cell (j := 0) h9 rfl
    have f9 := blk_free (j := 0) h9
    have k0 := blk_cell (j := 0) hx rfl
    have k1 := blk_cell (j := 1) hx rfl
    have k2 := blk_cell (j := 2) hx rfl
    have k3 := blk_cell (j := 3) hx rfl
    by_cases hE : E = 0
    · have HE := Lib.hid hE
      subst hE
      have H7 := Lib.hid h7
      have H8 := Lib.hid h8
      have H9 := Lib.hid h9
      have HX := Lib.hid hx
      clear hne h7 h8 h9 hx
      gi_wp2_with (gi_at_builtin; refine wpListIn_append_own _ rfl (.tmp 21) (.tmp 23) 36 rfl W5.heap.size 25 i0 _ 4 48 Try.underlying36 hi hz0 hz1 hz2 rfl (by decide) v ps.length (flat ps) rfl (hown.alloc _) ⟨W.heap.size, 0, none⟩ 1 1 (frCells F (.slice ao F.pay.length cp)) rfl rfl (frCells_laid _ F _ _ _ rfl) (frCells_one F) (by unfold maxLen; omega) (by omega) (by simp <;> omega) ?_; intro v1 w1 hown1 hg1 _; obtain ⟨ao1, cap1, rfl, _⟩ := owned_shape hown1; have at1 : ∀ (k : Nat) (o : Obj), W.heap[k]? = some o → v.ownBlock ≠ some k → w1.heap[k]? = some o := (fun k o hk hn => (hg1.block k (by have := (Array.getElem?_eq_some_iff.1 hk).1; simp <;> omega) (fun e => hn e.symm)).trans ((Below.heap_alloc _ _ _ (Array.getElem?_eq_some_iff.1 hk).1).trans hk)); have d7 := at1 _ _ H7.out (fun e => by have := hrow _ e; omega); have d8 := at1 _ _ H8.out (fun e => by have := hrow _ e; omega); have dx := at1 _ _ HX.out hvx; have e7 := blk_cell (j := 0) d7 rfl; have y8 := blk_cell (j := 0) d8 rfl; have yf8 := blk_free (j := 0) d8; have yx := blk_cell (j := 3) dx rfl; have DX := Lib.hid dx; have ef7 := blk_free (j := 0) d7; have d8' := (Below.heap_setCell w1 ⟨w.heap.size, 0, none⟩ (.slice ao1 (ps.length + 1) cap1) _ (by simp)).trans d8; have dx' := (Below.heap_setCell w1 ⟨w.heap.size, 0, none⟩ (.slice ao1 (ps.length + 1) cap1) _ (by simp; omega)).trans dx; have e8 := blk_cell (j := 0) d8' rfl; have ef8 := blk_free (j := 0) d8'; have ex := blk_cell (j := 3) dx' rfl; have D8 := Lib.hid d8'; have D7 := Lib.hid d7; clear d7 d8 dx d8' dx')
      obtain ⟨q1, q2, q3, q4⟩ := all_step (tx := 0) (x := ⟨F, ao, cp, 0⟩) (by decide) (by decide) (by decide) rfl (by omega) (Nat.le_refl _) hsz H7.out H8.out H9.out hown hps hmap herr hBw ⟨rfl, hpl⟩ hpv hty hg1 hown1
      rw [hlps] at q1 q2 q3 q4
      exact ⟨q1, ⟨q3, q2 (w.heap.size + 1 + 1 + 1) (by omega) (by omega) (by omega), q2 (w.heap.size + 1 + 1 + 1 + 1) (by omega) (by omega) (by omega)⟩, q4⟩
    · have hd : (E == 0) = false := by simpa using hE
      have H7 := Lib.hid h7
      have H8 := Lib.hid h8
      have H9 := Lib.hid h9
      clear hne h7 h8 h9 hx
      gi_wp2
      have hset := heap_setCell_same W (w.heap.size + 1 + 1) 0 _ _ (.int .i64 E) H9.out
      have hgs := grownBy_setCell' W (w.heap.size + 1 + 1) (.int .i64 E)
      have hne3 : ∀ u, Ty W 5 u → ∀ g, u.ownBlock = some g → some (w.heap.size + 1 + 1) ≠ some g := fun u hu => set_ne hu H9.out (by decide)
      refine ⟨(KeepsOthers.setCell _ _ _).from _, rfl, pre, _, rfl, hE, ⟨v, ps, (Below.heap_setCell _ _ _ _ (by simp; omega)).trans H7.out, ownsRow_setCell_below hown (by show w.heap.size + 1 + 1 < W5.heap.size; omega) _, fun p hp => ⟨(hps p hp).1.kept hgs (hne3 _ (hps p hp).2), (hps p hp).2.kept hgs (hne3 _ (hps p hp).2)⟩, hmap⟩, herr,
        (Below.heap_setCell _ _ _ _ (by simp)).trans H8.out, hset, hBw.setCell (p := ⟨w.heap.size + 1 + 1, 0, none⟩) (by show w.heap.size ≤ w.heap.size + 1 + 1; omega) _, Nat.le_trans hsz (by simp)⟩
  case tDone =>
    rintro D xs W hD hcame hat hDk
    have hat' := allAt_turns _ _ _ _ _ _ _ _ _ hB5.size _ W D _ (.deferred none) hat hD hDk rfl
    obtain ⟨⟨v, ps, h7, hown, hps, hmap⟩, herr, h8, h9, hBw, hsz⟩ := hat
    obtain ⟨⟨v', ps', h7', hown', hps', hmap'⟩, _, _, _, hBw', _⟩ := hat'
    have h5le : w.heap.size + 5 ≤ W5.heap.size := by have := HS.out; omega
    obtain ⟨ao, cp, rfl, _⟩ := owned_shape hown
    obtain rfl : v' = .slice ao ps.length cp := by
      rw [World.putObj_heap_other (by omega), h7] at h7'
      simpa using h7'.symm
    have e : allOf most zs = (xs.map (·.f), (cnt xs : Int), 0) := by
      rcases hcame with ⟨_, _, hc, _, ha⟩ | ⟨ini, x, m, rfl, _, _, _, hx⟩
      · rw [ha, List.drop_of_length_le (Nat.le_refl _), allOf_nil, joinA, ← hc]; simp
      · exact absurd (herr x (by simp)).1 hx
    have c7 : W.cell? ⟨w.heap.size, 0, none⟩ = some (.slice ao ps.length cp) := blk_cell (j := 0) h7 rfl
    have c8 : W.cell? ⟨w.heap.size + 1, 0, none⟩ = some (.int .i64 (cnt xs)) := blk_cell (j := 0) h8 rfl
    have c9 : W.cell? ⟨w.heap.size + 1 + 1, 0, none⟩ = some (.int .i64 0) := blk_cell (j := 0) h9 rfl
    gi_wp2
    refine wp_seq ?_
    go_quiet (fail)
    go_wp2
    rw [Exit.noGoto_ret]
    refine ⟨by simp, .inl ⟨_, _, rfl, run_takeDeferred hDk, ?_⟩⟩
    refine ⟨_, results_tmp3 rfl _ _ _, ?_⟩
    rw [e]
    exact ⟨_, ps', rfl, hmap', SlF.of_own hown' (fun p hp => (hps' p hp).1), ⟨hBw'.os, hBw'.tape, hBw'.output, hBw'.size, hBw'.block⟩⟩
  case tStop =>
    rintro D c pre W hD hcame ⟨rfl, ini, x, hpre, hxe, hat⟩ hDk
    have hat' := allAt_turns _ _ _ _ _ _ _ _ _ hB5.size _ W D _ (.deferred none) hat hD hDk rfl
    obtain ⟨⟨v, ps, h7, hown, hps, hmap⟩, herr, h8, h9, hBw, hsz⟩ := hat
    obtain ⟨⟨v', ps', h7', hown', hps', hmap'⟩, _, _, _, hBw', _⟩ := hat'
    have h5le : w.heap.size + 5 ≤ W5.heap.size := by have := HS.out; omega
    obtain ⟨ao, cp, rfl, _⟩ := owned_shape hown
    obtain rfl : v' = .slice ao ps.length cp := by
      rw [World.putObj_heap_other (by omega), h7] at h7'
      simpa using h7'.symm
    have e : allOf most zs = (ini.map (·.f), (cnt ini : Int), x.err) := by
      obtain ⟨ini', x', m, he, ⟨_, _, hc, _, ha⟩, hm, hx⟩ := hcame
      rw [hpre] at he
      obtain ⟨rfl, hxx⟩ := List.append_inj' he rfl
      simp only [List.cons.injEq, and_true] at hxx
      subst hxx
      rw [hx] at hxe ⊢
      rw [ha, allOf_bad (by simp; omega) hxe, joinA, ← hc]
      simp
    have c7 : W.cell? ⟨w.heap.size, 0, none⟩ = some (.slice ao ps.length cp) := blk_cell (j := 0) h7 rfl
    have c8 : W.cell? ⟨w.heap.size + 1, 0, none⟩ = some (.int .i64 (cnt ini)) := blk_cell (j := 0) h8 rfl
    have c9 : W.cell? ⟨w.heap.size + 1 + 1, 0, none⟩ = some (.int .i64 x.err) := blk_cell (j := 0) h9 rfl
    gi_wp2
    refine wp_seq ?_
    go_quiet (fail)
    go_wp2
    rw [Exit.noGoto_ret]
    refine ⟨by simp, .inl ⟨_, _, rfl, run_takeDeferred hDk, ?_⟩⟩
    refine ⟨_, results_tmp3 rfl _ _ _, ?_⟩
    rw [e]
    exact ⟨_, ps', rfl, hmap', SlF.of_own hown' (fun p hp => (hps' p hp).1), ⟨hBw'.os, hBw'.tape, hBw'.output, hBw'.size, hBw'.block⟩⟩

end Go.Proofs.Ytpnpbdekeockcaa
