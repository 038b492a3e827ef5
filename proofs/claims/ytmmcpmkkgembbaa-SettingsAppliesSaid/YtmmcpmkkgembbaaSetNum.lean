
/-
  Layer 12, the program's own: the map of a set's numbers, filled in whatever order (written by wip/tools/gen12n.py).
-/
import Derived.Test.YtmmcpmkkgembbaaProg
import Derived.Test.YtmmcpmkkgembbaaBag
import Derived.Test.YtmmcpmkkgembbaaSetSmall
import Derived.MapKept
import Derived.Test.YtmmcpmkkgembbaaOnly
namespace Go.Proofs.Ytmmcpmkkgembbaa
set_option maxRecDepth 20000
open Go.RowKit

def ptJ (G j : Nat) : Value := .pointer (some ⟨G, j, none⟩)
theorem findNow_past {T : TypeDesc} {k : Value} (r : List MapEntry) : ∀ (es : List MapEntry) (i : Nat), Instr.findNow T k es i = some none → Instr.findNow T k (es ++ r) i = Instr.findNow T k r (i + es.length)
  | [], i, _ => rfl
  | e :: es, i, h => by
    rw [List.cons_append]
    unfold Instr.findNow at h ⊢
    generalize Instr.sameNow T k e.key = q at h ⊢
    match q, h with
    | some false, h =>
      have := findNow_past r es (i + 1) h
      rw [List.length_cons, Nat.add_comm es.length 1, ← Nat.add_assoc]
      conv => rhs; rw [← Instr.findNow.eq_def]
      exact this
theorem findNow_found {T : TypeDesc} {k : Value} {x : Nat × Value} (r : List MapEntry) : ∀ (es : List MapEntry) (i : Nat), Instr.findNow T k es i = some (some x) → Instr.findNow T k (es ++ r) i = some (some x)
  | [], i, h => by simp [Instr.findNow] at h
  | e :: es, i, h => by
    rw [List.cons_append]
    unfold Instr.findNow at h ⊢
    generalize Instr.sameNow T k e.key = q at h ⊢
    match q, h with
    | some true, h => exact h
    | some false, h => exact findNow_found r es (i + 1) h
/-- entries that have the pointers to some of six numbers -/
def EsOf (G : Nat) (S : Nat → Bool) (es : List MapEntry) : Prop := ∀ (i : Nat) (k : Int),
  (∀ j : Nat, j < 6 → S j = true → k = (j : Int) + 1 → ∃ n, Instr.findNow (.int .i64) (.int .i64 k) es i = some (some (n, ptJ G j))) ∧ ((∀ j : Nat, j < 6 → S j = true → k ≠ (j : Int) + 1) → Instr.findNow (.int .i64) (.int .i64 k) es i = some none)
theorem EsOf.nil (G : Nat) {S : Nat → Bool} (h : ∀ j, j < 6 → S j = false) : EsOf G S [] := fun i k => ⟨fun j hj hs _ => (by rw [h j hj] at hs; cases hs), fun _ => rfl⟩
theorem EsOf.snoc {G : Nat} {S : Nat → Bool} {es : List MapEntry} (h : EsOf G S es) {j : Nat} (hj : j < 6) (hs : S j = false) (c : Nat) : EsOf G (fun x => x == j || S x) (es ++ [(⟨.int .i64 ((j : Int) + 1), ptJ G j, c⟩ : MapEntry)]) := by
  intro i k
  obtain ⟨h1, h2⟩ := h i k
  constructor
  · intro x hx hsx hk
    by_cases hxj : x = j
    · subst hxj
      have hn := h2 (fun y hy hsy e => by have : y = x := by omega
                                          subst this; rw [hs] at hsy; cases hsy)
      refine ⟨i + es.length, ?_⟩
      rw [findNow_past _ _ _ hn]
      simp [Instr.findNow, Instr.sameNow, hk]
    · obtain ⟨n, hn⟩ := h1 x hx (by simpa [hxj] using hsx) hk
      exact ⟨n, findNow_found _ _ _ hn⟩
  · intro hk
    have hn := h2 (fun y hy hsy => hk y hy (by simp [hsy]))
    have hne : k ≠ (j : Int) + 1 := hk j hj (by simp)
    rw [findNow_past _ _ _ hn]
    simp only [Instr.findNow, Instr.sameNow, if_true]
    rw [show (k == (j : Int) + 1) = false from by simpa using hne]
theorem EsOf.congr {G : Nat} {S S' : Nat → Bool} {es : List MapEntry} (h : EsOf G S es) (e : ∀ j, j < 6 → S j = S' j) : EsOf G S' es := fun i k => ⟨fun j hj hs hk => (h i k).1 j hj (by rw [e j hj]; exact hs) hk, fun hk => (h i k).2 (fun j hj hs => hk j hj (by rw [← e j hj]; exact hs))⟩
/-- the map lies in a block -/
def MpAt (w : World) (M G : Nat) (S : Nat → Bool) : Prop := ∃ es c, w.heap[M]? = some (.map es.toArray c) ∧ EsOf G S es
theorem MpAt.below {w w' : World} {M G : Nat} {S : Nat → Bool} (h : MpAt w M G S) (hb : Below w.heap.size w w') : MpAt w' M G S := by
  obtain ⟨es, c, hh, he⟩ := h
  exact ⟨es, c, (hb.block M (Array.getElem?_eq_some_iff.1 hh).1).trans hh, he⟩
theorem MpAt.lt {w : World} {M G : Nat} {S : Nat → Bool} (h : MpAt w M G S) : M < w.heap.size := by
  obtain ⟨es, c, hh, he⟩ := h
  exact (Array.getElem?_eq_some_iff.1 hh).1
theorem get_map12 (W : World) (B : Nat) (es : Array MapEntry) (c : Nat) (hb : W.heap[B]? = some (.map es c)) : (getObj B).run Try.prog W = .ok (.map es c) W := by simp [getObj, Sem.run, hb]
theorem set_map12 (W : World) (B : Nat) (es : Array MapEntry) (c : Nat) (o : Obj) (hb : W.heap[B]? = some (.map es c)) : (setObj B o).run Try.prog W = .ok () { W with heap := W.heap.setIfInBounds B o } := by simp [setObj, Sem.run, hb]
theorem check_key12 (W : World) (e : Bool) (k : Int) : (Instr.checkKey e 10000 3 (.int .i64 k)).run Try.prog W = .ok () W := by
  have hk : Try.prog.underlying 3 = some (.int .i64) := by kernel_rfl
  rw [show (10000 : Nat) = 9999 + 1 from rfl]
  unfold Instr.checkKey
  simp only [Sem.run_bind, run_underlying hk, Result.andThen]
  rfl
/-- one pointer more -/
theorem ins12 (W W0 : World) (M G : Nat) (S : Nat → Bool) (hm : MpAt W M G S) (hM : W0.heap.size ≤ M) (hb : Below W0.heap.size W0 W) (j : Nat) (hj : j < 6) (hs : S j = false) :
    ∃ W', (Instr.mapUpdate 46 (.map (some M)) (.int .i64 ((j : Int) + 1)) (ptJ G j)).run Try.prog W = .ok () W' ∧ MpAt W' M G (fun x => x == j || S x) ∧ Below W0.heap.size W0 W' := by
  have hu : Try.prog.underlying 46 = some (.map 3 48) := by kernel_rfl
  have hk : Try.prog.underlying 3 = some (.int .i64) := by kernel_rfl
  obtain ⟨es, c, hh, he⟩ := hm
  have hf : Instr.findNow (.int .i64) (.int .i64 ((j : Int) + 1)) es 0 = some none := (he 0 _).2 (fun y hy hsy e => by
    have : y = j := by omega
    subst this; rw [hs] at hsy; cases hsy)
  have hlt : M < W.heap.size := (Array.getElem?_eq_some_iff.1 hh).1
  refine ⟨{ W with heap := W.heap.setIfInBounds M (.map (es ++ [(⟨.int .i64 ((j : Int) + 1), ptJ G j, c⟩ : MapEntry)]).toArray (c + 1)) }, ?_, ⟨_, c + 1, by simp [hlt], he.snoc hj hs c⟩, ⟨hb.os, hb.tape, hb.output, by simpa using hb.size, fun k hk => ?_⟩⟩
  · unfold Instr.mapUpdate
    simp only [Sem.run_bind, run_underlying hu, Result.andThen_ok, get_map12 W M _ c hh, check_key12, Instr.findKey, run_underlying hk, hf, Sem.run_pure, set_map12 W M _ c _ hh, List.push_toArray]
  · show (W.heap.setIfInBounds M _)[k]? = _
    rw [Array.getElem?_setIfInBounds_ne (by omega)]
    exact hb.block k hk
/-- what the map has at a key -/
theorem look12 (W : World) (M G : Nat) (S : Nat → Bool) (hm : MpAt W M G S) (hS : ∀ j, j < 6 → S j = true) (k : Int) (v : Value) (b : Bool) (hv : (∃ j : Nat, j < 6 ∧ k = (j : Int) + 1 ∧ v = ptJ G j ∧ b = true) ∨ ((k < 1 ∨ 6 < k) ∧ v = .pointer none ∧ b = false)) :
    (Instr.lookup 46 (.map (some M)) (.int .i64 k) true).run Try.prog W = .ok (.tuple #[v, .bool b]) W := by
  have hu : Try.prog.underlying 46 = some (.map 3 48) := by kernel_rfl
  have hk : Try.prog.underlying 3 = some (.int .i64) := by kernel_rfl
  have hz : (zeroValue 48).run Try.prog W = .ok (.pointer none) W := by kernel_rfl
  obtain ⟨es, c, hh, he⟩ := hm
  rcases hv with ⟨j, hj, hkj, rfl, rfl⟩ | ⟨hn, rfl, rfl⟩
  · obtain ⟨n, hf⟩ := (he 0 k).1 j hj (hS j hj) hkj
    unfold Instr.lookup
    simp only [Sem.run_bind, run_underlying hu, Result.andThen_ok, get_map12 W M _ c hh, check_key12, Instr.findKey, run_underlying hk, hf, Sem.run_pure, if_true]
  · have hf : Instr.findNow (.int .i64) (.int .i64 k) es 0 = some none := (he 0 k).2 (fun y hy _ e => by omega)
    unfold Instr.lookup
    simp only [Sem.run_bind, run_underlying hu, Result.andThen_ok, get_map12 W M _ c hh, check_key12, Instr.findKey, run_underlying hk, hf, Sem.run_pure, if_true, hz]

theorem MpAt.congr {w : World} {M G : Nat} {S S' : Nat → Bool} (h : MpAt w M G S) (e : ∀ j, j < 6 → S j = S' j) : MpAt w M G S' := by
  obtain ⟨es, c, hh, he⟩ := h
  exact ⟨es, c, hh, he.congr e⟩
theorem ins_wp12 {o : Oper} {a : Act} {W w : World} {K : Act → World → Prop} {Q : Exit → Act → World → Prop} {M G : Nat} {S : Nat → Bool} (j d : Nat) (hj : j < 6) (hop : o.op = .insert 46 (.tmp 3) (.const (.int .i64 ((j : Int) + 1))) (.tmp d)) (hd : o.dst = none)
    (h3 : a.eval (.tmp 3) = .map (some M)) (hp : a.eval (.tmp d) = ptJ G j) (hm : MpAt W M G S) (hM : w.heap.size ≤ M) (hb : Below w.heap.size w W) (hs : S j = false)
    (h : ∀ W', MpAt W' M G (fun x => x == j || S x) → Below w.heap.size w W' → K a W') : o.wp Try.prog a W K Q := by
  obtain ⟨W', hr, hm', hb'⟩ := ins12 W w M G S hm hM hb j hj hs
  have hk : a.eval (.const (.int .i64 ((j : Int) + 1))) = .int .i64 ((j : Int) + 1) := rfl
  unfold Oper.wp execOp
  simp only [hop, h3, hp, hk, hd, Sem.run_bind, hr, Result.andThen_ok, Sem.run_pure, Oper.upon]
  exact h W' hm' hb'
set_option maxHeartbeats 4000000 in
theorem numbers_any (G : Nat) (w : World) : Calls Try.prog 15 #[.pointer (some ⟨G, 0, none⟩)] w fun e w' => ∃ M, e = .returned (.map (some M)) ∧ w.heap.size ≤ M ∧ MpAt w' M G (fun _ => true) ∧ Below w.heap.size w w' := by
  go_enter Try.func15, Try.ntmps15
  go_wp2_with fail
  refine wp_region_any (by kernel_rfl) ?_
  change wpAny _ _ _ _ _ _ _ (World.drew _)
  refine wpAny_early 1 4 (.pointer (some ⟨G, 0, none⟩)) (by kernel_rfl) (by kernel_rfl) (by kernel_rfl) (fun _ _ _ h => h) rfl (fun o ho => by obtain rfl := Option.some.inj ho; exact .inl ⟨rfl, fun W => rfl⟩) ?_
  simp only [Act.put, List.setIfInBounds_toArray, List.set_cons_zero, List.set_cons_succ]
  refine wpAny_early 2 5 (.pointer (some ⟨G, 0, none⟩)) (by kernel_rfl) (by kernel_rfl) (by kernel_rfl) (fun _ _ _ h => h) rfl (fun o ho => by obtain rfl := Option.some.inj ho; exact .inl ⟨rfl, fun W => rfl⟩) ?_
  simp only [Act.put, List.setIfInBounds_toArray, List.set_cons_zero, List.set_cons_succ]
  refine wpAny_early 3 6 (.pointer (some ⟨G, 0, none⟩)) (by kernel_rfl) (by kernel_rfl) (by kernel_rfl) (fun _ _ _ h => h) rfl (fun o ho => by obtain rfl := Option.some.inj ho; exact .inl ⟨rfl, fun W => rfl⟩) ?_
  simp only [Act.put, List.setIfInBounds_toArray, List.set_cons_zero, List.set_cons_succ]
  refine wpAny_early 5 7 (.pointer (some ⟨G, 0, none⟩)) (by kernel_rfl) (by kernel_rfl) (by kernel_rfl) (fun _ _ _ h => h) rfl (fun o ho => by obtain rfl := Option.some.inj ho; exact .inl ⟨rfl, fun W => rfl⟩) ?_
  simp only [Act.put, List.setIfInBounds_toArray, List.set_cons_zero, List.set_cons_succ]
  refine wpAny_early 6 8 (.pointer (some ⟨G, 0, none⟩)) (by kernel_rfl) (by kernel_rfl) (by kernel_rfl) (fun _ _ _ h => h) rfl (fun o ho => by obtain rfl := Option.some.inj ho; exact .inl ⟨rfl, fun W => rfl⟩) ?_
  simp only [Act.put, List.setIfInBounds_toArray, List.set_cons_zero, List.set_cons_succ]
  refine wpAny_early 7 9 (.pointer (some ⟨G, 1, none⟩)) (by kernel_rfl) (by kernel_rfl) (by kernel_rfl) (fun _ _ _ h => h) rfl (fun o ho => by obtain rfl := Option.some.inj ho; exact .inl ⟨rfl, fun W => rfl⟩) ?_
  simp only [Act.put, List.setIfInBounds_toArray, List.set_cons_zero, List.set_cons_succ]
  refine wpAny_early 9 10 (.pointer (some ⟨G, 0, none⟩)) (by kernel_rfl) (by kernel_rfl) (by kernel_rfl) (fun _ _ _ h => h) rfl (fun o ho => by obtain rfl := Option.some.inj ho; exact .inl ⟨rfl, fun W => rfl⟩) ?_
  simp only [Act.put, List.setIfInBounds_toArray, List.set_cons_zero, List.set_cons_succ]
  refine wpAny_early 10 11 (.pointer (some ⟨G, 0, none⟩)) (by kernel_rfl) (by kernel_rfl) (by kernel_rfl) (fun _ _ _ h => h) rfl (fun o ho => by obtain rfl := Option.some.inj ho; exact .inl ⟨rfl, fun W => rfl⟩) ?_
  simp only [Act.put, List.setIfInBounds_toArray, List.set_cons_zero, List.set_cons_succ]
  refine wpAny_early 11 12 (.pointer (some ⟨G, 2, none⟩)) (by kernel_rfl) (by kernel_rfl) (by kernel_rfl) (fun _ _ _ h => h) rfl (fun o ho => by obtain rfl := Option.some.inj ho; exact .inl ⟨rfl, fun W => rfl⟩) ?_
  simp only [Act.put, List.setIfInBounds_toArray, List.set_cons_zero, List.set_cons_succ]
  refine wpAny_early 13 13 (.pointer (some ⟨G, 0, none⟩)) (by kernel_rfl) (by kernel_rfl) (by kernel_rfl) (fun _ _ _ h => h) rfl (fun o ho => by obtain rfl := Option.some.inj ho; exact .inl ⟨rfl, fun W => rfl⟩) ?_
  simp only [Act.put, List.setIfInBounds_toArray, List.set_cons_zero, List.set_cons_succ]
  refine wpAny_early 14 14 (.pointer (some ⟨G, 0, none⟩)) (by kernel_rfl) (by kernel_rfl) (by kernel_rfl) (fun _ _ _ h => h) rfl (fun o ho => by obtain rfl := Option.some.inj ho; exact .inl ⟨rfl, fun W => rfl⟩) ?_
  simp only [Act.put, List.setIfInBounds_toArray, List.set_cons_zero, List.set_cons_succ]
  refine wpAny_early 15 15 (.pointer (some ⟨G, 3, none⟩)) (by kernel_rfl) (by kernel_rfl) (by kernel_rfl) (fun _ _ _ h => h) rfl (fun o ho => by obtain rfl := Option.some.inj ho; exact .inl ⟨rfl, fun W => rfl⟩) ?_
  simp only [Act.put, List.setIfInBounds_toArray, List.set_cons_zero, List.set_cons_succ]
  refine wpAny_early 17 16 (.pointer (some ⟨G, 0, none⟩)) (by kernel_rfl) (by kernel_rfl) (by kernel_rfl) (fun _ _ _ h => h) rfl (fun o ho => by obtain rfl := Option.some.inj ho; exact .inl ⟨rfl, fun W => rfl⟩) ?_
  simp only [Act.put, List.setIfInBounds_toArray, List.set_cons_zero, List.set_cons_succ]
  refine wpAny_early 18 17 (.pointer (some ⟨G, 0, none⟩)) (by kernel_rfl) (by kernel_rfl) (by kernel_rfl) (fun _ _ _ h => h) rfl (fun o ho => by obtain rfl := Option.some.inj ho; exact .inl ⟨rfl, fun W => rfl⟩) ?_
  simp only [Act.put, List.setIfInBounds_toArray, List.set_cons_zero, List.set_cons_succ]
  refine wpAny_early 19 18 (.pointer (some ⟨G, 4, none⟩)) (by kernel_rfl) (by kernel_rfl) (by kernel_rfl) (fun _ _ _ h => h) rfl (fun o ho => by obtain rfl := Option.some.inj ho; exact .inl ⟨rfl, fun W => rfl⟩) ?_
  simp only [Act.put, List.setIfInBounds_toArray, List.set_cons_zero, List.set_cons_succ]
  refine wpAny_early 21 19 (.pointer (some ⟨G, 0, none⟩)) (by kernel_rfl) (by kernel_rfl) (by kernel_rfl) (fun _ _ _ h => h) rfl (fun o ho => by obtain rfl := Option.some.inj ho; exact .inl ⟨rfl, fun W => rfl⟩) ?_
  simp only [Act.put, List.setIfInBounds_toArray, List.set_cons_zero, List.set_cons_succ]
  refine wpAny_early 22 20 (.pointer (some ⟨G, 0, none⟩)) (by kernel_rfl) (by kernel_rfl) (by kernel_rfl) (fun _ _ _ h => h) rfl (fun o ho => by obtain rfl := Option.some.inj ho; exact .inl ⟨rfl, fun W => rfl⟩) ?_
  simp only [Act.put, List.setIfInBounds_toArray, List.set_cons_zero, List.set_cons_succ]
  refine wpAny_early 23 21 (.pointer (some ⟨G, 5, none⟩)) (by kernel_rfl) (by kernel_rfl) (by kernel_rfl) (fun _ _ _ h => h) rfl (fun o ho => by obtain rfl := Option.some.inj ho; exact .inl ⟨rfl, fun W => rfl⟩) ?_
  simp only [Act.put, List.setIfInBounds_toArray, List.set_cons_zero, List.set_cons_succ]
  refine wpAny_only 0 3 (by kernel_rfl) rfl (fun v W' => v = .map (some w.heap.size) ∧ MpAt W' w.heap.size G (fun _ => false) ∧ Below w.heap.size w W') (fun o ho => ?_) ?_
  · obtain rfl := Option.some.inj ho
    exact ⟨rfl, ⟨[], 0, heap_alloc_new _ _, EsOf.nil G (fun _ _ => rfl)⟩, (Below.refl w.heap.size w).drew.alloc (Nat.le_refl _) _⟩
  rintro v W1 ⟨rfl, hm1, hb1⟩
  simp only [Act.put, List.setIfInBounds_toArray, List.set_cons_zero, List.set_cons_succ]
  refine wpAny_bag [4, 8, 12, 16, 20, 24] [true, true, true, true, false, true, true, true, false, true, true, true, false, true, true, true, false, true, true, true, false, true, true, true, false, false, false] (by kernel_rfl) (fun S W => MpAt W w.heap.size G (fun j => S (4 * j + 4)) ∧ Below w.heap.size w W) 2 ?_ ?_ 6 (fun _ => false) W1 rfl ⟨hm1, hb1⟩
  · intro i hi S W o ho hs ⟨hm, hb⟩
    simp only [List.mem_cons, List.not_mem_nil, or_false] at hi
    rcases hi with rfl | rfl | rfl | rfl | rfl | rfl
    · obtain rfl := Option.some.inj ho
      exact ins_wp12 0 6 (by decide) rfl rfl rfl rfl hm (Nat.le_refl _) hb hs (fun W' h1 h2 => ⟨rfl, h1.congr (fun x hx => by simp only [show (4 * x + 4 == 4) = (x == 0) by rw [Bool.eq_iff_iff, beq_iff_eq, beq_iff_eq]; omega]), h2⟩)
    · obtain rfl := Option.some.inj ho
      exact ins_wp12 1 9 (by decide) rfl rfl rfl rfl hm (Nat.le_refl _) hb hs (fun W' h1 h2 => ⟨rfl, h1.congr (fun x hx => by simp only [show (4 * x + 4 == 8) = (x == 1) by rw [Bool.eq_iff_iff, beq_iff_eq, beq_iff_eq]; omega]), h2⟩)
    · obtain rfl := Option.some.inj ho
      exact ins_wp12 2 12 (by decide) rfl rfl rfl rfl hm (Nat.le_refl _) hb hs (fun W' h1 h2 => ⟨rfl, h1.congr (fun x hx => by simp only [show (4 * x + 4 == 12) = (x == 2) by rw [Bool.eq_iff_iff, beq_iff_eq, beq_iff_eq]; omega]), h2⟩)
    · obtain rfl := Option.some.inj ho
      exact ins_wp12 3 15 (by decide) rfl rfl rfl rfl hm (Nat.le_refl _) hb hs (fun W' h1 h2 => ⟨rfl, h1.congr (fun x hx => by simp only [show (4 * x + 4 == 16) = (x == 3) by rw [Bool.eq_iff_iff, beq_iff_eq, beq_iff_eq]; omega]), h2⟩)
    · obtain rfl := Option.some.inj ho
      exact ins_wp12 4 18 (by decide) rfl rfl rfl rfl hm (Nat.le_refl _) hb hs (fun W' h1 h2 => ⟨rfl, h1.congr (fun x hx => by simp only [show (4 * x + 4 == 20) = (x == 4) by rw [Bool.eq_iff_iff, beq_iff_eq, beq_iff_eq]; omega]), h2⟩)
    · obtain rfl := Option.some.inj ho
      exact ins_wp12 5 21 (by decide) rfl rfl rfl rfl hm (Nat.le_refl _) hb hs (fun W' h1 h2 => ⟨rfl, h1.congr (fun x hx => by simp only [show (4 * x + 4 == 24) = (x == 5) by rw [Bool.eq_iff_iff, beq_iff_eq, beq_iff_eq]; omega]), h2⟩)
  · intro S W hS ⟨hm, hb⟩
    rw [lstOf_full hS]
    refine wpAny_early 25 22 (.map (some w.heap.size)) (by kernel_rfl) (by kernel_rfl) (by kernel_rfl) (fun _ _ _ h => h) rfl (fun o ho => by obtain rfl := Option.some.inj ho; exact .inl ⟨rfl, fun W => rfl⟩) ?_
    simp only [Act.put, List.setIfInBounds_toArray, List.set_cons_zero, List.set_cons_succ]
    refine wpAny_early 26 2 (.map (some w.heap.size)) (by kernel_rfl) (by kernel_rfl) (by kernel_rfl) (fun _ _ _ h => h) rfl (fun o ho => by obtain rfl := Option.some.inj ho; exact .inl ⟨rfl, fun W => rfl⟩) ?_
    simp only [Act.put, List.setIfInBounds_toArray, List.set_cons_zero, List.set_cons_succ]
    refine wpAny_done (by kernel_rfl) ?_ _
    go_wp2_with fail
    go_ret
    exact ⟨_, rfl, Nat.le_refl _, hm.congr (fun j hj => hS _ (by simp; omega)), hb⟩
end Go.Proofs.Ytmmcpmkkgembbaa
