
/-
  Layer 11, the program's own: what frames say, kind by kind (written by wip/tools/gen11r.py): the blocks of an answer, wrong.
-/
import Derived.Test.YtohghphegcnfkaaPayPad
import Derived.OrdersHeld
namespace Go.Proofs.Ytohghphegcnfkaa
set_option maxRecDepth 20000
open Go.RowKit

/-- a method's own blocks: the receiver, the answer's -/
structure Spk11 (w : World) (f : Fr) (pv : Value) (W : World) : Prop where
  box : Bx W w.heap.size 51 f pv
  out : Out11 w (w.heap.size + 1) W
theorem Spk11.grown {w W W' : World} {f : Fr} {pv : Value} (h : Spk11 w f pv W) (hb : Below W.heap.size W W') : Spk11 w f pv W' := ⟨h.box.below hb, h.out.grown hb⟩
theorem Spk11.new (w : World) (f : Fr) (pv : Value) (_hp : Sl .u8 w pv f.pay) : Spk11 w f pv (((w.alloc (.cells #[.int .i64 f.kind, .int .i64 f.flags, .int .i64 f.stream, pv] 51)).alloc (.cells (ptA (.slice none 0 0) (.slice none 0 0) Pt.zero) 29)).alloc (.cells (faA 0 0) 32)) := by
  have hal := (Below.refl w.heap.size w).alloc (Nat.le_refl _) (.cells #[.int .i64 f.kind, .int .i64 f.flags, .int .i64 f.stream, pv] 51)
  have h1 := (Below.refl _ (w.alloc (.cells #[.int .i64 f.kind, .int .i64 f.flags, .int .i64 f.stream, pv] 51))).alloc (Nat.le_refl _) (.cells (ptA (.slice none 0 0) (.slice none 0 0) Pt.zero) 29)
  have h2 := (Below.refl _ ((w.alloc (.cells #[.int .i64 f.kind, .int .i64 f.flags, .int .i64 f.stream, pv] 51)).alloc (.cells (ptA (.slice none 0 0) (.slice none 0 0) Pt.zero) 29))).alloc (Nat.le_refl _) (.cells (faA 0 0) 32)
  refine ⟨((Bx.new w 51 f pv).below h1).below h2, ?_⟩
  have := Out11.new w _ hal
  simpa using this
section
variable {o : Oper} {a : Act} {w : World} {K : Act → World → Prop} {Q : Exit → Act → World → Prop}
theorem wp_pt11 (hd : o.dst = none) (x y : Operand) (ho : o.op = .store 29 x y) (w0 : World) (g : Nat) (pv : Value) (p : Pt) (hx : a.eval x = .pointer (some ⟨g, 0, none⟩)) (hy : a.eval y = pv) (hp : PtW w pv p) (hO : Out11 w0 g w)
    (h : ∀ W, (∃ cs, pv = .agg cs ∧ cs.size = 9 ∧ W.heap[g]? = some (.cells cs 29 (0, 0))) → W.heap[g + 1]? = some (.cells (faA 0 0) 32 (0, 0)) → PtW W pv p → Below w0.heap.size w0 W → (∀ ad : Addr, ad.block ≠ g → W.cell? ad = w.cell? ad) → K a W) : o.wp Try.prog a w K Q := by
  obtain ⟨a1, n1, c1, a2, n2, c2, e⟩ := hp.cells
  have hB := hO.hB
  have hK := (setRow_other w g (g + 1) (ptA (.slice a1 n1 c1) (.slice a2 n2 c2) p) (by omega)).trans hO.f
  refine wp_store_row 29 x y ho g (ptA (.slice a1 n1 c1) (.slice a2 n2 c2) p) hx (hy.trans e) 29 _ hO.p (by kernel_rfl) rfl (by simp [ptA, Value.oneCell']) (by rw [hd]; exact h _ ⟨_, e, rfl, setRow_heap _ _ _ _ _ _ hO.p⟩ hK (hp.setRow hO.p (.inl rfl)) (below_setRow hO.b hB _) (fun ad had => cell_setRow_other _ _ _ _ had))
theorem wp_fa11 (hd : o.dst = none) (x y : Operand) (ho : o.op = .store 32 x y) (w0 : World) (g : Nat) (pv : Value) (p : Pt) (c s : Int) (hB : w0.heap.size ≤ g) (hx : a.eval x = .pointer (some ⟨g + 1, 0, none⟩)) (hy : a.eval y = .agg (faA c s)) (hp : PtW w pv p)
    (hP : ∃ cs, pv = .agg cs ∧ cs.size = 9 ∧ w.heap[g]? = some (.cells cs 29 (0, 0))) (hF : w.heap[g + 1]? = some (.cells (faA 0 0) 32 (0, 0))) (hb : Below w0.heap.size w0 w)
    (h : ∀ W, (∃ cs, pv = .agg cs ∧ cs.size = 9 ∧ W.heap[g]? = some (.cells cs 29 (0, 0))) → W.heap[g + 1]? = some (.cells (faA c s) 32 (0, 0)) → PtW W pv p → Below w0.heap.size w0 W → (∀ ad : Addr, ad.block ≠ g + 1 → W.cell? ad = w.cell? ad) → K a W) : o.wp Try.prog a w K Q := by
  obtain ⟨cs, e, hs, hP⟩ := hP
  have hK := (setRow_other w (g + 1) g (faA c s) (by omega)).trans hP
  refine wp_store_row 32 x y ho (g + 1) (faA c s) hx hy 32 _ hF (by kernel_rfl) rfl (by simp [faA, Value.oneCell']) (by rw [hd]; exact h _ ⟨cs, e, hs, hK⟩ (setRow_heap _ _ _ _ _ _ hF) (hp.setRow hF (.inr rfl)) (below_setRow hb (by omega) _) (fun ad had => cell_setRow_other _ _ _ _ had))
end
theorem wpAnyH_early {P : Program} {ops : Array Oper} {Q : Exit → Act → World → Prop} {md : Region.Mode} {S : World → Prop} (i : Nat) (d : Tmp) (v : Value) {fuel : Nat} {listed : Array Bool} {a : Act} {w : World}
    (hs : Region.noSelect ops = true) (hf : Region.free md ops listed i = true) (hr : (Region.ready md ops listed).contains i = true) (hQ : ∀ c a w, Q (.panic c) (a.put (some d) v) w → Q (.panic c) a w)
    (ho : (ops[i]?).map (·.dst) = some (some d)) (hy : ∀ o, ops[i]? = some o → YieldsIf P ops S o v a) (hS : S w)
    (h : wpAnyH P md ops Q S fuel (listed.setIfInBounds i true) (a.put (some d) v) w) : wpAnyH P md ops Q S (fuel + 1) listed a w := by
  cases hi : ops[i]? with
  | none => rw [hi] at ho; cases ho
  | some o =>
    rw [hi] at ho
    have hd : o.dst = some d := by simpa using ho
    refine wpAnyH_take hi hs hf hr ?_ (hy o hi) hS ?_
    · rw [hd]; exact hQ
    · rw [hd]; exact h
theorem wpAnyH_only {P : Program} {ops : Array Oper} {Q : Exit → Act → World → Prop} {md : Region.Mode} {S : World → Prop} (i : Nat) {fuel : Nat} {listed : Array Bool} {a : Act} {w : World} (hr : Region.ready md ops listed = [i]) (hg : (ops[i]?).map (·.guard) = some none)
    (h : ∀ o, ops[i]? = some o → o.wp P a w (fun a' w' => S w' ∧ wpAnyH P md ops Q S fuel (listed.setIfInBounds i true) a' w') Q) : wpAnyH P md ops Q S (fuel + 1) listed a w := by
  refine wpAnyH_all hr (by simp) fun j hj => ?_
  simp only [List.mem_singleton] at hj
  subst hj
  cases ho : ops[j]? with
  | none => rw [ho] at hg; cases hg
  | some o =>
    rw [ho] at hg
    simp only [Option.map_some, Option.some.injEq] at hg
    unfold wpOp
    simp only [ho, wanted_none hg, if_true]
    exact .inl (h o ho)
/-- a method's receiver -/
theorem Spk11.fr {w W : World} {f : Fr} {pv : Value} (h : Spk11 w f pv W) (hp : Sl .u8 w pv f.pay) : FrV W (.agg #[.int .i64 f.kind, .int .i64 f.flags, .int .i64 f.stream, pv]) f := ⟨pv, rfl, hp.below h.out.b⟩
set_option maxHeartbeats 4000000 in
theorem wrong_any (v : Value) (f : Fr) (c : Int) (w : World) (h : FrV w v f) :
    Calls Try.prog 28 #[v, .int .i64 c] w fun e w' => AnsW w' e (wrongP c f.stream) ∧ Below w.heap.size w w' := by
  obtain ⟨pv, rfl, hp⟩ := h
  have HS := Lib.hid (Spk11.new w f pv hp)
  obtain ⟨a, cap, rfl, _⟩ := id hp
  clear hp
  have c2 := HS.out.box.c2
  have hsz := HS.out.box.lt
  unfold ptA faA at HS c2 hsz
  go_enter Try.func28, Try.ntmps28
  go_wp2_with fail
  refine wp_region_held (S := fun w' => w'.cell? ⟨w.heap.size, 2, none⟩ = some (.int .i64 f.stream)) rfl ?_
  have hdr : ∀ W : World, Below W.heap.size W { W with drawn := W.drawn + 1 } := fun W => (Below.refl _ W).drew
  have HS1 := Lib.hid (HS.out.grown (hdr _))
  have s1 := HS1.out.box.c2
  clear hdr c2 hsz HS
  refine wpAnyH_early 0 7 (.agg (ptA (.slice none 0 0) (.slice none 0 0) Pt.zero)) (by kernel_rfl) (by kernel_rfl) (by kernel_rfl) (fun _ _ _ h => h) rfl (fun o ho => by obtain rfl := Option.some.inj ho; exact .inl ⟨rfl, fun W _ => by kernel_rfl⟩) s1 ?_
  simp only [Act.put, List.setIfInBounds_toArray, List.set_cons_zero, List.set_cons_succ]
  refine wpAnyH_early 1 8 (.int .i64 c) (by kernel_rfl) (by kernel_rfl) (by kernel_rfl) (fun _ _ _ h => h) rfl (fun o ho => by obtain rfl := Option.some.inj ho; exact .inl ⟨rfl, fun W _ => rfl⟩) s1 ?_
  simp only [Act.put, List.setIfInBounds_toArray, List.set_cons_zero, List.set_cons_succ]
  refine wpAnyH_early 2 9 (.pointer (some ⟨w.heap.size, 2, none⟩)) (by kernel_rfl) (by kernel_rfl) (by kernel_rfl) (fun _ _ _ h => h) rfl (fun o ho => by obtain rfl := Option.some.inj ho; exact .inl ⟨rfl, fun W _ => rfl⟩) s1 ?_
  simp only [Act.put, List.setIfInBounds_toArray, List.set_cons_zero, List.set_cons_succ]
  refine wpAnyH_early 3 10 (.int .i64 f.stream) (by kernel_rfl) (by kernel_rfl) (by kernel_rfl) (fun _ _ _ h => h) rfl (fun o ho => by obtain rfl := Option.some.inj ho; exact .inl ⟨rfl, fun W h => by simp [execOp, go_sem, h]⟩) s1 ?_
  simp only [Act.put, List.setIfInBounds_toArray, List.set_cons_zero, List.set_cons_succ]
  refine wpAnyH_early 4 11 (.agg (faA c f.stream)) (by kernel_rfl) (by kernel_rfl) (by kernel_rfl) (fun _ _ _ h => h) rfl (fun o ho => by obtain rfl := Option.some.inj ho; exact .inl ⟨rfl, fun W _ => by kernel_rfl⟩) s1 ?_
  simp only [Act.put, List.setIfInBounds_toArray, List.set_cons_zero, List.set_cons_succ]
  have hO := Lib.hid HS1.out.out
  clear HS1
  refine wpAnyH_only 5 (by kernel_rfl) rfl (fun o ho => ?_)
  obtain rfl := Option.some.inj ho
  refine wp_pt11 rfl (.tmp 4) (.tmp 7) rfl w (w.heap.size + 1) _ _ rfl rfl (PtW.zero _) hO.out (fun W hP hF hp hb hc => ⟨(hc _ (by simp)).trans s1, ?_⟩)
  have s2 := (hc ⟨w.heap.size, 2, none⟩ (by simp)).trans s1
  clear hO s1 hc
  refine wpAnyH_only 6 (by kernel_rfl) rfl (fun o ho => ?_)
  obtain rfl := Option.some.inj ho
  refine wp_fa11 rfl (.tmp 5) (.tmp 11) rfl w (w.heap.size + 1) _ _ c f.stream (Nat.le_succ _) rfl rfl hp hP hF hb (fun W2 hP2 hF2 hp2 hb2 hc2 => ⟨(hc2 _ (by simp; omega)).trans s2, ?_⟩)
  have s3 := (hc2 ⟨w.heap.size, 2, none⟩ (by simp; omega)).trans s2
  clear s2 hc2 hP hF hp hb
  refine wpAnyH_early 7 6 (.bool false) (by kernel_rfl) (by kernel_rfl) (by kernel_rfl) (fun _ _ _ h => h) rfl (fun o ho => by obtain rfl := Option.some.inj ho; exact .inl ⟨rfl, fun W _ => rfl⟩) s3 ?_
  refine wpAnyH_done (by kernel_rfl) ?_ _
  simp only [Act.put, List.setIfInBounds_toArray, List.set_cons_zero, List.set_cons_succ]
  go_wp2_with fail
  refine bodyPost_ret (ans_results rfl _ _ (w.heap.size + 1) _ c f.stream rfl rfl hP2 hF2) rfl ?_
  exact ⟨⟨_, rfl, hp2⟩, hb2⟩
end Go.Proofs.Ytohghphegcnfkaa
