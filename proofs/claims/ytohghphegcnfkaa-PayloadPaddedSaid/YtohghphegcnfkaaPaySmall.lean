
/-
  Layer 11, the program's own: its answers, and the small functions.
-/
import Derived.Test.YtohghphegcnfkaaProg
import Derived.Test.YtohghphegcnfkaaPayMath
import Derived.Test.YtohghphegcnfkaaWireWalks
import Derived.Test.YtohghphegcnfkaaOwn
import Derived.Test.YtohghphegcnfkaaZeros
import Derived.Laws.Tables
import Derived.BigQuiet
namespace Go.Proofs.Ytohghphegcnfkaa
set_option maxRecDepth 20000
open Go.RowKit

/-- three results, the first two of which lie in blocks of their own -/
theorem results_row2_tmp {P : Program} {fn : Func} {p q u : Tmp} {ty ty2 : TypeId} (h : fn.results = #[.cell p ty, .cell q ty2, .tmp u]) (tmps : Array Value) (w : World) (g g2 : Nat) (t t2 : TypeId) (cs cs2 : Array Value) (fr fr2 : Nat × Nat) (d d2 : TypeDesc)
    (hp : tmps.getD p undef = .pointer (some ⟨g, 0, none⟩)) (hq : tmps.getD q undef = .pointer (some ⟨g2, 0, none⟩)) (hg : w.heap[g]? = some (.cells cs t fr)) (hg2 : w.heap[g2]? = some (.cells cs2 t2 fr2))
    (hu : P.underlying ty = some d) (hd : (match d with | .struct _ | .array _ _ => true | _ => false) = true) (hi : (P.info? ty).map (·.size) = some cs.size)
    (hu2 : P.underlying ty2 = some d2) (hd2 : (match d2 with | .struct _ | .array _ _ => true | _ => false) = true) (hi2 : (P.info? ty2).map (·.size) = some cs2.size) :
    (results fn tmps).run P w = .ok (.tuple #[.agg cs, .agg cs2, tmps.getD u undef]) w := by
  have hp' : tmps[p]?.getD undef = .pointer (some ⟨g, 0, none⟩) := by simpa using hp
  have hq' : tmps[q]?.getD undef = .pointer (some ⟨g2, 0, none⟩) := by simpa using hq
  simp [results, h, hp', hq', asAddr, run_loadVar_row w g t ty cs fr d hg hu hd hi, run_loadVar_row w g2 t2 ty2 cs2 fr2 d2 hg2 hu2 hd2 hi2, Result.andThen]

/-- its cells -/
def ptA (bv pv : Value) (p : Pt) : Array Value := #[bv, pv, .int .i64 p.code, .int .i64 p.last, .int .i64 p.add, .int .i64 p.flow, .bool p.fin, .bool p.whole, .bool p.acked]
def faA (c s : Int) : Array Value := #[.int .i64 c, .int .i64 s]
/-- what a slice lies in is no block of an answer -/
def Apart11 (w : World) (v : Value) : Prop := ∀ a n c, v = .slice (some a) n c → ∃ cs t fr, w.heap[a.block]? = some (.cells cs t fr) ∧ t ≠ 29 ∧ t ≠ 32
theorem Apart11.below {w w' : World} {v : Value} (h : Apart11 w v) (hb : Below w.heap.size w w') : Apart11 w' v := fun a n c e => by
  obtain ⟨cs, t, fr, h1, h2⟩ := h a n c e
  exact ⟨cs, t, fr, (hb.block _ (Array.getElem?_eq_some_iff.1 h1).1).trans h1, h2⟩
theorem Apart11.bare (w : World) (n c : Nat) : Apart11 w (.slice none n c) := fun a n' c' e => by cases e
theorem Apart11.own {w : World} {base n size : Nat} {t : TypeId} {v : Value} {xs : List Value} (h : w.ownsRow base t size v n xs) (h1 : t ≠ 29) (h2 : t ≠ 32) : Apart11 w v := fun a n c e => by
  obtain ⟨_, ⟨rfl, _⟩ | ⟨g', cap, cur, rfl, _, hh, _⟩⟩ := h
  · cases e
  · simp only [Value.slice.injEq, Option.some.injEq] at e
    obtain ⟨rfl, _⟩ := e
    exact ⟨_, _, _, hh, h1, h2⟩
/-- what a frame says, apart from the blocks of answers -/
def PtW (w : World) (v : Value) (p : Pt) : Prop :=
  ∃ bv pv, v = .agg (ptA bv pv p) ∧ Sl .u8 w bv p.bytes ∧ SlP w pv p.pairs ∧ Apart11 w bv ∧ Apart11 w pv
theorem PtW.toV {w : World} {v : Value} {p : Pt} (h : PtW w v p) : PtV w v p := by
  obtain ⟨bv, pv, rfl, h1, h2, _⟩ := h; exact ⟨bv, pv, rfl, h1, h2⟩
theorem PtW.below {w w' : World} {v : Value} {p : Pt} (h : PtW w v p) (hb : Below w.heap.size w w') : PtW w' v p := by
  obtain ⟨bv, pv, rfl, h1, h2, h3, h4⟩ := h; exact ⟨bv, pv, rfl, h1.below hb, h2.below hb, h3.below hb, h4.below hb⟩
theorem PtW.cells {w : World} {v : Value} {p : Pt} (h : PtW w v p) : ∃ a n c a2 n2 c2, v = .agg (ptA (.slice a n c) (.slice a2 n2 c2) p) := by
  obtain ⟨bv, pv, rfl, ⟨a, c, rfl, _⟩, ⟨a2, c2, rfl, _⟩, _⟩ := h
  exact ⟨a, _, c, a2, _, c2, rfl⟩
theorem PtW.zero (w : World) : PtW w (.agg (ptA (.slice none 0 0) (.slice none 0 0) Pt.zero)) Pt.zero :=
  ⟨_, _, rfl, Sl.nil _ _, ⟨none, 0, rfl, Nat.le_refl _, by simp, .inl ⟨rfl, fun _ => rfl⟩⟩, Apart11.bare _ _ _, Apart11.bare _ _ _⟩
theorem cell_apart {w : World} {g : Nat} {old : Array Value} {t : TypeId} {fr : Nat × Nat} (hg : w.heap[g]? = some (.cells old t fr)) (ht : t = 29 ∨ t = 32) {a : Addr} (h : ∃ cs t fr, w.heap[a.block]? = some (.cells cs t fr) ∧ t ≠ 29 ∧ t ≠ 32) : a.block ≠ g := by
  rintro rfl
  obtain ⟨cs', t', fr', h1, h2, h3⟩ := h
  rw [hg] at h1
  simp only [Option.some.injEq, Obj.cells.injEq] at h1
  obtain ⟨_, rfl, _⟩ := h1
  rcases ht with ht | ht
  · exact h2 ht
  · exact h3 ht
theorem PtW.setRow {w : World} {v : Value} {p : Pt} (h : PtW w v p) {g : Nat} {cs old : Array Value} {t : TypeId} {fr : Nat × Nat} (hg : w.heap[g]? = some (.cells old t fr)) (ht : t = 29 ∨ t = 32) : PtW (w.setRow g cs) v p := by
  obtain ⟨bv, pv, rfl, ⟨a, c, rfl, e1, e2, e3, e4⟩, ⟨a2, c2, rfl, d1, d2, d3⟩, h3, h4⟩ := h
  have hsz : (w.setRow g cs).heap.size = w.heap.size := by simp
  have hap : ∀ v, Apart11 w v → Apart11 (w.setRow g cs) v := fun v hv a n c e => by
    have hne := cell_apart hg ht (hv a n c e)
    obtain ⟨cs', t', fr', h1, h2⟩ := hv a n c e
    exact ⟨cs', t', fr', by rw [setRow_other _ _ _ _ hne]; exact h1, h2⟩
  refine ⟨_, _, rfl, ⟨a, c, rfl, e1, e2, e3, e4.imp_right ?_⟩, ⟨a2, c2, rfl, d1, d2, d3.imp_right ?_⟩, hap _ h3, hap _ h4⟩
  · rintro ⟨b, off, rfl, hb, hc⟩
    have hne := cell_apart hg ht (h3 _ _ _ rfl)
    exact ⟨b, off, rfl, by rw [hsz]; exact hb, fun i hi => by exact (cell_setRow_other w g cs ⟨b, off + i, none⟩ hne).trans (hc i hi)⟩
  · rintro ⟨b, off, rfl, hb, hc⟩
    have hne := cell_apart hg ht (h4 _ _ _ rfl)
    refine ⟨b, off, rfl, by rw [hsz]; exact hb, fun i q hi => ⟨?_, ?_⟩⟩
    · exact (cell_setRow_other w g cs ⟨b, off + i * 2, none⟩ hne).trans (hc i q hi).1
    · exact (cell_setRow_other w g cs ⟨b, off + i * 2 + 1, none⟩ hne).trans (hc i q hi).2
/-- an answer -/
def AnsW (w' : World) (e : Ending) (r : Rd) : Prop := ∃ pv, e = .returned (.tuple #[pv, .agg (faA r.2.1.1 r.2.1.2), .bool r.2.2]) ∧ PtW w' pv r.1
/-- the blocks of an answer that a call has laid -/
structure Out11 (w : World) (B : Nat) (W : World) : Prop where
  hB : w.heap.size ≤ B
  p : W.heap[B]? = some (.cells (ptA (.slice none 0 0) (.slice none 0 0) Pt.zero) 29 (0, 0))
  f : W.heap[B + 1]? = some (.cells (faA 0 0) 32 (0, 0))
  b : Below w.heap.size w W
theorem Out11.grown {w W W' : World} {B : Nat} (h : Out11 w B W) (hb : Below W.heap.size W W') : Out11 w B W' :=
  ⟨h.hB, (hb.block B (Array.getElem?_eq_some_iff.1 h.p).1).trans h.p, (hb.block (B + 1) (Array.getElem?_eq_some_iff.1 h.f).1).trans h.f, h.b.trans (hb.mono h.b.size)⟩
theorem Out11.new (w W : World) (hb : Below w.heap.size w W) : Out11 w W.heap.size ((W.alloc (.cells (ptA (.slice none 0 0) (.slice none 0 0) Pt.zero) 29)).alloc (.cells (faA 0 0) 32)) := by
  have h1 := (Below.refl W.heap.size W).alloc (Nat.le_refl _) (.cells (ptA (.slice none 0 0) (.slice none 0 0) Pt.zero) 29)
  have h2 := (Below.refl _ (W.alloc (.cells (ptA (.slice none 0 0) (.slice none 0 0) Pt.zero) 29))).alloc (Nat.le_refl _) (.cells (faA 0 0) 32)
  refine ⟨hb.size, ?_, ?_, (hb.trans (h1.mono hb.size)).trans (h2.mono (by have := hb.size; simp; omega))⟩
  · rw [h2.block _ (by simp)]
    exact heap_alloc_new _ _
  · have := heap_alloc_new (W.alloc (.cells (ptA (.slice none 0 0) (.slice none 0 0) Pt.zero) 29)) (.cells (faA 0 0) 32)
    simpa using this
section
variable {ops : Array Oper} {rest : List Oper} {o : Oper} {a : Act} {w : World} {Q : Exit → Act → World → Prop}
/-- the answer's parts are stored, and its fault -/
theorem store_pt11 (hgd : o.guard = none) (x y : Operand) (ho : o.op = .store 29 x y) (w0 : World) (g : Nat) (pv : Value) (p : Pt) (hx : a.eval x = .pointer (some ⟨g, 0, none⟩)) (hy : a.eval y = pv) (hp : PtW w pv p) (hO : Out11 w0 g w)
    (h : ∀ W, (∃ cs, pv = .agg cs ∧ cs.size = 9 ∧ W.heap[g]? = some (.cells cs 29 (0, 0))) → W.heap[g + 1]? = some (.cells (faA 0 0) 32 (0, 0)) → PtW W pv p → Below w0.heap.size w0 W → wpList Try.prog ops Q rest (a.put o.dst undef) W) : wpList Try.prog ops Q (o :: rest) a w := by
  obtain ⟨a1, n1, c1, a2, n2, c2, e⟩ := hp.cells
  have hB := hO.hB
  refine wpList_store_row hgd 29 x y ho g (ptA (.slice a1 n1 c1) (.slice a2 n2 c2) p) hx (hy.trans e) 29 _ hO.p (by kernel_rfl) rfl (by simp [ptA, Value.oneCell']) (h _ ⟨_, e, rfl, setRow_heap _ _ _ _ _ _ hO.p⟩ ?_ (hp.setRow hO.p (.inl rfl)) (below_setRow hO.b hB _))
  rw [setRow_other _ _ _ _ (by omega)]; exact hO.f
theorem store_fa11 (hgd : o.guard = none) (x y : Operand) (ho : o.op = .store 32 x y) (w0 : World) (g : Nat) (pv : Value) (p : Pt) (c s : Int) (hB : w0.heap.size ≤ g) (hx : a.eval x = .pointer (some ⟨g + 1, 0, none⟩)) (hy : a.eval y = .agg (faA c s)) (hp : PtW w pv p)
    (hP : ∃ cs, pv = .agg cs ∧ cs.size = 9 ∧ w.heap[g]? = some (.cells cs 29 (0, 0))) (hF : w.heap[g + 1]? = some (.cells (faA 0 0) 32 (0, 0))) (hb : Below w0.heap.size w0 w)
    (h : ∀ W, (∃ cs, pv = .agg cs ∧ cs.size = 9 ∧ W.heap[g]? = some (.cells cs 29 (0, 0))) → W.heap[g + 1]? = some (.cells (faA c s) 32 (0, 0)) → PtW W pv p → Below w0.heap.size w0 W → wpList Try.prog ops Q rest (a.put o.dst undef) W) : wpList Try.prog ops Q (o :: rest) a w := by
  obtain ⟨cs, e, hs, hP⟩ := hP
  refine wpList_store_row hgd 32 x y ho (g + 1) (faA c s) hx hy 32 _ hF (by kernel_rfl) rfl (by simp [faA, Value.oneCell']) (h _ ⟨cs, e, hs, ?_⟩ (setRow_heap _ _ _ _ _ _ hF) (hp.setRow hF (.inr rfl)) (below_setRow hb (by omega) _))
  rw [setRow_other _ _ _ _ (by omega)]; exact hP
end
/-- the end of a function with an answer -/
theorem ans_results {fn : Func} {p q u : Tmp} (h : fn.results = #[.cell p 29, .cell q 32, .tmp u]) (tmps : Array Value) (W : World) (g : Nat) (pv : Value) (c s : Int) (hp : tmps.getD p undef = .pointer (some ⟨g, 0, none⟩)) (hq : tmps.getD q undef = .pointer (some ⟨g + 1, 0, none⟩))
    (hP : ∃ cs, pv = .agg cs ∧ cs.size = 9 ∧ W.heap[g]? = some (.cells cs 29 (0, 0))) (hF : W.heap[g + 1]? = some (.cells (faA c s) 32 (0, 0))) :
    (results fn tmps).run Try.prog W = .ok (.tuple #[pv, .agg (faA c s), tmps.getD u undef]) W := by
  obtain ⟨cs, e, hs, hP⟩ := hP
  subst e
  have hi : (Try.prog.info? 29).map (·.size) = some cs.size := by rw [hs]; kernel_rfl
  exact results_row2_tmp h tmps W g (g + 1) _ _ cs _ _ _ _ _ hp hq hP hF Try.underlying29 rfl hi Try.underlying32 rfl (by kernel_rfl)
set_option maxHeartbeats 4000000 in
theorem broken_any (c : Int) (w : World) :
    Calls Try.prog 10 #[.int .i64 c] w fun e w' => AnsW w' e (wrongP c 0) ∧ Below w.heap.size w w' := by
  have hO := Lib.hid (Out11.new w w (Below.refl _ _))
  unfold ptA faA at hO
  go_enter Try.func10, Try.ntmps10
  go_wp2_with (first
    | (refine store_pt11 rfl (.tmp 2) (.tmp 5) rfl w w.heap.size _ _ rfl rfl (PtW.zero _) hO.out ?_; intro W hP hF hp hb)
    | (refine store_fa11 rfl (.tmp 3) (.tmp 7) rfl w w.heap.size _ _ c 0 (Nat.le_refl _) rfl rfl hp hP hF hb ?_; intro W2 hP2 hF2 hp2 hb2))
  refine bodyPost_ret (ans_results rfl _ _ w.heap.size _ c 0 rfl rfl hP2 hF2) rfl ?_
  exact ⟨⟨_, rfl, hp2⟩, hb2⟩
set_option maxHeartbeats 4000000 in
theorem says_any (v : Value) (p : Pt) (w : World) (h : PtW w v p) :
    Calls Try.prog 12 #[v] w fun e w' => AnsW w' e (okP p) ∧ Below w.heap.size w w' := by
  obtain ⟨a1, n1, c1, a2, n2, c2, e⟩ := h.cells
  have hal := (Below.refl w.heap.size w).alloc (Nat.le_refl _) (.cells (ptA (.slice a1 n1 c1) (.slice a2 n2 c2) p) 29)
  have hO : Hid (Out11 w (w.heap.size + 1) _) := Lib.hid (by have := Out11.new w _ hal; simpa using this)
  have hp := Lib.hid (h.below hO.out.b)
  subst e
  clear hal h
  unfold ptA faA at hO
  unfold ptA at hp ⊢
  go_enter Try.func12, Try.ntmps12
  go_wp2_with (first
    | (refine store_pt11 rfl (.tmp 2) (.tmp 5) rfl w (w.heap.size + 1) _ _ rfl rfl hp.out hO.out ?_; intro W hP hF hp hb)
    | (refine store_fa11 rfl (.tmp 3) (.tmp 6) rfl w (w.heap.size + 1) _ _ 0 0 (Nat.le_succ _) rfl rfl hp hP hF hb ?_; intro W2 hP2 hF2 hp2 hb2))
  refine bodyPost_ret (ans_results rfl _ _ (w.heap.size + 1) _ 0 0 rfl rfl hP2 hF2) rfl ?_
  exact ⟨⟨_, rfl, hp2⟩, hb2⟩
end Go.Proofs.Ytohghphegcnfkaa
